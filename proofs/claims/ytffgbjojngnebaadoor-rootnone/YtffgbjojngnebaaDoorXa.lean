/-
  The contracts of package disk upon no disk, and upon one that New did not make. Own work.
-/
import Derived.Test.YtffgbjojngnebaaDoorQi
namespace Go.Proofs.YtffgbjojngnebaaDoor
open Go.RowKit

/-- no disk, or one that New did not make -/
def NoneV (w : World) (v : Value) : Prop := v = .pointer none ∨ ∃ b, v = .pointer (some ⟨b, 0, none⟩) ∧ w.cell? ⟨b, 0, none⟩ = some (.pointer none)
theorem NoneV.below {w w' : World} {v : Value} (h : NoneV w v) (hb : Below w.heap.size w w') : NoneV w' v := by
  rcases h with h | ⟨b, hv, hc⟩
  · exact .inl h
  · exact .inr ⟨b, hv, by rw [hb.cell (World.block_lt_of_cell? w _ hc)]; exact hc⟩
theorem NoneV.alloc {w : World} {v : Value} (h : NoneV w v) (o : Obj) : NoneV (w.alloc o) v := h.below ((Below.refl _ _).alloc (Nat.le_refl _) _)
theorem NoneV.drew {w : World} {v : Value} (h : NoneV w v) : NoneV w.drew v := h
theorem NoneV.made {w : World} {v : Value} (h : NoneV w v) : Calls Tryd.prog 64 #[v] w fun e w' => e = .returned (.bool false) ∧ w' = w := by
  rcases h with rfl | ⟨b, rfl, hc⟩
  · exact made_nil w
  · exact made_zero w b hc
theorem NoneV.shape {w : World} {v : Value} (h : NoneV w v) : ∃ a, v = .pointer a := by
  rcases h with rfl | ⟨b, rfl, hc⟩
  · exact ⟨_, rfl⟩
  · exact ⟨_, rfl⟩

set_option maxRecDepth 100000 in
set_option maxHeartbeats 800000 in
theorem list_none (w : World) (v : Value)  (h : NoneV w v) : Calls Tryd.prog 30 #[v] w fun e w' => e = .returned (.slice none 0 0) ∧ w' = w := by
  obtain ⟨a, rfl⟩ := h.shape
  have hc := h.made
  clear h
  go_enter Tryd.func30, Tryd.ntmps30
  go_wp2_with fail
  refine hc.mono ?_
  rintro e w' ⟨rfl, rfl⟩
  go_wp2
  go_ret
  exact ⟨rfl, rfl⟩
set_option maxRecDepth 100000 in
set_option maxHeartbeats 800000 in
theorem used_none (w : World) (v : Value)  (h : NoneV w v) : Calls Tryd.prog 29 #[v] w fun e w' => e = .returned (.int .i64 0) ∧ w' = w := by
  obtain ⟨a, rfl⟩ := h.shape
  have hc := h.made
  clear h
  go_enter Tryd.func29, Tryd.ntmps29
  go_wp2_with fail
  refine hc.mono ?_
  rintro e w' ⟨rfl, rfl⟩
  go_wp2
  go_ret
  exact ⟨rfl, rfl⟩
set_option maxRecDepth 100000 in
set_option maxHeartbeats 800000 in
theorem find_none (w : World) (v : Value) (n : ByteArray) (h : NoneV w v) : Calls Tryd.prog 51 #[v, .string n] w fun e w' => e = .returned (.tuple #[.int .i64 0, .int .i64 1]) ∧ w' = w := by
  obtain ⟨a, rfl⟩ := h.shape
  have hc := fails_none _ _ h.made
  clear h
  go_enter Tryd.func51, Tryd.ntmps51
  go_wp2_with fail
  refine hc.mono ?_
  rintro e w' ⟨rfl, rfl⟩
  go_wp2
  go_ret2
  exact ⟨rfl, rfl⟩
set_option maxRecDepth 100000 in
set_option maxHeartbeats 800000 in
theorem look_none (w : World) (v : Value) (n : ByteArray) (h : NoneV w v) : Calls Tryd.prog 71 #[v, .string n] w fun e w' => e = .returned (.agg #[.string ⟨#[]⟩, .slice none 0 0, .int .i64 0]) ∧ Below w.heap.size w w' := by
  obtain ⟨a, rfl⟩ := h.shape
  have hc := (h.alloc (.cells #[.string ⟨#[]⟩, .slice none 0 0, .int .i64 0] 84)).made
  clear h
  go_enter Tryd.func71, Tryd.ntmps71
  go_wp2_with fail
  refine hc.mono ?_
  rintro e w' ⟨rfl, rfl⟩
  go_wp2
  refine bodyPost_ret (v := .agg #[.string ⟨#[]⟩, .slice none 0 0, .int .i64 0]) (by simp [results, Tryd.results71, go_sem]) rfl ⟨rfl, ?_⟩
  repeat refine Below.setCell ?_ ?_ _
  all_goals first | exact Nat.le_refl _ | skip
  exact (Below.refl _ _).alloc (Nat.le_refl _) _
set_option maxRecDepth 100000 in
set_option maxHeartbeats 800000 in
theorem size_none (w : World) (v : Value) (n : ByteArray) (h : NoneV w v) : Calls Tryd.prog 34 #[v, .string n] w fun e w' => e = .returned (.int .i64 0) ∧ Below w.heap.size w w' := by
  obtain ⟨a, rfl⟩ := h.shape
  have hc := look_none _ _ n h
  clear h
  have hf := run_field1
  go_enter Tryd.func34, Tryd.ntmps34
  go_wp2_with fail
  refine hc.mono ?_
  rintro e w1 ⟨rfl, hb⟩
  go_wp2
  go_ret
  exact ⟨rfl, hb⟩
set_option maxRecDepth 100000 in
set_option maxHeartbeats 800000 in
theorem read_none (w : World) (v : Value) (n : ByteArray) (h : NoneV w v) : Calls Tryd.prog 28 #[v, .string n] w fun e w' => e = .returned (.tuple #[.slice none 0 0, .int .i64 1]) ∧ w' = w := by
  obtain ⟨a, rfl⟩ := h.shape
  have hc := find_none _ _ n h
  clear h
  go_enter Tryd.func28, Tryd.ntmps28
  go_wp2_with fail
  refine hc.mono ?_
  rintro e w' ⟨rfl, rfl⟩
  go_wp2
  go_ret2
  exact ⟨rfl, rfl⟩
set_option maxRecDepth 100000 in
set_option maxHeartbeats 800000 in
theorem crash_none (w : World) (v k t : Value) (h : NoneV w v) : Calls Tryd.prog 27 #[v, k, t] w fun e w' => e = .returned (.tuple #[]) ∧ w' = w := by
  obtain ⟨a, rfl⟩ := h.shape
  have hc := h.made
  clear h
  go_enter Tryd.func27, Tryd.ntmps27
  go_wp2_with fail
  refine hc.mono ?_
  rintro e w' ⟨rfl, rfl⟩
  go_wp2
  go_returns
  exact ⟨rfl, rfl⟩
set_option maxRecDepth 100000 in
set_option maxHeartbeats 800000 in
theorem sync_none (w : World) (v : Value) (n : ByteArray) (h : NoneV w v) : Calls Tryd.prog 18 #[v, .string n] w fun e w' => e = .returned (.int .i64 1) ∧ Below w.heap.size w w' := by
  obtain ⟨a, rfl⟩ := h.shape
  go_enter Tryd.func18, Tryd.ntmps18
  go_wp2_with fail
  refine (find_none _ _ n (h.alloc (.cells #[.pointer a] 33))).mono ?_
  rintro e w' ⟨rfl, rfl⟩
  go_wp2
  go_ret
  refine ⟨rfl, ?_⟩
  repeat refine Below.alloc ?_ ?_ _
  all_goals first | exact Below.refl _ _ | (simp; done) | (simp; omega)
set_option maxRecDepth 100000 in
set_option maxHeartbeats 800000 in
theorem remove_none (w : World) (v : Value) (n : ByteArray) (h : NoneV w v) : Calls Tryd.prog 32 #[v, .string n] w fun e w' => e = .returned (.int .i64 1) ∧ Below w.heap.size w w' := by
  obtain ⟨a, rfl⟩ := h.shape
  go_enter Tryd.func32, Tryd.ntmps32
  go_wp2_with fail
  refine (find_none _ _ n (h.alloc (.cells #[.pointer a] 33))).mono ?_
  rintro e w' ⟨rfl, rfl⟩
  go_wp2
  go_ret
  refine ⟨rfl, ?_⟩
  repeat refine Below.alloc ?_ ?_ _
  all_goals first | exact Below.refl _ _ | (simp; done) | (simp; omega)
set_option maxRecDepth 100000 in
set_option maxHeartbeats 800000 in
theorem rename_none (w : World) (v : Value) (n m : ByteArray) (h : NoneV w v) : Calls Tryd.prog 80 #[v, .string n, .string m] w fun e w' => e = .returned (.int .i64 1) ∧ Below w.heap.size w w' := by
  obtain ⟨a, rfl⟩ := h.shape
  go_enter Tryd.func80, Tryd.ntmps80
  go_wp2_with fail
  refine (find_none _ _ n ((h.alloc (.cells #[.pointer a] 33)).alloc (.cells #[.string m] 9))).mono ?_
  rintro e w' ⟨rfl, rfl⟩
  go_wp2
  go_ret
  refine ⟨rfl, ?_⟩
  repeat refine Below.alloc ?_ ?_ _
  all_goals first | exact Below.refl _ _ | (simp; done) | (simp; omega)
set_option maxRecDepth 100000 in
set_option maxHeartbeats 800000 in
theorem cut_none (w : World) (v : Value) (n : ByteArray) (k : Int) (h : NoneV w v) : Calls Tryd.prog 33 #[v, .string n, .int .i64 k] w fun e w' => e = .returned (.int .i64 1) ∧ Below w.heap.size w w' := by
  obtain ⟨a, rfl⟩ := h.shape
  go_enter Tryd.func33, Tryd.ntmps33
  go_wp2_with fail
  refine (find_none _ _ n ((h.alloc (.cells #[.pointer a] 33)).alloc (.cells #[.int .i64 k] 3))).mono ?_
  rintro e w' ⟨rfl, rfl⟩
  go_wp2
  go_ret
  refine ⟨rfl, ?_⟩
  repeat refine Below.alloc ?_ ?_ _
  all_goals first | exact Below.refl _ _ | (simp; done) | (simp; omega)
set_option maxRecDepth 100000 in
set_option maxHeartbeats 800000 in
theorem append_none (w : World) (v : Value) (n : ByteArray) (bo : Option Addr) (bl bc : Nat) (h : NoneV w v) : Calls Tryd.prog 16 #[v, .string n, .slice bo bl bc] w fun e w' => e = .returned (.int .i64 1) ∧ Below w.heap.size w w' := by
  obtain ⟨a, rfl⟩ := h.shape
  go_enter Tryd.func16, Tryd.ntmps16
  go_wp2_with fail
  refine (fails_none _ _ (((h.alloc (.cells #[.pointer a] 33)).alloc (.cells #[.string n] 9)).alloc (.cells #[.slice bo bl bc] 22)).made).mono ?_
  rintro e w' ⟨rfl, rfl⟩
  go_wp2
  go_ret
  refine ⟨rfl, ?_⟩
  repeat refine Below.alloc ?_ ?_ _
  all_goals first | exact Below.refl _ _ | (simp; done) | (simp; omega)
end Go.Proofs.YtffgbjojngnebaaDoor
