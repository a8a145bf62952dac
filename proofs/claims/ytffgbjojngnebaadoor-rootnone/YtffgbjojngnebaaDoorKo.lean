/-
  The contracts of root's stands, Read and Write upon no disk, and upon one that New did not make. Own work.
-/
import Derived.Test.YtffgbjojngnebaaDoorKn
import Derived.Test.YtffgbjojngnebaaDoorXa
namespace Go.Proofs.YtffgbjojngnebaaDoor
open Go.RowKit

set_option maxRecDepth 100000 in
set_option maxHeartbeats 800000 in
theorem stands_none (w : World) (v : Value) (h : NoneV w v) (n : ByteArray) :
    Calls Tryd.prog 53 #[v, .string n] w fun e w' => e = .returned (.tuple #[.agg #[.int .i64 0, .int .i64 0, .slice none 0 0], .int .i64 1]) ∧ Below w.heap.size w w' := by
  obtain ⟨W, HW⟩ := named (w.alloc (Obj.cells #[.int .i64 0, .int .i64 0, .slice none 0 0] 24))
  have HBW : Hid (Below w.heap.size w W) := by show Below _ _ _; rw [HW.out]; exact (Below.refl _ _).alloc (Nat.le_refl _) _
  have HC : Hid (C3 W w.heap.size (.int .i64 0) (.int .i64 0) (.slice none 0 0)) := by show C3 _ _ _ _ _; rw [HW.out]; exact C3.new _ _ _ _ _
  have hrd := read_none W v n (h.below HBW.out)
  obtain ⟨a, rfl⟩ := h.shape
  clear h
  go_enter Tryd.func53, Tryd.ntmps53
  go_wp2_with fail
  rw [← HW.out]
  refine hrd.mono ?_
  rintro e w1 ⟨rfl, rfl⟩
  obtain ⟨g0, c0, c1, c2, f0, f1, f2⟩ := HC.out
  go_wp2_with fail
  refine bodyPost_ret (v := .tuple #[.agg #[.int .i64 0, .int .i64 0, .slice none 0 0], .int .i64 1]) (by simp [results, Tryd.results53, go_sem, c0, c1, c2]) rfl ?_
  exact ⟨rfl, by first | exact HBW.out | exact below_set3 HBW.out _ _ _ (Nat.le_refl _)⟩
set_option maxRecDepth 100000 in
set_option maxHeartbeats 800000 in
theorem readRoot_none (w : World) (v : Value) (h : NoneV w v) (hw : Laid w) :
    Calls Tryd.prog 19 #[v] w fun e w' => e = .returned (.tuple #[.agg #[.int .i64 0, .int .i64 0, .slice none 0 0], .bool false, .int .i64 1]) ∧ Below w.heap.size w w' := by
  obtain ⟨W, HW⟩ := named ((w.alloc (Obj.cells #[.int .i64 0, .int .i64 0, .slice none 0 0] 24)).alloc (Obj.cells #[.int .i64 0, .int .i64 0, .slice none 0 0] 24))
  obtain ⟨T1, T2, T3, -⟩ := two_new' w (Obj.cells #[.int .i64 0, .int .i64 0, .slice none 0 0] 24) (Obj.cells #[.int .i64 0, .int .i64 0, .slice none 0 0] 24)
  rw [← HW.out] at T1 T2 T3
  have HBW : Hid (Below w.heap.size w W) := T3
  have HC : Hid (C3 W w.heap.size (.int .i64 0) (.int .i64 0) (.slice none 0 0)) := C3.of T1
  have hnm := (hw.below T3).n0
  have hst := stands_none W v (h.below T3) nR0
  obtain ⟨a, rfl⟩ := h.shape
  clear T1 T2 T3 h hw
  go_enter Tryd.func19, Tryd.ntmps19
  go_wp2_with fail
  rw [← HW.out]
  go_loopw [10] (fun iv wr => iv = .int .i64 0 ∧ wr = W) (fun _ _ => 0)
  case atStart => exact ⟨rfl, rfl⟩
  case round =>
    obtain ⟨rfl, rfl⟩ := hrel
    go_wp2_with fail
    refine hst.mono ?_
    clear hst
    rintro e w2 ⟨rfl, hb2⟩
    have HBX : Hid (Below w2.heap.size w2 (w2.alloc (Obj.cells #[.int .i64 0, .int .i64 0, .slice none 0 0] 24))) := (Below.refl _ _).alloc (Nat.le_refl _) _
    have HB3 : Hid _ := below_call (below_call HBW.out hb2) HBX.out
    have HC3 : Hid _ := C3.below (C3.below HC.out hb2) HBX.out
    clear hb2
    obtain ⟨g0, c0, c1, c2, f0, f1, f2⟩ := HC3.out
    go_wp2_with fail
    refine bodyPost_ret (v := .tuple #[.agg #[.int .i64 0, .int .i64 0, .slice none 0 0], .bool false, .int .i64 1]) (by simp [results, Tryd.results19, go_sem, c0, c1, c2]) rfl ?_
    exact ⟨rfl, by first | exact HB3.out | exact below_set3 HB3.out _ _ _ (Nat.le_refl _)⟩
set_option maxRecDepth 100000 in
set_option maxHeartbeats 800000 in
theorem writeRoot_none (w : World) (v : Value) (h : NoneV w v) (hw : Laid w) (rs rb : Int) (ao : Option Addr) (n cap : Nat) :
    Calls Tryd.prog 15 #[v, .agg #[.int .i64 rs, .int .i64 rb, .slice ao n cap]] w fun e w' => e = .returned (.tuple #[.agg #[.int .i64 0, .int .i64 0, .slice none 0 0], .int .i64 1]) ∧ Below w.heap.size w w' := by
  obtain ⟨W, HW⟩ := named ((w.alloc (Obj.cells #[.int .i64 rs, .int .i64 rb, .slice ao n cap] 24)).alloc (Obj.cells #[.int .i64 0, .int .i64 0, .slice none 0 0] 24))
  obtain ⟨T1, T2, T3, -⟩ := two_new' w (Obj.cells #[.int .i64 rs, .int .i64 rb, .slice ao n cap] 24) (Obj.cells #[.int .i64 0, .int .i64 0, .slice none 0 0] 24)
  rw [← HW.out] at T1 T2 T3
  have HBW : Hid (Below w.heap.size w W) := T3
  have HC : Hid (C3 W (w.heap.size + 1) (.int .i64 0) (.int .i64 0) (.slice none 0 0)) := C3.of T2
  have hrd := readRoot_none W v (h.below T3) (hw.below T3)
  obtain ⟨a, rfl⟩ := h.shape
  clear T1 T2 T3 h hw
  go_enter Tryd.func15, Tryd.ntmps15
  go_wp2_with fail
  rw [← HW.out]
  refine hrd.mono ?_
  clear hrd
  rintro e w1 ⟨rfl, hb1⟩
  have HBX : Hid (Below w1.heap.size w1 (w1.alloc (Obj.cells #[.int .i64 0, .int .i64 0, .slice none 0 0] 24))) := (Below.refl _ _).alloc (Nat.le_refl _) _
  have HB3 : Hid _ := below_call (below_call HBW.out hb1) HBX.out
  have HC3 : Hid _ := C3.below (C3.below HC.out hb1) HBX.out
  clear hb1
  obtain ⟨g0, c0, c1, c2, f0, f1, f2⟩ := HC3.out
  go_wp2_with fail
  refine bodyPost_ret (v := .tuple #[.agg #[.int .i64 0, .int .i64 0, .slice none 0 0], .int .i64 1]) (by simp [results, Tryd.results15, go_sem, c0, c1, c2]) rfl ?_
  exact ⟨rfl, by first | exact HB3.out | exact below_set3 HB3.out _ _ _ (by omega)⟩
end Go.Proofs.YtffgbjojngnebaaDoor
