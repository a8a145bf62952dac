/-
  The contracts of bytes.check, Seal, CopyBytes, slices.Equal. The contract of bytes.Unseal. Small facts: string(b) under a name, a literal as what is read, what a call leaves. Own work.
-/
import Derived.Test.YtomhkjacngmnhaaGreatDoorQb
import Derived.Deep.QuietTactic
import Derived.BigQuiet
import Derived.Deep.RegionWith
namespace Go.Proofs.YtomhkjacngmnhaaGreatDoor
open Go.RowKit

set_option maxRecDepth 100000 in
set_option maxHeartbeats 800000 in
theorem check_any (v : Value) (l : List UInt8) (w : World) (hrd : Rd w v l) :
    Calls Tryz.prog 145 #[v] w fun e w' => ∃ v, e = .returned v ∧ Own w' w.heap.size v (be4 (crc l)) ∧ Below w.heap.size w w' := by
  have hmk : ∀ w, (Instr.makeSlice 37 (.int .i64 4) (.int .i64 4)).run Tryz.prog w = .ok (.slice (some ⟨w.heap.size, 0, none⟩) 4 4) (w.alloc (.cells #[.int .u8 0, .int .u8 0, .int .u8 0, .int .u8 0] 5)) := fun _ => by kernel_rfl
  obtain ⟨R, HR⟩ := named (crc l)
  rw [← HR.out]
  obtain ⟨ao, cap, hv, -⟩ := id hrd
  subst hv
  go_enter Tryz.func145, Tryz.ntmps145
  go_wp2_with fail
  refine (crc_any _ l _ hrd).mono ?_
  rintro e w1 ⟨rfl, hw1⟩
  subst hw1
  rw [← HR.out]
  go_wp2
  refine wp_loop_rounds 5 ?_
  iterate 5 (rw [rounds_succ]; go_wp2)
  go_ret
  rw [be4_cells]
  exact ⟨_, rfl, Own.new w (be4 R) (by simp [be4, maxLen]), (Below.refl _ _).alloc (Nat.le_refl _) _⟩

set_option maxRecDepth 100000 in
set_option maxHeartbeats 800000 in
theorem seal_any (v : Value) (l : List UInt8) (w : World) (hrd : Rd w v l) (hl : l.length ≤ 140737488355000) :
    Calls Tryz.prog 122 #[v] w fun e w' => ∃ v, e = .returned v ∧ Own w' w.heap.size v (l ++ be4 (crc l)) ∧ Below w.heap.size w w' := by
  have h4 : (be4 (crc l)).length = 4 := rfl
  obtain ⟨p, HP⟩ := named (be4 (crc l))
  rw [← HP.out] at h4 ⊢
  obtain ⟨ao, cap, hv, -⟩ := id hrd
  subst hv
  have H4 : Hid (p.length ≤ 4) := by show p.length ≤ 4; omega
  clear h4
  go_enter Tryz.func122, Tryz.ntmps122
  go_wp2_with fail
  refine (check_any _ l _ hrd).mono ?_
  rintro e w1 ⟨v1, rfl, hown1, hb1⟩
  rw [← HP.out] at hown1
  have hrd1 := hrd.below hb1
  have hrd2 := hown1.rd
  obtain ⟨a1, c1, hv1, -⟩ := hown1.rd
  subst hv1
  go_wp2_with fail
  refine (concat2 w1 _ _ l p hrd1 hrd2 (by have := H4.out; omega)).mono ?_
  rintro e w2 ⟨v2, rfl, hown2, hb2⟩
  go_wp2
  go_ret
  exact ⟨_, rfl, hown2.mono hb1.size, hb1.trans (hb2.mono hb1.size)⟩

end Go.Proofs.YtomhkjacngmnhaaGreatDoor
namespace Go.Proofs.YtomhkjacngmnhaaGreatDoor
open Go.RowKit

end Go.Proofs.YtomhkjacngmnhaaGreatDoor
namespace Go.Proofs.YtomhkjacngmnhaaGreatDoor
open Go.RowKit

/-- string(b), under a name that the walk does not lay open -/
def toStr (v : Value) : Sem Value := convert 37 9 v
theorem run_toStr (v : Value) (w : World) : (convert 37 9 v).run Tryz.prog w = (toStr v).run Tryz.prog w := rfl
theorem run_str (w : World) (v : Value) (l : List UInt8) (h : Rd w v l) : (toStr v).run Tryz.prog w = .ok (.string ⟨l.toArray⟩) w := by
  unfold toStr
  obtain ⟨ao, cap, rfl, h1, h2, h3, h4⟩ := h
  cases ao with
  | none =>
    have hc := h3 rfl
    have hl : l = [] := List.eq_nil_of_length_eq_zero (by omega)
    subst hl
    rw [run_convert_bytes_string w 37 9 5 _ _ _ Tryz.underlying37 Tryz.underlying5 Tryz.underlying9]
    rfl
  | some a => exact run_convert_bytes_back w 37 9 5 a cap l Tryz.underlying37 Tryz.underlying5 Tryz.underlying9 (fun j hj => h4 a rfl j hj)
theorem Rd.lit (w : World) (cs : Array Value) (l : List UInt8) (n : Nat) (e : TypeId) (m : Nat × Nat) (h : cs = (BV l).toArray) (hn : n = l.length) (hl : n ≤ maxLen) : Rd (w.alloc (.cells cs e m)) (.slice (some ⟨w.heap.size, 0, none⟩) n n) l := by
  subst h
  subst hn
  refine ⟨_, _, rfl, Nat.le_refl _, hl, by simp, fun a ha i hi => ?_⟩
  obtain rfl := Option.some.inj ha
  have : (⟨w.heap.size, 0, none⟩ : Addr).add i = ⟨w.heap.size, i, none⟩ := by unfold Addr.add; split <;> simp_all
  rw [this, cell_of_row _ w.heap.size i (BV l).toArray e m (heap_alloc_new w _)]
  simp [BV, hi]
theorem below_alloc_call {w w1 w2 : World} {o : Obj} (h : Below w.heap.size w w1) (hb : Below (w1.alloc o).heap.size (w1.alloc o) w2) : Below w.heap.size w w2 :=
  (h.alloc h.size o).trans (hb.mono (by have := h.size; simp; omega))
theorem below_call {w w1 w2 : World} (h : Below w.heap.size w w1) (hb : Below w1.heap.size w1 w2) : Below w.heap.size w w2 := h.trans (hb.mono h.size)
end Go.Proofs.YtomhkjacngmnhaaGreatDoor
