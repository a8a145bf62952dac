/-
  A log that neither Begin nor Resume made: each call's contract; LogNone's walk. Own work.
-/
import Derived.Test.YtomhkjacngmnhaaGreatDoorQw
namespace Go.Proofs.YtomhkjacngmnhaaGreatDoor
open Go.RowKit

/-- no log -/
def NoneL (w : World) (l : Value) : Prop := l = .pointer none ∨ ∃ b, l = .pointer (some ⟨b, 0, none⟩) ∧ w.heap[b]? = some (.cells #[.pointer none] 93 (0, 0))
theorem NoneL.below {w w' : World} {l : Value} (h : NoneL w l) (hb : Below w.heap.size w w') : NoneL w' l := by
  rcases h with h | ⟨b, h1, h2⟩
  · exact .inl h
  · exact .inr ⟨b, h1, by rw [hb.block b (lt_of_heap h2)]; exact h2⟩
section
variable {w : World} {l : Value}
set_option maxRecDepth 100000 in
set_option maxHeartbeats 400000 in
theorem lmade_none (h : NoneL w l) : Calls Tryz.prog 83 #[l] w fun e w' => e = .returned (.bool false) ∧ Below w.heap.size w w' := by
  rcases h with rfl | ⟨b, rfl, hb⟩
  · go_enter Tryz.func83, Tryz.ntmps83
    go_wp2_with fail
    go_ret
    exact ⟨rfl, Below.refl _ _⟩
  · have c0 : w.cell? ⟨b, 0, none⟩ = some (.pointer none) := by rw [cell_of hb]; rfl
    go_enter Tryz.func83, Tryz.ntmps83
    go_wp2_with fail
    go_ret
    exact ⟨rfl, Below.refl _ _⟩
theorem NoneL.ptr (h : NoneL w l) : ∃ p, l = .pointer p := by
  rcases h with rfl | ⟨b, rfl, -⟩
  · exact ⟨_, rfl⟩
  · exact ⟨_, rfl⟩
set_option maxRecDepth 100000 in
set_option maxHeartbeats 400000 in
theorem lfails_none (h : NoneL w l) : Calls Tryz.prog 71 #[l] w fun e w' => e = .returned (.int .i64 1) ∧ Below w.heap.size w w' := by
  obtain ⟨p, rfl⟩ := h.ptr
  go_enter Tryz.func71, Tryz.ntmps71
  go_wp2_with fail
  refine (lmade_none h).mono ?_
  rintro e w1 ⟨rfl, hb⟩
  go_wp2_with fail
  go_ret
  exact ⟨rfl, hb⟩
set_option maxRecDepth 100000 in
set_option maxHeartbeats 400000 in
theorem write_none (h : NoneL w l) (a : Option Addr) (k c : Nat) : Calls Tryz.prog 19 #[l, .slice a k c] w fun e w' => e = .returned (.tuple #[.int .i64 0, .int .i64 1]) ∧ Below w.heap.size w w' := by
  obtain ⟨p, rfl⟩ := h.ptr
  have h2 := h.below ((Below.refl _ _).alloc (Nat.le_refl _) (Obj.cells #[Value.pointer p] 28))
  go_enter Tryz.func19, Tryz.ntmps19
  go_wp2_with fail
  refine (lfails_none h2).mono ?_
  rintro e w1 ⟨rfl, hb⟩
  go_wp2_with fail
  go_ret2
  exact ⟨rfl, ((Below.refl _ _).alloc (Nat.le_refl _) _).trans (hb.mono (by simp))⟩
set_option maxRecDepth 100000 in
set_option maxHeartbeats 400000 in
theorem sync_nonel (h : NoneL w l) : Calls Tryz.prog 20 #[l] w fun e w' => e = .returned (.int .i64 1) ∧ Below w.heap.size w w' := by
  obtain ⟨p, rfl⟩ := h.ptr
  have h2 := h.below ((Below.refl _ _).alloc (Nat.le_refl _) (Obj.cells #[Value.pointer p] 28))
  go_enter Tryz.func20, Tryz.ntmps20
  go_wp2_with fail
  refine (lfails_none h2).mono ?_
  rintro e w1 ⟨rfl, hb⟩
  go_wp2_with fail
  go_ret
  exact ⟨rfl, ((Below.refl _ _).alloc (Nat.le_refl _) _).trans (hb.mono (by simp))⟩
set_option maxRecDepth 100000 in
set_option maxHeartbeats 400000 in
theorem trim_none (h : NoneL w l) (n : Int) : Calls Tryz.prog 21 #[l, .int .i64 n] w fun e w' => e = .returned (.tuple #[.slice none 0 0, .int .i64 1]) ∧ Below w.heap.size w w' := by
  obtain ⟨p, rfl⟩ := h.ptr
  have h2 := h.below ((Below.refl _ _).alloc (Nat.le_refl _) (Obj.cells #[Value.pointer p] 28))
  go_enter Tryz.func21, Tryz.ntmps21
  go_wp2_with fail
  refine (lfails_none h2).mono ?_
  rintro e w1 ⟨rfl, hb⟩
  go_wp2_with fail
  go_ret2
  exact ⟨rfl, ((Below.refl _ _).alloc (Nat.le_refl _) _).trans (hb.mono (by simp))⟩
set_option maxRecDepth 100000 in
set_option maxHeartbeats 400000 in
theorem last_none (h : NoneL w l) : Calls Tryz.prog 23 #[l] w fun e w' => e = .returned (.int .i64 0) ∧ Below w.heap.size w w' := by
  obtain ⟨p, rfl⟩ := h.ptr
  go_enter Tryz.func23, Tryz.ntmps23
  go_wp2_with fail
  refine (lmade_none h).mono ?_
  rintro e w1 ⟨rfl, hb⟩
  go_wp2_with fail
  go_ret
  exact ⟨rfl, hb⟩
set_option maxRecDepth 100000 in
set_option maxHeartbeats 400000 in
theorem acked_none (h : NoneL w l) : Calls Tryz.prog 24 #[l] w fun e w' => e = .returned (.int .i64 0) ∧ Below w.heap.size w w' := by
  obtain ⟨p, rfl⟩ := h.ptr
  go_enter Tryz.func24, Tryz.ntmps24
  go_wp2_with fail
  refine (lmade_none h).mono ?_
  rintro e w1 ⟨rfl, hb⟩
  go_wp2_with fail
  go_ret
  exact ⟨rfl, hb⟩
set_option maxRecDepth 100000 in
set_option maxHeartbeats 400000 in
theorem files_none (h : NoneL w l) : Calls Tryz.prog 26 #[l] w fun e w' => e = .returned (.slice none 0 0) ∧ Below w.heap.size w w' := by
  obtain ⟨p, rfl⟩ := h.ptr
  go_enter Tryz.func26, Tryz.ntmps26
  go_wp2_with fail
  refine (lmade_none h).mono ?_
  rintro e w1 ⟨rfl, hb⟩
  go_wp2_with fail
  go_ret
  exact ⟨rfl, hb⟩
set_option maxRecDepth 100000 in
set_option maxHeartbeats 400000 in
theorem over_none (h : NoneL w l) : Calls Tryz.prog 22 #[l] w fun e w' => e = .returned (.bool false) ∧ Below w.heap.size w w' := by
  obtain ⟨p, rfl⟩ := h.ptr
  go_enter Tryz.func22, Tryz.ntmps22
  go_wp2_with fail
  refine (lmade_none h).mono ?_
  rintro e w1 ⟨rfl, hb⟩
  go_wp2_with fail
  go_ret
  exact ⟨rfl, hb⟩
end
set_option maxRecDepth 100000 in
set_option maxHeartbeats 800000 in
theorem none_walk (w : World) (hw : Laid w) (h6 : 6 ≤ w.heap.size) (a : Option Addr) (k c : Nat) (n : Int) : Calls Tryz.prog 6 #[.slice a k c, .int .i64 n] w fun e w' => e = .returned (.bool true) ∧ Below w.heap.size w w' := by
  obtain ⟨W, HW⟩ := named ((w.alloc (Obj.cells #[Value.pointer none] 93)).alloc (Obj.cells #[Value.pointer none, Value.pointer (some ⟨w.heap.size, 0, none⟩)] 28))
  have HBW : Hid (Below w.heap.size w W) := by show Below _ _ _; rw [HW.out]; exact ((Below.refl _ _).alloc (Nat.le_refl _) _).alloc (by simp) _
  have e0 : W.heap[w.heap.size]? = some (.cells #[.pointer none] 93 (0, 0)) := by rw [HW.out, Below.heap_alloc _ _ _ (by simp)]; exact heap_alloc_new w _
  have e1 : W.heap[w.heap.size + 1]? = some (.cells #[Value.pointer none, Value.pointer (some ⟨w.heap.size, 0, none⟩)] 28 (0, 0)) := by rw [HW.out]; have := heap_alloc_new (w.alloc (Obj.cells #[Value.pointer none] 93)) (Obj.cells #[Value.pointer none, Value.pointer (some ⟨w.heap.size, 0, none⟩)] 28); simpa using this
  have HE : Hid (∀ i, i < 2 → ∃ p, W.cell? ⟨w.heap.size + 1, i, none⟩ = some (.pointer p) ∧ NoneL W (.pointer p)) := by
    intro i hi
    rcases i with _ | _ | i
    · exact ⟨none, by rw [cell_of e1]; rfl, .inl rfl⟩
    · exact ⟨some ⟨w.heap.size, 0, none⟩, by rw [cell_of e1]; rfl, .inr ⟨_, rfl, e0⟩⟩
    · omega
  have hlt1 := lt_of_heap e1
  clear e0 e1
  go_enter Tryz.func6, Tryz.ntmps6
  go_wp2
  rw [← HW.out]
  go_loopw [17] (fun iv wr => ∃ k : Nat, k ≤ 2 ∧ iv = .int .i64 k ∧ Hid (Below W.heap.size W wr)) (fun iv _ => 2 - (intOf iv).toNat)
  case atStart => exact ⟨0, by omega, rfl, Below.refl _ _⟩
  case round =>
    obtain ⟨i, hi, rfl, HB⟩ := hrel
    by_cases hlt : i < 2
    · obtain ⟨p, hc, hn⟩ := HE.out i hlt
      have hc1 := (HB.out.cell (p := ⟨w.heap.size + 1, i, none⟩) hlt1).trans hc
      have hlt' : (i : Int) < 2 := by omega
      go_wp2_with fail
      refine (write_none (hn.below HB.out) a k c).mono ?_
      rintro e w1 ⟨rfl, hb⟩
      have HB1 : Hid _ := below_call HB.out hb
      clear hb
      go_wp2_with fail
      refine (trim_none (hn.below HB1.out) n).mono ?_
      rintro e w2 ⟨rfl, hb⟩
      have HB2 : Hid _ := below_call HB1.out hb
      clear hb HB1
      go_wp2_with fail
      refine (sync_nonel (hn.below HB2.out)).mono ?_
      rintro e w3 ⟨rfl, hb⟩
      have HB3 : Hid _ := below_call HB2.out hb
      clear hb HB2
      go_wp2_with fail
      refine (last_none (hn.below HB3.out)).mono ?_
      rintro e w4 ⟨rfl, hb⟩
      have HB4 : Hid _ := below_call HB3.out hb
      clear hb HB3
      go_wp2_with fail
      refine (acked_none (hn.below HB4.out)).mono ?_
      rintro e w5 ⟨rfl, hb⟩
      have HB5 : Hid _ := below_call HB4.out hb
      clear hb HB4
      go_wp2_with fail
      refine (files_none (hn.below HB5.out)).mono ?_
      rintro e w6 ⟨rfl, hb⟩
      have HB6 : Hid _ := below_call HB5.out hb
      clear hb HB5
      go_wp2_with fail
      refine (over_none (hn.below HB6.out)).mono ?_
      rintro e w7 ⟨rfl, hb⟩
      have HB7 : Hid _ := below_call HB6.out hb
      clear hb HB6
      go_wp2_with fail
      go_roundw
      case rel => exact ⟨i + 1, by omega, by go_num, HB7⟩
      case measure => simp [intOf]; omega
    · have hlt' : ¬ (i : Int) < 2 := by omega
      have hb := below_call HBW.out HB.out
      have hs := hb.size
      have haw := awake_true wr (hw.below hb) (by omega)
      go_wp2_with fail
      refine haw.mono ?_
      rintro e w1 ⟨rfl, hb1⟩
      go_wp2_with fail
      go_ret
      exact ⟨rfl, below_call hb hb1⟩
end Go.Proofs.YtomhkjacngmnhaaGreatDoor
