/-
  A log that is over; how far a log goes; batches that came in. Own work.
-/
import Derived.Test.YtomhkjacngmnhaaGreatDoorGq
namespace Go.Proofs.YtomhkjacngmnhaaGreatDoor
open Go.RowKit

section
variable {w : World} {F : Nat → Prop} {bl bs : Nat} {d : Value} {L : AL} {D : AD}
set_option maxRecDepth 100000 in
set_option maxHeartbeats 400000 in
theorem write_over (h : Lk w F bl bs d L D) (ho : L.over = true) (a : Option Addr) (k c : Nat) : Calls Tryz.prog 19 #[.pointer (some ⟨bl, 0, none⟩), .slice a k c] w fun e w' => e = .returned (.tuple #[.int .i64 0, .int .i64 17]) ∧ Below w.heap.size w w' := by
  have h2 := h.below ((Below.refl _ _).alloc (Nat.le_refl _) (Obj.cells #[Value.pointer (some ⟨bl, 0, none⟩)] 28))
  have hfl := lfails_any h2
  rw [show failsL L = 17 by unfold failsL; rw [ho]; rfl] at hfl
  go_enter Tryz.func19, Tryz.ntmps19
  go_wp2_with fail
  refine hfl.mono ?_
  rintro e w1 ⟨rfl, hb⟩
  go_wp2_with fail
  go_ret2
  exact ⟨rfl, ((Below.refl _ _).alloc (Nat.le_refl _) _).trans (hb.mono (by simp))⟩
set_option maxRecDepth 100000 in
set_option maxHeartbeats 400000 in
theorem sync_over (h : Lk w F bl bs d L D) (ho : L.over = true) : Calls Tryz.prog 20 #[.pointer (some ⟨bl, 0, none⟩)] w fun e w' => e = .returned (.int .i64 17) ∧ Below w.heap.size w w' := by
  have h2 := h.below ((Below.refl _ _).alloc (Nat.le_refl _) (Obj.cells #[Value.pointer (some ⟨bl, 0, none⟩)] 28))
  have hfl := lfails_any h2
  rw [show failsL L = 17 by unfold failsL; rw [ho]; rfl] at hfl
  go_enter Tryz.func20, Tryz.ntmps20
  go_wp2_with fail
  refine hfl.mono ?_
  rintro e w1 ⟨rfl, hb⟩
  go_wp2_with fail
  go_ret
  exact ⟨rfl, ((Below.refl _ _).alloc (Nat.le_refl _) _).trans (hb.mono (by simp))⟩
end

/-- a log goes on: no more segments than one more, the last batch one more at most -/
def Goes (L L' : AL) : Prop := L'.firsts.length ≤ L.firsts.length + 1 ∧ L'.last = L.last
theorem ackL_goes (L : AL) (D : AD) : (ackL L D).1.firsts.length = L.firsts.length ∧ (ackL L D).1.last = L.last := by
  unfold ackL
  split
  · exact ⟨rfl, rfl⟩
  · split <;> exact ⟨rfl, rfl⟩
theorem beginG_goes (n : Int) (L : AL) (D : AD) : (beginG L D n).1.firsts.length ≤ L.firsts.length + 1 ∧ (beginG L D n).1.last = L.last := by
  unfold beginG
  split
  · split
    · exact ⟨by simp, rfl⟩
    · exact ⟨by simp, rfl⟩
  · exact ⟨by simp, rfl⟩
theorem putG_goes (b : List UInt8) (L : AL) (D : AD) : (putG L D b).1 = L := by
  unfold putG
  split <;> rfl
theorem roomG_goes (n : Int) (L : AL) (D : AD) : (roomG n L D).1.firsts.length ≤ L.firsts.length + 1 ∧ (roomG n L D).1.last = L.last := by
  unfold roomG
  split
  · exact ⟨by simp, rfl⟩
  · obtain ⟨a1, a2⟩ := ackL_goes L D
    obtain ⟨b1, b2⟩ := beginG_goes n (ackL L D).1 (ackL L D).2.1
    by_cases h1 : (ackL L D).2.2 = 0
    · by_cases h2 : (beginG (ackL L D).1 (ackL L D).2.1 n).2.2 = 0
      · simp only [doG, if_pos h1, if_pos h2]
        exact ⟨by omega, by rw [b2, a2]⟩
      · simp only [doG, if_pos h1, if_neg h2]
        exact ⟨by omega, by rw [b2, a2]⟩
    · simp only [doG, if_neg h1]
      exact ⟨by omega, a2⟩
theorem writeR_goes (n : Int) (b : List UInt8) (L : AL) (D : AD) : (writeR n b L D).1.firsts.length ≤ L.firsts.length + 1 ∧ (writeR n b L D).1.last = L.last := by
  unfold writeR
  obtain ⟨a1, a2⟩ := roomG_goes n L D
  have hp := putG_goes b (roomG n L D).1 (roomG n L D).2.1
  by_cases h1 : (roomG n L D).2.2 = 0
  · by_cases h2 : (putG (roomG n L D).1 (roomG n L D).2.1 b).2.2 = 0
    · simp only [doG, if_pos h1, if_pos h2, hp]
      exact ⟨a1, a2⟩
    · simp only [doG, if_pos h1, if_neg h2, hp]
      exact ⟨a1, a2⟩
  · simp only [doG, if_neg h1]
    exact ⟨a1, a2⟩
theorem writeG_goes (qs : List (List UInt8)) (L : AL) (D : AD) : (writeG qs L D).1.firsts.length ≤ L.firsts.length + 1 ∧ (writeG qs L D).1.last ≤ L.last + 1 := by
  unfold writeG
  split
  · exact ⟨by simp, by simp; omega⟩
  · unfold writeB
    obtain ⟨a1, a2⟩ := writeR_goes (L.last + 1) (bytesL (L.last + 1) qs).1 L D
    split
    · split
      · exact ⟨a1, by simp⟩
      · exact ⟨a1, by show (writeR (L.last + 1) (bytesL (L.last + 1) qs).1 L D).1.last ≤ _; rw [a2]; omega⟩
    · exact ⟨by simp, by simp; omega⟩
theorem syncG_goes (L : AL) (D : AD) : (syncG L D).1.firsts.length = L.firsts.length ∧ (syncG L D).1.last = L.last := by
  unfold syncG
  split
  · exact ⟨rfl, rfl⟩
  · obtain ⟨a1, a2⟩ := ackL_goes L D
    by_cases h1 : (ackL L D).2.2 = 0
    · simp only [doG, if_pos h1]
      exact ⟨a1, a2⟩
    · simp only [doG, if_neg h1]
      exact ⟨a1, a2⟩
theorem flat_small (qs : List (List UInt8)) (h : qs.all (fun q => decide (q.length ≤ 60)) = true) : ((qs.map recL).flatten).length ≤ 70 * qs.length := by
  induction qs with
  | nil => simp
  | cons q t ih =>
    simp only [List.all_cons, Bool.and_eq_true, decide_eq_true_eq] at h
    have := ih h.2
    have hu := U_len q.length
    simp only [List.map_cons, List.flatten_cons, List.length_append, List.length_cons, recL]
    omega
/-- a batch that is looked at may be written -/
theorem bytes_small (n : Int) (qs : List (List UInt8)) (hn : 1 ≤ n ∧ n ≤ 1152921504606846976) (h : smallB qs = true) (hne : qs ≠ []) : (bytesL n qs).2 = 0 ∧ bytesL n qs = (batL n qs, 0) ∧ (batL n qs).length ≤ 1420 := by
  unfold smallB at h
  simp only [Bool.and_eq_true, decide_eq_true_eq] at h
  have hp : 0 < qs.length := by
    rcases Nat.eq_zero_or_pos qs.length with h0 | h0
    · exact absurd (List.eq_nil_of_length_eq_zero h0) hne
    · exact h0
  have hf := flat_small qs h.2
  have u1 := U_len n
  have u2 := U_len qs.length
  have hl : (batL n qs).length ≤ 1420 := by
    unfold batL
    simp only [List.length_append]
    omega
  have e : bytesL n qs = (batL n qs, 0) := by
    unfold bytesL
    rw [if_pos ⟨by unfold isNum; simp [hn.1, hn.2], by unfold isCnt; simp; omega⟩, if_neg (by omega)]
  exact ⟨by rw [e], e, hl⟩

/-- batches that came in -/
def RdLL (w : World) (v : Value) (bs : List (Value × List (Value × List UInt8))) : Prop := RdV w v (bs.map Prod.fst) ∧ ∀ i (h : i < bs.length), RdL w bs[i].1 bs[i].2
theorem RdLL.below {w w' : World} {v : Value} {bs : List (Value × List (Value × List UInt8))} (h : RdLL w v bs) (hb : Below w.heap.size w w') : RdLL w' v bs := ⟨h.1.below hb, fun i hi => (h.2 i hi).below hb⟩
end Go.Proofs.YtomhkjacngmnhaaGreatDoor
