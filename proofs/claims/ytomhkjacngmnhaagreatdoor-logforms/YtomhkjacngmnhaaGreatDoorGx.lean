/-
  Bytes after Parse, as lists. Own work.
-/
import Derived.Test.YtomhkjacngmnhaaGreatDoorGv
import Derived.Test.YtomhkjacngmnhaaGreatDoorFd
namespace Go.Proofs.YtomhkjacngmnhaaGreatDoor
open Go.RowKit

theorem getU_at (l : List UInt8) (p n q : Nat) (h : getU l p = (n, q, 0)) : q = p + (U n).length ∧ l.drop p = U n ++ l.drop q := by
  unfold getU at h
  split at h
  · simp at h
  · rw [Int.toNat_natCast] at h
    obtain ⟨m, h1, h2, h3, -⟩ := rdU_inv p 0 0 n q _ (by omega) h
    simp only [Nat.mul_zero, Nat.pow_zero, Nat.mul_one, Nat.zero_add, Nat.add_zero] at h1 h2
    subst h1
    have h3' : (l.drop p).take (U n).length = U n := h3
    have h2' : q = p + (U n).length := h2
    refine ⟨h2', ?_⟩
    rw [h2', ← List.drop_drop]
    calc l.drop p = (l.drop p).take (U n).length ++ (l.drop p).drop (U n).length := (List.take_append_drop _ _).symm
      _ = U n ++ (l.drop p).drop (U n).length := by rw [h3']

theorem getB_at (l : List UInt8) (p : Nat) (k : Int) (h : (getB l p k).2.2 = 0) : l.drop p = recL (getB l p k).1 ++ l.drop (getB l p k).2.1 := by
  cases hg : getU l p with
  | mk n r =>
    obtain ⟨q, e⟩ := r
    unfold getB at h ⊢
    rw [hg] at h ⊢
    simp only at h ⊢
    by_cases he : e ≠ 0
    · rw [if_pos he] at h
      exact absurd h he
    · have he0 : e = 0 := by omega
      subst he0
      rw [if_neg he] at h ⊢
      by_cases h2 : k < 0 ∨ k < (n : Int)
      · rw [if_pos h2] at h
        simp at h
      · rw [if_neg h2] at h ⊢
        by_cases h4 : l.length - q < n
        · rw [if_pos h4] at h
          simp at h
        · rw [if_neg h4]
          obtain ⟨-, h6⟩ := getU_at l p n q hg
          have hl : ((l.drop q).take n).length = n := by rw [List.length_take, List.length_drop]; omega
          show l.drop p = recL ((l.drop q).take n) ++ l.drop (q + n)
          unfold recL
          rw [hl, h6, List.append_assoc, ← List.drop_drop, List.take_append_drop]

theorem recs_inv (l : List UInt8) (c p : Nat) (acc : List (List UInt8)) (h : (recsL l c p acc).2.2 = 0) :
    ∃ ps, (recsL l c p acc).1 = acc ++ ps ∧ ps.length = c ∧ l.drop p = (ps.map recL).flatten ++ l.drop (recsL l c p acc).2.1 := by
  induction c generalizing p acc with
  | zero => exact ⟨[], by simp [recsL], rfl, by simp [recsL]⟩
  | succ c ih =>
    unfold recsL at h ⊢
    by_cases hg : (getB l p l.length).2.2 = 0
    · rw [if_pos hg] at h ⊢
      obtain ⟨ps, h1, h2, h3⟩ := ih _ _ h
      refine ⟨(getB l p l.length).1 :: ps, by rw [h1]; simp, by simp [h2], ?_⟩
      rw [getB_at l p l.length hg, h3]
      simp
    · rw [if_neg hg] at h
      exact absurd h hg

theorem parse_inv (l : List UInt8) (h : (parseL l).2.2 = 0) : bytesL (parseL l).1 (parseL l).2.1 = (l, 0) := by
  unfold parseL at h ⊢
  by_cases h1 : 1048576 < l.length
  · rw [if_pos h1] at h; simp at h
  rw [if_neg h1] at h ⊢
  by_cases h2 : (getU l 0).2.2 ≠ 0 ∨ isNum (getU l 0).1 = false
  · rw [if_pos h2] at h; simp at h
  rw [if_neg h2] at h ⊢
  by_cases h3 : (getU l (getU l 0).2.1).2.2 ≠ 0 ∨ isCnt (getU l (getU l 0).2.1).1 = false
  · rw [if_pos h3] at h; simp at h
  rw [if_neg h3] at h ⊢
  by_cases h4 : (recsL l (getU l (getU l 0).2.1).1 (getU l (getU l 0).2.1).2.1 []).2.2 ≠ 0 ∨ (recsL l (getU l (getU l 0).2.1).1 (getU l (getU l 0).2.1).2.1 []).2.1 ≠ l.length
  · rw [if_pos h4] at h; simp at h
  rw [if_neg h4]
  simp only [not_or, Decidable.not_not, Bool.not_eq_false] at h2 h3 h4
  obtain ⟨h2a, h2b⟩ := h2
  obtain ⟨h3a, h3b⟩ := h3
  obtain ⟨h4a, h4b⟩ := h4
  have g0 := getU_at l 0 (getU l 0).1 (getU l 0).2.1 (by show getU l 0 = _; rw [← h2a])
  have g1 := getU_at l (getU l 0).2.1 (getU l (getU l 0).2.1).1 (getU l (getU l 0).2.1).2.1 (by rw [← h3a])
  obtain ⟨ps, r1, r2, r3⟩ := recs_inv l _ _ [] h4a
  rw [h4b, List.drop_length, List.append_nil] at r3
  have hb : batL (getU l 0).1 ps = l := by
    unfold batL
    rw [r2, ← r3, ← g1.2, ← g0.2, List.drop_zero]
  show bytesL (getU l 0).1 _ = _
  rw [r1, List.nil_append]
  unfold bytesL
  rw [if_pos ⟨h2b, by rw [r2]; exact h3b⟩, hb, if_neg h1]

end Go.Proofs.YtomhkjacngmnhaaGreatDoor
