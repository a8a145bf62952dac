/-
  Roots as bytes: plain functions and lemmas, with no walk. Own work.
-/
import Derived.Test.YtffgbjojngnebaaDoorQe
import Derived.Test.YtffgbjojngnebaaDoorQf
import Derived.PlainAid
namespace Go.Proofs.YtffgbjojngnebaaDoor
open Go.RowKit

/-- a root: its number, the batch up to which it goes, its blob -/
structure AR where
  serial : Int
  batch : Int
  blob : List UInt8

def noR : AR := ⟨0, 0, []⟩
def isRt (s b : Int) (n : Nat) : Bool := decide (1 ≤ s) && (decide (s ≤ 1099511627776) && (decide (0 ≤ b) && (decide (b ≤ 576460752303423488) && decide (n ≤ 524288))))
theorem isRt_iff (s b : Int) (n : Nat) : isRt s b n = true ↔ 1 ≤ s ∧ s ≤ 1099511627776 ∧ 0 ≤ b ∧ b ≤ 576460752303423488 ∧ n ≤ 524288 := by
  simp only [isRt, Bool.and_eq_true, decide_eq_true_eq]
def isR (r : AR) : Bool := isRt r.serial r.batch r.blob.length
def bodyR (r : AR) : List UInt8 := (U r.serial ++ U r.batch) ++ (U r.blob.length ++ r.blob)
/-- the bytes of a root; 2: it is none -/
def bytesR (r : AR) : List UInt8 × Nat := if isR r = true then (frameL (bodyR r), 0) else ([], 2)
/-- the root that stands in a body, right or not; the place behind it; what went wrong -/
def rootOfL (l : List UInt8) : AR × Nat × Nat :=
  if (getU l 0).2.2 ≠ 0 then (noR, 0, (getU l 0).2.2)
  else if (getU l (getU l 0).2.1).2.2 ≠ 0 then (noR, 0, (getU l (getU l 0).2.1).2.2)
  else if (getB l (getU l (getU l 0).2.1).2.1 524288).2.2 ≠ 0 then (noR, 0, (getB l (getU l (getU l 0).2.1).2.1 524288).2.2)
  else (⟨IntKind.i64.wrap (getU l 0).1, IntKind.i64.wrap (getU l (getU l 0).2.1).1, (getB l (getU l (getU l 0).2.1).2.1 524288).1⟩, (getB l (getU l (getU l 0).2.1).2.1 524288).2.1, 0)
/-- what bytes tell: a root; 10: they are none's -/
def parseR (l : List UInt8) : AR × Nat :=
  if (getF l 0).2.2 ≠ 0 ∨ (getF l 0).2.1 ≠ l.length then (noR, 10)
  else if (rootOfL (getF l 0).1).2.2 ≠ 0 ∨ (rootOfL (getF l 0).1).2.1 ≠ (getF l 0).1.length ∨ isR (rootOfL (getF l 0).1).1 = false then (noR, 10)
  else ((rootOfL (getF l 0).1).1, 0)

theorem body_size (r : AR) : 0 < (bodyR r).length ∧ (bodyR r).length ≤ 30 + r.blob.length := by
  have h1 := U_len r.serial
  have h2 := U_len r.batch
  have h3 := U_len r.blob.length
  have h4 := U_pos r.serial
  unfold bodyR
  simp only [List.length_append]
  omega
theorem frameR_size (r : AR) : (frameL (bodyR r)).length ≤ 45 + r.blob.length := by
  have := body_size r
  have h3 := U_len (bodyR r).length
  rw [frameL_length]
  omega
theorem rootOf_back (r : AR) (h : isR r = true) : rootOfL (bodyR r) = (r, (bodyR r).length, 0) := by
  obtain ⟨s, b, l⟩ := r
  obtain ⟨h1, h2, h3, h4, h5⟩ := (isRt_iff s b l.length).1 h
  obtain ⟨n, rfl⟩ : ∃ n : Nat, s = (n : Int) := ⟨s.toNat, by omega⟩
  obtain ⟨m, rfl⟩ : ∃ m : Nat, b = (m : Int) := ⟨b.toNat, by omega⟩
  have e0 : getU (bodyR ⟨n, m, l⟩) 0 = (n, (U n).length, 0) := by
    have := getU_U n (by omega) [] (U m ++ (U l.length ++ l))
    simpa [bodyR] using this
  have e1 : getU (bodyR ⟨n, m, l⟩) ((U n).length : Nat) = (m, (U n).length + (U m).length, 0) := by
    have := getU_U m (by omega) (U n) (U l.length ++ l)
    simpa [bodyR] using this
  have e2 : getB (bodyR ⟨n, m, l⟩) (((U n).length + (U m).length : Nat) : Int) 524288 = (l, (bodyR ⟨n, m, l⟩).length, 0) := by
    have := getB_blob l (U n ++ U m) [] 524288 (by omega) (by omega)
    rw [List.append_nil, List.length_append] at this
    unfold bodyR
    simp only [List.length_append]
    simpa [blobL] using this
  have w1 : IntKind.i64.wrap (n : Int) = n := IntWalk.i64_in _ (by omega)
  have w2 : IntKind.i64.wrap (m : Int) = m := IntWalk.i64_in _ (by omega)
  unfold rootOfL
  rw [e0]
  simp only
  rw [e1]
  simp only
  rw [e2]
  simp only [ne_eq, not_true_eq_false, if_false, w1, w2]
theorem parse_back (r : AR) (h : isR r = true) : parseR (frameL (bodyR r)) = (r, 0) := by
  obtain ⟨h1, h2, h3, h4, h5⟩ := (isRt_iff _ _ _).1 h
  have hs := body_size r
  have e0 : getF (frameL (bodyR r)) 0 = (bodyR r, (frameL (bodyR r)).length, 0) := by
    have := getF_frame (bodyR r) [] [] hs.1 (by omega)
    simpa using this
  unfold parseR
  rw [e0]
  simp only
  rw [if_neg (by simp), rootOf_back r h]
  simp only
  rw [if_neg (by simp [h])]
theorem parse_err (l : List UInt8) : (parseR l).2 = 0 ∨ parseR l = (noR, 10) := by
  unfold parseR
  split
  · exact .inr rfl
  · split
    · exact .inr rfl
    · exact .inl rfl

theorem getU_at (l : List UInt8) (p n q : Nat) (h : getU l p = (n, q, 0)) : q = p + (U n).length ∧ l.drop p = U n ++ l.drop q := by
  unfold getU at h
  split at h
  · simp at h
  · rw [Int.toNat_natCast] at h
    obtain ⟨m, h1, h2, h3, -⟩ := rdU_inv p 0 0 n q _ (by omega) h
    simp only [Nat.mul_zero, Nat.pow_zero, Nat.mul_one, Nat.zero_add, Nat.add_zero] at h1 h2
    subst h1
    have h3' : (l.drop p).take (U n).length = U n := h3
    have h2' : q = p + (U n).length := h2
    refine ⟨h2', ?_⟩
    rw [h2', ← List.drop_drop]
    have e := (List.take_append_drop (U n).length (l.drop p)).symm
    rw [h3'] at e
    exact e
theorem getB_at (l : List UInt8) (p : Nat) (k : Int) (h : (getB l p k).2.2 = 0) : l.drop p = blobL (getB l p k).1 ++ l.drop (getB l p k).2.1 ∧ (k : Int) ≥ (getB l p k).1.length := by
  cases hg : getU l p with
  | mk n r =>
    obtain ⟨q, e⟩ := r
    unfold getB at h ⊢
    rw [hg] at h ⊢
    simp only at h ⊢
    by_cases he : e ≠ 0
    · rw [if_pos he] at h
      exact absurd h he
    · have he0 : e = 0 := by omega
      subst he0
      rw [if_neg he] at h ⊢
      by_cases h2 : k < 0 ∨ k < (n : Int)
      · rw [if_pos h2] at h
        simp at h
      · rw [if_neg h2] at h ⊢
        by_cases h4 : l.length - q < n
        · rw [if_pos h4] at h
          simp at h
        · rw [if_neg h4]
          obtain ⟨-, h6⟩ := getU_at l p n q hg
          have hl : ((l.drop q).take n).length = n := by rw [List.length_take, List.length_drop]; omega
          refine ⟨?_, ?_⟩
          · show l.drop p = blobL ((l.drop q).take n) ++ l.drop (q + n)
            unfold blobL
            rw [hl, h6, List.append_assoc, ← List.drop_drop, List.take_append_drop]
          · show k ≥ ((((l.drop q).take n).length : Nat) : Int)
            rw [hl]
            omega
theorem wrap_pos (n : Nat) (hn : n < 18446744073709551616) (h : 0 ≤ IntKind.i64.wrap (n : Int)) : IntKind.i64.wrap (n : Int) = n := by
  rcases Nat.lt_or_ge n 9223372036854775808 with h1 | h1
  · exact IntWalk.i64_in _ (by omega)
  · have e : IntKind.i64.wrap (n : Int) = (n : Int) - 18446744073709551616 := Go.PlainAid.i64_high (by omega) (by omega)
    omega
theorem rootOf_inv (l : List UInt8) (h : (rootOfL l).2.2 = 0) (hr : isR (rootOfL l).1 = true) (he : (rootOfL l).2.1 = l.length) : bodyR (rootOfL l).1 = l := by
  unfold rootOfL at h hr he ⊢
  by_cases h1 : (getU l 0).2.2 ≠ 0
  · rw [if_pos h1] at h; exact absurd h h1
  rw [if_neg h1] at h hr he ⊢
  by_cases h2 : (getU l (getU l 0).2.1).2.2 ≠ 0
  · rw [if_pos h2] at h; exact absurd h h2
  rw [if_neg h2] at h hr he ⊢
  by_cases h3 : (getB l (getU l (getU l 0).2.1).2.1 524288).2.2 ≠ 0
  · rw [if_pos h3] at h; exact absurd h h3
  rw [if_neg h3] at hr he ⊢
  simp only [ne_eq, Decidable.not_not] at h1 h2 h3
  obtain ⟨r1, r2, r3, r4, r5⟩ := (isRt_iff _ _ _).1 hr
  simp only at r1 r3
  have w1 := wrap_pos _ (getU_lt l 0) (by omega)
  have w2 := wrap_pos _ (getU_lt l (getU l 0).2.1) (by omega)
  have g0 := getU_at l 0 (getU l 0).1 (getU l 0).2.1 (by show getU l 0 = _; rw [← h1])
  have g1 := getU_at l (getU l 0).2.1 (getU l (getU l 0).2.1).1 (getU l (getU l 0).2.1).2.1 (by rw [← h2])
  have g2 := getB_at l _ _ h3
  simp only at he
  rw [he, List.drop_length, List.append_nil] at g2
  unfold bodyR
  simp only [w1, w2]
  have e := g2.1
  unfold blobL at e
  rw [← e, List.append_assoc, ← g1.2, ← g0.2, List.drop_zero]
theorem parse_inv (l : List UInt8) (h : (parseR l).2 = 0) : isR (parseR l).1 = true ∧ frameL (bodyR (parseR l).1) = l := by
  unfold parseR at h ⊢
  by_cases h1 : (getF l 0).2.2 ≠ 0 ∨ (getF l 0).2.1 ≠ l.length
  · rw [if_pos h1] at h; simp at h
  rw [if_neg h1] at h ⊢
  by_cases h2 : (rootOfL (getF l 0).1).2.2 ≠ 0 ∨ (rootOfL (getF l 0).1).2.1 ≠ (getF l 0).1.length ∨ isR (rootOfL (getF l 0).1).1 = false
  · rw [if_pos h2] at h; simp at h
  rw [if_neg h2]
  simp only [not_or, Decidable.not_not, Bool.not_eq_false, ne_eq] at h1 h2
  obtain ⟨a1, a2⟩ := h1
  obtain ⟨b1, b2, b3⟩ := h2
  refine ⟨b3, ?_⟩
  show frameL (bodyR (rootOfL (getF l 0).1).1) = l
  rw [rootOf_inv _ b1 b3 b2]
  obtain ⟨-, -, -, g⟩ := getF_inv l a1
  rw [a2, List.take_length] at g
  exact g.symm
theorem parse_serial (l : List UInt8) : parseR l = (noR, 10) ∨ 1 ≤ (parseR l).1.serial ∧ (parseR l).1.serial ≤ 1099511627776 := by
  rcases parse_err l with h | h
  · obtain ⟨h1, -⟩ := parse_inv l h
    obtain ⟨r1, r2, -⟩ := (isRt_iff _ _ _).1 h1
    exact .inr ⟨r1, r2⟩
  · exact .inl h
theorem bytes_inj (r s : AR) (hr : isR r = true) (hs : isR s = true) (h : frameL (bodyR r) = frameL (bodyR s)) : r = s := by
  have h1 := parse_back r hr
  have h2 := parse_back s hs
  rw [h, h2] at h1
  exact (congrArg Prod.fst h1).symm
/-- a root's bytes that are cut, with noughts behind, are none's -/
theorem parse_torn (r : AR) (h : isR r = true) (k m : Nat) (hk : k < (frameL (bodyR r)).length) : parseR ((frameL (bodyR r)).take k ++ List.replicate m 0) = (noR, 10) := by
  obtain ⟨h1, h2, h3, h4, h5⟩ := (isRt_iff _ _ _).1 h
  have hs := body_size r
  have := getF_torn (bodyR r) [] k m hs.1 (by omega) hk
  unfold parseR
  rw [if_pos (.inl (by simpa using this))]
theorem parse_nil : parseR [] = (noR, 10) := by
  unfold parseR
  rw [if_pos (.inl (by decide))]
end Go.Proofs.YtffgbjojngnebaaDoor
