/-
  A log of entries that is cut: what is read of it. Plain lemmas. Own work.
-/
import Derived.Test.YtpiiehenmkinaaaDoorMath
namespace Go.Proofs.YtpiiehenmkinaaaDoor
open Go.RowKit

/-- the bytes of a number, cut: too short -/
theorem rdU_cut (p f i acc n k : Nat) (hf : i + f ≤ 10) (hk : k < (sev f n).length) (hn : n * 2 ^ (7 * i) < 18446744073709551616) : rdU p i acc ((sev f n).take k) = (0, 0, 11) := by
  induction f generalizing i acc n k with
  | zero => simp [sev] at hk
  | succ f ih =>
    by_cases hs : n < 128
    · rw [sev, if_pos hs] at hk ⊢
      have : k = 0 := by simpa using hk
      subst this
      rfl
    · rw [sev, if_neg hs] at hk ⊢
      cases k with
      | zero => rfl
      | succ k =>
        rw [List.take_succ_cons]
        have hx : (UInt8.ofNat (n % 128 + 128)).toNat = n % 128 + 128 := by rw [UInt8.toNat_ofNat']; omega
        have hi9 : i ≠ 9 := by
          intro h9
          subst h9
          simp at hn
          omega
        rw [rdU_cons _ _ _ _ _ (by omega), hx]
        have hm : mayB ((n % 128 + 128 : Nat) : Int) i = true := by
          unfold mayB
          have h9 : ((i : Int) == 9) = false := by
            simp
            omega
          rw [h9]
          simp
          omega
        rw [if_neg (by rw [hm]; simp), if_neg (by omega)]
        refine ih (i + 1) _ (n / 128) k (by omega) (by simpa using hk) ?_
        have e2 : n / 128 * 2 ^ (7 * (i + 1)) = n / 128 * 128 * 2 ^ (7 * i) := by rw [pow_split, Nat.mul_assoc]
        have e3 : n / 128 * 128 * 2 ^ (7 * i) ≤ n * 2 ^ (7 * i) := Nat.mul_le_mul_right _ (by omega)
        omega
theorem getU_cut (n k : Nat) (hn : n ≤ 18446744073709551615) (ahead : List UInt8) (hk : k < (U n).length) : getU (ahead ++ (U n).take k) ahead.length = (0, 0, 11) := by
  unfold getU
  rw [if_neg (by simp; omega)]
  have : ((ahead.length : Nat) : Int).toNat = ahead.length := by omega
  rw [this, List.drop_left]
  exact rdU_cut ahead.length 10 0 0 n k (by omega) hk (by simp; omega)

/-- a string with its length ahead -/
def blobL (b : List UInt8) : List UInt8 := U b.length ++ b
theorem blobL_length (b : List UInt8) : (blobL b).length = (U b.length).length + b.length := by simp [blobL]
theorem getB_blob (b ahead rest : List UInt8) (q : Int) (hb : b.length ≤ 1000000) (hq : (b.length : Int) ≤ q) : getB (ahead ++ (blobL b ++ rest)) ahead.length q = (b, ahead.length + (blobL b).length, 0) := by
  have hg := getU_U b.length (by omega) ahead (b ++ rest)
  have e : ahead ++ (blobL b ++ rest) = ahead ++ (U b.length ++ (b ++ rest)) := by simp [blobL]
  rw [e]
  unfold getB
  rw [hg]
  simp only [ne_eq, not_true_eq_false, if_false]
  rw [if_neg (by omega)]
  have hl : (ahead ++ (U (b.length : Int) ++ (b ++ rest))).length - (ahead.length + (U (b.length : Int)).length) = b.length + rest.length := by
    simp only [List.length_append]
    omega
  rw [if_neg (by rw [hl]; omega), blobL_length]
  have hd : (ahead ++ (U (b.length : Int) ++ (b ++ rest))).drop (ahead.length + (U (b.length : Int)).length) = b ++ rest := by
    rw [← List.append_assoc, ← List.length_append, List.drop_left]
  rw [hd, List.take_left]
  simp only [Prod.mk.injEq, true_and, and_true]
  omega
theorem getB_blob_cut (b ahead : List UInt8) (k : Nat) (q : Int) (hb : b.length ≤ 1000000) (hq : (b.length : Int) ≤ q) (hk : k < (blobL b).length) : getB (ahead ++ (blobL b).take k) ahead.length q = ([], 0, 11) := by
  rw [blobL_length] at hk
  by_cases hu : k < (U b.length).length
  · have e : (blobL b).take k = (U b.length).take k := by rw [blobL, List.take_append_of_le_length (by omega)]
    unfold getB
    rw [e, getU_cut _ _ (by omega) _ hu]
    simp
  · obtain ⟨j, rfl⟩ : ∃ j, k = (U b.length).length + j := ⟨k - (U b.length).length, by omega⟩
    have e : (blobL b).take ((U b.length).length + j) = U b.length ++ b.take j := by
      rw [blobL, List.take_append, List.take_of_length_le (by omega)]
      congr 2
      omega
    have hg := getU_U b.length (by omega) ahead (b.take j)
    unfold getB
    rw [e, hg]
    simp only [ne_eq, not_true_eq_false, if_false]
    rw [if_neg (by omega), if_pos]
    simp only [List.length_append, List.length_take]
    omega

/-- what an entry is: its numbers, its bytes -/
def bodyL (n : Nat) (i : Int) (b : List UInt8) : List UInt8 := (U n ++ U (foldI i)) ++ blobL b
def entryL (n : Nat) (i : Int) (b : List UInt8) : List UInt8 := blobL (bodyL n i b ++ be4 (crc (bodyL n i b)))

theorem body_length (n : Nat) (i : Int) (b : List UInt8) : (bodyL n i b).length = (U n).length + (U (foldI i)).length + (U b.length).length + b.length := by
  simp [bodyL, blobL]
  omega
theorem body_N (n : Nat) (i : Int) (b : List UInt8) (hn : n ≤ 18446744073709551615) : getU (bodyL n i b) 0 = (n, (U n).length, 0) := by
  have := getU_U n hn [] (U (foldI i) ++ blobL b)
  simpa [bodyL] using this
theorem body_I (n : Nat) (i : Int) (b : List UInt8) (h0 : -9223372036854775808 ≤ i) (h1 : i ≤ 9223372036854775807) : getU (bodyL n i b) (U n).length = ((foldI i).toNat, (U n).length + (U (foldI i)).length, 0) := by
  have hr := foldI_range i h0 h1
  obtain ⟨m, hm⟩ := Int.eq_ofNat_of_zero_le hr.1
  have := getU_U m (by omega) (U n) (blobL b)
  rw [hm]
  unfold bodyL
  rw [hm, List.append_assoc]
  simpa using this
theorem body_B (n : Nat) (i : Int) (b : List UInt8) (hb : b.length ≤ 100) : getB (bodyL n i b) ((U n).length + (U (foldI i)).length : Nat) (bodyL n i b).length = (b, (bodyL n i b).length, 0) := by
  have := getB_blob b (U n ++ U (foldI i)) [] (bodyL n i b).length (by omega) (by rw [body_length]; omega)
  rw [List.append_nil, List.length_append] at this
  unfold bodyL at this ⊢
  rw [this]
  simp [blobL]
  omega
theorem entry_unseal (n : Nat) (i : Int) (b : List UInt8) : unsealL (bodyL n i b ++ be4 (crc (bodyL n i b))) = (bodyL n i b, 0) := by
  have h4 : (be4 (crc (bodyL n i b))).length = 4 := rfl
  unfold unsealL
  rw [if_neg (by rw [List.length_append, h4]; omega), List.length_append, h4, show (bodyL n i b).length + 4 - 4 = (bodyL n i b).length by omega, List.drop_left, List.take_left, if_pos rfl]
theorem sealed_length (n : Nat) (i : Int) (b : List UInt8) (hb : b.length ≤ 100) : (bodyL n i b ++ be4 (crc (bodyL n i b))).length ≤ 134 := by
  have h1 : ∀ z, (U z).length ≤ 10 := fun z => by
    unfold U
    have : ∀ f n, (sev f n).length ≤ f := by
      intro f
      induction f with
      | zero => intro n; simp [sev]
      | succ f ih => intro n; unfold sev; split <;> simp; exact ih _
    exact this 10 _
  have h2 := h1 n
  have h3 := h1 (foldI i)
  have h4 := h1 b.length
  rw [List.length_append, body_length]
  show _ + 4 ≤ 134
  omega
theorem entry_length (n : Nat) (i : Int) (b : List UInt8) (hb : b.length ≤ 100) : 0 < (entryL n i b).length ∧ (entryL n i b).length ≤ 144 := by
  have h1 := sealed_length n i b hb
  have h2 := U_pos ((bodyL n i b ++ be4 (crc (bodyL n i b))).length : Int)
  unfold entryL
  rw [blobL_length]
  have h3 : (U ((bodyL n i b ++ be4 (crc (bodyL n i b))).length : Int)).length ≤ 10 := by
    unfold U
    have : ∀ f n, (sev f n).length ≤ f := by
      intro f
      induction f with
      | zero => intro n; simp [sev]
      | succ f ih => intro n; unfold sev; split <;> simp; exact ih _
    exact this 10 _
  omega

end Go.Proofs.YtpiiehenmkinaaaDoor
