/-
  Frames as lists: what is put is got, what is cut is none. Own work, no walk.
-/
import Derived.Test.YtlpjfcfajagobaaFb
import Derived.Test.YtlpjfcfajagobaaMathe
import Derived.Test.YtlpjfcfajagobaaMathc
namespace Go.Proofs.Ytlpjfcfajagobaa
open Go.RowKit

theorem be4_len (r : BitVec 32) : (be4 r).length = 4 := rfl
theorem frameL_length (b : List UInt8) : (frameL b).length = (U b.length).length + b.length + 5 := by
  unfold frameL
  simp only [List.length_append, be4_len, List.length_singleton]
  omega
theorem bnd_frame (b ahead tail : List UInt8) (h0 : 0 < b.length) (h1 : b.length ≤ 1048576) (ht : b.length + 5 ≤ tail.length) :
    bnd (ahead ++ (U b.length ++ tail)) ahead.length = (ahead.length + (U b.length).length, ahead.length + (U b.length).length + b.length + 4, 0) := by
  have hg := getU_U b.length (by omega) ahead tail
  unfold bnd
  rw [hg]
  simp only
  rw [if_neg (by simp), if_neg (by omega), if_neg (by simp only [List.length_append]; omega)]
theorem bnd_short (b ahead tail : List UInt8) (h0 : 0 < b.length) (h1 : b.length ≤ 1048576) (ht : tail.length < b.length + 5) :
    bnd (ahead ++ (U b.length ++ tail)) ahead.length = (0, 0, 11) := by
  have hg := getU_U b.length (by omega) ahead tail
  unfold bnd
  rw [hg]
  simp only
  rw [if_neg (by simp), if_neg (by omega), if_pos (by simp only [List.length_append]; omega)]
theorem unseal_sealed (b : List UInt8) : unsealL (b ++ be4 (crc b)) = (b, 0) := by
  unfold unsealL
  rw [if_neg (by rw [List.length_append, be4_len]; omega), List.length_append, be4_len, show b.length + 4 - 4 = b.length by omega, List.drop_left, List.take_left, if_pos rfl]
/-- a frame, its parts not told yet: ahead, a length, what should be a body and its sum, a last byte, what is behind -/
theorem getF_parts (n : Nat) (ahead body rest : List UInt8) (x : UInt8) (h0 : 0 < n) (h1 : n ≤ 1048576) (hb : body.length = n + 4) :
    getF (ahead ++ (U n ++ (body ++ (x :: rest)))) ahead.length =
      if x ≠ 165 then ([], 0, 10) else if (unsealL body).2 ≠ 0 then ([], 0, (unsealL body).2) else ((unsealL body).1, ahead.length + (U n).length + n + 5, 0) := by
  have hbn : bnd (ahead ++ (U n ++ (body ++ (x :: rest)))) ahead.length = (ahead.length + (U n).length, ahead.length + (U n).length + n + 4, 0) := by
    have hg := getU_U n (by omega) ahead (body ++ (x :: rest))
    unfold bnd
    rw [hg]
    simp only
    rw [if_neg (by simp), if_neg (by omega), if_neg (by simp only [List.length_append, List.length_cons]; omega)]
  have hA : ahead ++ (U n ++ (body ++ (x :: rest))) = ((ahead ++ U n) ++ body) ++ (x :: rest) := by simp
  have hlast : ahead.length + (U n).length + n + 4 = ((ahead ++ U n) ++ body).length := by simp only [List.length_append]; omega
  unfold getF
  rw [hbn]
  simp only
  rw [if_neg (by simp)]
  have e1 : (ahead ++ (U n ++ (body ++ (x :: rest)))).getD (ahead.length + (U n).length + n + 4) 0 = x := by
    rw [hA, hlast]
    simp [List.getD]
  have e2 : List.drop (ahead.length + (U n).length) (List.take (ahead.length + (U n).length + n + 4) (ahead ++ (U n ++ (body ++ (x :: rest))))) = body := by
    rw [hA, hlast, List.take_left, ← List.length_append, List.drop_left]
  rw [e1, e2]
theorem getF_frame (b ahead rest : List UInt8) (h0 : 0 < b.length) (h1 : b.length ≤ 1048576) :
    getF (ahead ++ (frameL b ++ rest)) ahead.length = (b, ahead.length + (frameL b).length, 0) := by
  have e : ahead ++ (frameL b ++ rest) = ahead ++ (U b.length ++ ((b ++ be4 (crc b)) ++ (165 :: rest))) := by unfold frameL; simp
  rw [e, getF_parts b.length ahead (b ++ be4 (crc b)) rest 165 h0 h1 (by rw [List.length_append, be4_len]), unseal_sealed, frameL_length]
  simp
  omega

/-- noughts alone tell none -/
theorem getF_noughts (ahead : List UInt8) (m : Nat) : (getF (ahead ++ List.replicate m 0) ahead.length).2.2 ≠ 0 := by
  have hg : getU (ahead ++ List.replicate m 0) ahead.length = (0, 0, 11) ∨ getU (ahead ++ List.replicate m 0) ahead.length = (0, ahead.length + 1, 0) := by
    unfold getU
    rw [if_neg (by simp only [List.length_append]; omega)]
    rw [show ((ahead.length : Nat) : Int).toNat = ahead.length from by omega, List.drop_left]
    cases m with
    | zero => left; rfl
    | succ m => right; rw [List.replicate_succ, rdU]; rfl
  have hb : (bnd (ahead ++ List.replicate m 0) ahead.length).2.2 ≠ 0 := by
    unfold bnd
    rcases hg with hg | hg
    · rw [hg]; simp
    · rw [hg]; simp
  unfold getF
  rw [if_pos hb]
  exact hb
/-- a number that is cut, with noughts behind, is none -/
theorem rdU_torn (p f i acc n k m : Nat) (hf : i + f ≤ 10) (hk : k < (sev f n).length) (hi : 0 < i ∨ 0 < k) (hn : n * 2 ^ (7 * i) < 18446744073709551616) :
    (rdU p i acc ((sev f n).take k ++ List.replicate m 0)).2.2 ≠ 0 := by
  induction f generalizing i acc n k with
  | zero => simp [sev] at hk
  | succ f ih =>
    cases k with
    | zero =>
      rw [List.take_zero, List.nil_append]
      cases m with
      | zero => simp [rdU]
      | succ m =>
        rw [List.replicate_succ, rdU_cons _ _ _ _ _ (by omega)]
        have : mayB (0 : UInt8).toNat i = false := by
          have hi' : i ≠ 0 := by omega
          simp [mayB, hi']
        rw [if_pos this]
        simp
    | succ k =>
      have hc : ¬ n < 128 := by
        intro h
        unfold sev at hk
        rw [if_pos h] at hk
        simp at hk
      have hs : sev (f + 1) n = UInt8.ofNat (n % 128 + 128) :: sev f (n / 128) := by
        rw [sev, if_neg hc]
      rw [hs] at hk ⊢
      rw [List.length_cons] at hk
      rw [List.take_succ_cons, List.cons_append, rdU_cons _ _ _ _ _ (by omega)]
      have hx : (UInt8.ofNat (n % 128 + 128)).toNat = n % 128 + 128 := by rw [UInt8.toNat_ofNat']; omega
      rw [hx]
      split
      · simp
      · rw [if_neg (by omega)]
        apply ih
        · omega
        · omega
        · omega
        · have e : 2 ^ (7 * (i + 1)) = 128 * 2 ^ (7 * i) := by rw [Nat.mul_add, Nat.pow_add]; omega
          rw [e]
          have h3 : n / 128 * 128 ≤ n := Nat.div_mul_le_self n 128
          calc n / 128 * (128 * 2 ^ (7 * i)) = (n / 128 * 128) * 2 ^ (7 * i) := by rw [Nat.mul_assoc]
            _ ≤ n * 2 ^ (7 * i) := Nat.mul_le_mul_right _ h3
            _ < _ := hn
theorem getU_torn (n k m : Nat) (hn : n ≤ 18446744073709551615) (ahead : List UInt8) (hk : k < (U n).length) (hk0 : 0 < k) : (getU (ahead ++ ((U n).take k ++ List.replicate m 0)) ahead.length).2.2 ≠ 0 := by
  unfold getU
  rw [if_neg (by simp only [List.length_append]; omega)]
  rw [show ((ahead.length : Nat) : Int).toNat = ahead.length from by omega, List.drop_left]
  have := rdU_torn ahead.length 10 0 0 n k m (by omega) (by exact hk) (Or.inr hk0) (by omega)
  exact this
theorem getF_bnd (l : List UInt8) (p : Int) (h : (bnd l p).2.2 ≠ 0) : (getF l p).2.2 ≠ 0 := by
  unfold getF
  rw [if_pos h]
  exact h
theorem getF_getU (l : List UInt8) (p : Int) (h : (getU l p).2.2 ≠ 0) : (getF l p).2.2 ≠ 0 := by
  apply getF_bnd
  unfold bnd
  rw [if_pos h]
  exact h
/-- a frame that is cut, with noughts behind, is none -/
theorem getF_torn (b ahead : List UInt8) (k m : Nat) (h0 : 0 < b.length) (h1 : b.length ≤ 1048576) (hk : k < (frameL b).length) :
    (getF (ahead ++ ((frameL b).take k ++ List.replicate m 0)) ahead.length).2.2 ≠ 0 := by
  by_cases hk0 : k = 0
  · subst hk0
    exact getF_noughts ahead m
  · by_cases hku : k < (U b.length).length
    · apply getF_getU
      have e : (frameL b).take k = (U b.length).take k := by unfold frameL; rw [List.take_append_of_le_length (by omega)]
      rw [e]
      exact getU_torn b.length k m (by omega) ahead hku (by omega)
    · have hfl := frameL_length b
      obtain ⟨j, rfl⟩ : ∃ j, k = (U b.length).length + j := ⟨k - (U b.length).length, by omega⟩
      have e : (frameL b).take ((U b.length).length + j) ++ List.replicate m 0 = U b.length ++ ((((b ++ be4 (crc b)) ++ [165]).take j) ++ List.replicate m 0) := by
        unfold frameL
        rw [List.take_length_add_append, List.append_assoc]
      rw [e]
      have hj : (((b ++ be4 (crc b)) ++ [165]).take j).length = j := by rw [List.length_take]; simp only [List.length_append, be4_len, List.length_singleton]; omega
      obtain ⟨t, ht⟩ : ∃ t, t = (((b ++ be4 (crc b)) ++ [165]).take j) ++ List.replicate m 0 := ⟨_, rfl⟩
      rw [← ht]
      have htl : t.length = j + m := by rw [ht, List.length_append, hj, List.length_replicate]
      by_cases hs : t.length < b.length + 5
      · apply getF_bnd
        rw [bnd_short b ahead t h0 h1 hs]
        simp
      · have hx : t[b.length + 4]? = some 0 := by
          rw [ht, List.getElem?_append_right (by rw [hj]; omega), hj, List.getElem?_replicate, if_pos (by omega)]
        obtain ⟨hlt, hx2⟩ := List.getElem?_eq_some_iff.1 hx
        have e2 : t = t.take (b.length + 4) ++ (0 :: t.drop (b.length + 5)) := by
          conv => lhs; rw [← List.take_append_drop (b.length + 4) t]
          rw [List.drop_eq_getElem_cons hlt, hx2]
        rw [e2, getF_parts b.length ahead _ _ 0 h0 h1 (by rw [List.length_take]; omega)]
        simp
end Go.Proofs.Ytlpjfcfajagobaa
