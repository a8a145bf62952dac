/-
  The check as the rest of a division, bit by bit. Plain lemmas. Own work.
-/
import Derived.Test.YtlpjfcfajagobaaRi
namespace Go.Proofs.Ytlpjfcfajagobaa
open Go.RowKit

def poly : BitVec 32 := 3988292384#32
def regB (l : List UInt8) : Nat → BitVec 32
  | 0 => BitVec.allOnes 32
  | i + 1 => crcBit (regB l i ^^^ (if dbit l i then 1#32 else 0#32))
theorem crcBits_last (j : Nat) (r : BitVec 32) : crcBits (j + 1) r = crcBit (crcBits j r) := by
  rw [crcBits_add]
  rfl
theorem regB_byte (l : List UInt8) (q : Nat) (hq : q < l.length) (j : Nat) (hj : j ≤ 8) : regB l (8 * q + j) = crcBits j (regB l (8 * q) ^^^ mask (byt l q) j) := by
  induction j with
  | zero => simp [mask, crcBits]
  | succ j ih =>
    have e1 : regB l (8 * q + (j + 1)) = crcBit (regB l (8 * q + j) ^^^ (if dbit l (8 * q + j) then 1#32 else 0#32)) := rfl
    have e2 : dbit l (8 * q + j) = (byt l q).testBit j := by
      unfold dbit
      rw [show (8 * q + j) / 8 = q by omega, show (8 * q + j) % 8 = j by omega]
      have : 8 * q + j < 8 * l.length := by omega
      simp [this]
    have e3 : crcBits j (if (byt l q).testBit j then BitVec.twoPow 32 j else 0#32) = if (byt l q).testBit j then 1#32 else 0#32 := by
      by_cases hb : (byt l q).testBit j
      · rw [if_pos hb, if_pos hb, crcBits_pow j (by omega)]
      · rw [if_neg hb, if_neg hb, crcBits_zero]
    rw [e1, e2, ih (by omega), crcBits_last, mask, ← BitVec.xor_assoc, crcBits_xor j (regB l (8 * q) ^^^ mask (byt l q) j), e3]
theorem mask_full (x : Nat) (hx : x < 256) : mask x 8 = BitVec.ofNat 32 x := by
  apply BitVec.eq_of_getLsbD_eq
  intro i hi
  rw [mask_bit x 8 i hi, BitVec.getLsbD_ofNat]
  by_cases h8 : i < 8
  · simp [h8, hi]
  · have : x.testBit i = false := Nat.testBit_lt_two_pow (Nat.lt_of_lt_of_le (show x < 2 ^ 8 by omega) (Nat.pow_le_pow_right (by omega) (by omega)))
    simp [h8, this]
theorem regB_reg (l : List UInt8) (q : Nat) (hq : q ≤ l.length) : regB l (8 * q) = crcReg (BitVec.allOnes 32) (l.take q) := by
  induction q with
  | zero => simp [regB, crcReg]
  | succ q ih =>
    rw [show 8 * (q + 1) = 8 * q + 8 by omega, regB_byte l q (by omega) 8 (by omega), ih (by omega), mask_full _ (byt_lt _ _)]
    have e : l.take (q + 1) = l.take q ++ [l[q]] := by rw [List.take_succ_eq_append_getElem (by omega)]
    rw [e, crcReg_append, byt_eq l q (by omega)]
    rfl
theorem crc_regB (l : List UInt8) : crc l = ~~~ regB l (8 * l.length) := by
  rw [regB_reg l _ (Nat.le_refl _), List.take_length]
  rfl
/-- what is left to be divided -/
def stF (l : List UInt8) (i : Nat) (t : Nat) : Bool := if t < i then false else if t < i + 32 then ((regB l i).getLsbD (t - i) ^^ dbit l t) else dbit l t
def stepF (f : Nat → Bool) (i k : Nat) (t : Nat) : Bool := if t = i then false else if i + 1 ≤ t ∧ t < i + 1 + k then (f t ^^ poly.getLsbD (t - (i + 1))) else f t
theorem stF_start (l : List UInt8) (t : Nat) : stF l 0 t = (dbit l t != decide (t < 32)) := by
  unfold stF
  rw [if_neg (by omega)]
  by_cases h : t < 32
  · rw [if_pos (by omega)]
    have : (regB l 0).getLsbD (t - 0) = true := by
      show (BitVec.allOnes 32).getLsbD (t - 0) = true
      rw [BitVec.getLsbD_allOnes]
      simp [h]
    rw [this]
    cases dbit l t <;> simp [h]
  · rw [if_neg (by omega)]
    cases dbit l t <;> simp [h]
theorem regB_next (l : List UInt8) (i k : Nat) : (regB l (i + 1)).getLsbD k = ((regB l i).getLsbD (k + 1) ^^ (((regB l i).getLsbD 0 ^^ dbit l i) && poly.getLsbD k)) := by
  have e : regB l (i + 1) = crcBit (regB l i ^^^ (if dbit l i then 1#32 else 0#32)) := rfl
  rw [e]
  generalize regB l i = r
  unfold crcBit
  rw [BitVec.getLsbD_xor, BitVec.getLsbD_ushiftRight, BitVec.getLsbD_xor]
  cases hd : dbit l i with
  | true =>
    have e1 : (1#32).getLsbD (1 + k) = false := by
      rw [BitVec.getLsbD_one]
      simp
    have e2 : (r ^^^ 1#32).getLsbD 0 = !r.getLsbD 0 := by
      rw [BitVec.getLsbD_xor]
      have : (1#32).getLsbD 0 = true := by decide
      rw [this]
      simp
    simp only [if_true, e1, e2, Bool.xor_false, Bool.xor_true]
    rw [Nat.add_comm 1 k]
    cases r.getLsbD 0 <;> simp [poly]
  | false =>
    simp only [BitVec.xor_zero, Bool.false_eq_true, if_false]
    have : (0#32).getLsbD (1 + k) = false := by simp
    rw [this, Nat.add_comm 1 k]
    cases r.getLsbD 0 <;> simp [poly]
theorem stF_at (l : List UInt8) (i : Nat) : stF l i i = ((regB l i).getLsbD 0 ^^ dbit l i) := by
  unfold stF
  rw [if_neg (by omega), if_pos (by omega), Nat.sub_self]
theorem stF_next (l : List UInt8) (i t : Nat) : stF l (i + 1) t = if stF l i i then stepF (stF l i) i 32 t else stF l i t := by
  have hc := stF_at l i
  have hn := regB_next l i
  obtain ⟨c, hcc⟩ : ∃ c, c = stF l i i := ⟨_, rfl⟩
  rw [← hcc] at hc ⊢
  rw [← hc] at hn
  by_cases h1 : t < i
  · have e : stF l i t = false := by unfold stF; rw [if_pos h1]
    have e2 : stF l (i + 1) t = false := by unfold stF; rw [if_pos (by omega)]
    have e3 : stepF (stF l i) i 32 t = false := by
      unfold stepF
      rw [if_neg (by omega), if_neg (by omega), e]
    rw [e2, e3, e]
    simp
  · by_cases h2 : t = i
    · subst h2
      have e2 : stF l (t + 1) t = false := by unfold stF; rw [if_pos (by omega)]
      have e3 : stepF (stF l t) t 32 t = false := by unfold stepF; rw [if_pos rfl]
      rw [e2, ← hcc, e3]
      cases c <;> simp
    · by_cases h3 : t < i + 1 + 32
      · have e2 : stF l (i + 1) t = ((regB l (i + 1)).getLsbD (t - (i + 1)) ^^ dbit l t) := by unfold stF; rw [if_neg (by omega), if_pos (by omega)]
        have e1 : stF l i t = ((regB l i).getLsbD (t - i) ^^ dbit l t) := by
          unfold stF
          rw [if_neg (by omega)]
          by_cases h4 : t < i + 32
          · rw [if_pos h4]
          · rw [if_neg h4, BitVec.getLsbD_of_ge _ _ (by omega)]
            simp
        have e3 : stepF (stF l i) i 32 t = (stF l i t ^^ poly.getLsbD (t - (i + 1))) := by
          unfold stepF
          rw [if_neg h2, if_pos (by omega)]
        rw [e2, hn _, show t - (i + 1) + 1 = t - i by omega, e3, e1]
        cases c <;> cases (regB l i).getLsbD (t - i) <;> cases dbit l t <;> simp
      · have e2 : stF l (i + 1) t = dbit l t := by unfold stF; rw [if_neg (by omega), if_neg (by omega)]
        have e1 : stF l i t = dbit l t := by unfold stF; rw [if_neg (by omega), if_neg (by omega)]
        have e3 : stepF (stF l i) i 32 t = stF l i t := by
          unfold stepF
          rw [if_neg h2, if_neg (by omega)]
        rw [e2, e3, e1]
        simp
theorem stF_end (l : List UInt8) (m : Nat) (hm : m < 32) : (!stF l (8 * l.length) (8 * l.length + m)) = (crc l).toNat.testBit m := by
  unfold stF
  rw [if_neg (by omega), if_pos (by omega), show 8 * l.length + m - 8 * l.length = m by omega]
  have : dbit l (8 * l.length + m) = false := by
    unfold dbit
    have : ¬ 8 * l.length + m < 8 * l.length := by omega
    simp only [this, decide_false, Bool.false_and]
  rw [this, crc_regB, ← BitVec.testBit_toNat, BitVec.testBit_toNat, BitVec.testBit_toNat]
  simp [hm]
theorem poly_bit (k : Nat) (hk : k < 32) : (79764919 / 2 ^ (31 - k) % 2 == 1) = poly.getLsbD k := by
  have : ∀ k : Fin 32, (79764919 / 2 ^ (31 - k.val) % 2 == 1) = poly.getLsbD k.val := by decide +kernel
  exact this ⟨k, hk⟩
theorem poly_bitI (k : Nat) (hk : k < 32) : (((79764919 : Int) / 2 ^ (31 - k)).tmod 2 == 1) = poly.getLsbD k := by
  have : ∀ k : Fin 32, (((79764919 : Int) / 2 ^ (31 - k.val)).tmod 2 == 1) = poly.getLsbD k.val := by decide +kernel
  exact this ⟨k, hk⟩
theorem stepF_skip (f : Nat → Bool) (i j t : Nat) (h : poly.getLsbD j = false) : stepF f i (j + 1) t = stepF f i j t := by
  unfold stepF
  by_cases e : t = i
  · rw [if_pos e, if_pos e]
  · rw [if_neg e, if_neg e]
    by_cases e2 : t = i + 1 + j
    · subst e2
      rw [if_pos (by omega), if_neg (by omega), show i + 1 + j - (i + 1) = j by omega, h]
      simp
    · by_cases e3 : i + 1 ≤ t ∧ t < i + 1 + j
      · rw [if_pos (by omega), if_pos e3]
      · rw [if_neg (by omega), if_neg e3]
theorem stepF_turn (f : Nat → Bool) (i j t : Nat) (h : poly.getLsbD j = true) : stepF f i (j + 1) t = if t = i + 1 + j then !stepF f i j (i + 1 + j) else stepF f i j t := by
  by_cases e2 : t = i + 1 + j
  · subst e2
    have e1 : stepF f i (j + 1) (i + 1 + j) = (f (i + 1 + j) ^^ poly.getLsbD (i + 1 + j - (i + 1))) := by
      unfold stepF
      rw [if_neg (by omega), if_pos (by omega)]
    have e2 : stepF f i j (i + 1 + j) = f (i + 1 + j) := by
      unfold stepF
      rw [if_neg (by omega), if_neg (by omega)]
    rw [if_pos rfl, e1, e2, show i + 1 + j - (i + 1) = j by omega, h]
    simp
  · rw [if_neg e2]
    unfold stepF
    by_cases e : t = i
    · rw [if_pos e, if_pos e]
    · rw [if_neg e, if_neg e]
      by_cases e3 : i + 1 ≤ t ∧ t < i + 1 + j
      · rw [if_pos (by omega), if_pos e3]
      · rw [if_neg (by omega), if_neg e3]
theorem half (X m : Nat) : X / 2 ^ m = 2 * (X / 2 ^ (m + 1)) + (if X.testBit m then 1 else 0) := by
  rw [Nat.testBit_eq_decide_div_mod_eq, Nat.pow_succ, ← Nat.div_div_eq_div_mul]
  by_cases h : X / 2 ^ m % 2 = 1
  · simp [h]; omega
  · simp [h]; omega
end Go.Proofs.Ytlpjfcfajagobaa
