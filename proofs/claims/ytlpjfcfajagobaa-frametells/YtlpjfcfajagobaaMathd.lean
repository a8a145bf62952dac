/-
  A change within 32 bits running is seen by the check. Plain lemmas. Own work.
-/
import Derived.Test.YtlpjfcfajagobaaMathc
namespace Go.Proofs.Ytlpjfcfajagobaa
open Go.RowKit

/-- one bit of a byte turned -/
def flipB (x : UInt8) (p : Nat) : UInt8 := UInt8.ofNat (x.toNat ^^^ 2 ^ p)
/-- one bit of bytes turned -/
def flipL (l : List UInt8) (j : Nat) : List UInt8 := l.set (j / 8) (flipB (l.getD (j / 8) 0) (j % 8))
/-- those of k bits from a place on turned that are set -/
def chg (l : List UInt8) (from_ change : Nat) : Nat → List UInt8
  | 0 => l
  | k + 1 => if change.testBit k then flipL (chg l from_ change k) (from_ + k) else chg l from_ change k
def mask (change : Nat) : Nat → BitVec 32
  | 0 => 0#32
  | k + 1 => mask change k ^^^ (if change.testBit k then BitVec.twoPow 32 k else 0#32)

theorem flipL_length (l : List UInt8) (j : Nat) : (flipL l j).length = l.length := by simp [flipL]
theorem chg_length (l : List UInt8) (f c k : Nat) : (chg l f c k).length = l.length := by
  induction k with
  | zero => rfl
  | succ k ih => rw [chg]; split <;> simp [flipL_length, ih]

theorem crcBits_pow (i : Nat) (hi : i < 32) : crcBits i (BitVec.twoPow 32 i) = 1#32 := by
  have : ∀ i : Fin 32, crcBits i.val (BitVec.twoPow 32 i.val) = 1#32 := by decide +kernel
  exact this ⟨i, hi⟩
theorem flipB_xor (x : UInt8) (p : Nat) (hp : p < 8) : BitVec.ofNat 32 (flipB x p).toNat ^^^ BitVec.ofNat 32 x.toNat = BitVec.twoPow 32 p := by
  have h : ∀ (x : Fin 256) (p : Fin 8), BitVec.ofNat 32 ((x.val ^^^ 2 ^ p.val) % 256) ^^^ BitVec.ofNat 32 x.val = BitVec.twoPow 32 p.val := by decide +kernel
  have := h ⟨x.toNat, x.toNat_lt⟩ ⟨p, hp⟩
  unfold flipB
  rw [UInt8.toNat_ofNat']
  exact this

theorem crcReg_flip (r : BitVec 32) (l : List UInt8) (j : Nat) (hj : j < 8 * l.length) : crcReg r (flipL l j) ^^^ crcReg r l = crcBits (8 * l.length - j) 1#32 := by
  have hq : j / 8 < l.length := by omega
  have e0 : l.getD (j / 8) 0 = l[j / 8] := by simp [List.getD, hq]
  have e1 : l = l.take (j / 8) ++ l[j / 8] :: l.drop (j / 8 + 1) := by simp
  have e2 : flipL l j = l.take (j / 8) ++ flipB l[j / 8] (j % 8) :: l.drop (j / 8 + 1) := by
    unfold flipL
    rw [e0, List.set_eq_take_append_cons_drop, if_pos hq]
  have e3 : crcReg r l = crcReg (crcReg r (l.take (j / 8))) (l[j / 8] :: l.drop (j / 8 + 1)) := by
    conv => lhs; rw [e1]
    rw [crcReg_append]
  rw [e2, e3, crcReg_append]
  have e4 : ∀ s x t, crcReg s (x :: t) = crcReg (crcByte s x) t := fun _ _ _ => rfl
  rw [e4, e4, crcReg_diff]
  unfold crcByte
  rw [← crcBits_xor]
  have e5 : ∀ a b c : BitVec 32, (a ^^^ b) ^^^ (a ^^^ c) = b ^^^ c := by
    intro a b c
    rw [BitVec.xor_comm a b, BitVec.xor_assoc, ← BitVec.xor_assoc a a c, BitVec.xor_self, BitVec.zero_xor]
  rw [e5, flipB_xor _ _ (by omega), ← crcBits_add, List.length_drop,
    show 8 + 8 * (l.length - (j / 8 + 1)) = j % 8 + (8 * l.length - j) by omega, crcBits_add, crcBits_pow _ (by omega)]

theorem crcReg_chg (r : BitVec 32) (l : List UInt8) (f c k : Nat) (hk : k ≤ 32) (hfk : f + k ≤ 8 * l.length) : crcReg r (chg l f c k) ^^^ crcReg r l = crcBits (8 * l.length - f) (mask c k) := by
  induction k with
  | zero => rw [chg, mask, BitVec.xor_self, crcBits_zero]
  | succ k ih =>
    have ih := ih (by omega) (by omega)
    rw [chg, mask]
    by_cases hb : c.testBit k
    · rw [if_pos hb, if_pos hb, crcBits_xor, ← ih]
      have h := crcReg_flip r (chg l f c k) (f + k) (by rw [chg_length]; omega)
      rw [chg_length] at h
      have h2 : crcBits (8 * l.length - f) (BitVec.twoPow 32 k) = crcBits (8 * l.length - (f + k)) 1#32 := by
        rw [show 8 * l.length - f = k + (8 * l.length - (f + k)) by omega, crcBits_add, crcBits_pow _ (by omega)]
      rw [h2, ← h]
      generalize crcReg r (flipL (chg l f c k) (f + k)) = A
      generalize crcReg r (chg l f c k) = B
      generalize crcReg r l = C
      rw [BitVec.xor_comm A B, BitVec.xor_assoc B C, ← BitVec.xor_assoc C B A, BitVec.xor_comm C B, ← BitVec.xor_assoc B, ← BitVec.xor_assoc B, BitVec.xor_self, BitVec.zero_xor, BitVec.xor_comm]
    · rw [if_neg hb, if_neg hb, BitVec.xor_zero, ih]

theorem mask_bit (c k i : Nat) (hi : i < 32) : (mask c k).getLsbD i = (decide (i < k) && c.testBit i) := by
  induction k with
  | zero => simp [mask]
  | succ k ih =>
    rw [mask, BitVec.getLsbD_xor, ih]
    by_cases hik : i = k
    · subst hik
      by_cases hb : c.testBit i
      · rw [if_pos hb, hb, BitVec.getLsbD_twoPow]
        simp [hi]
      · rw [if_neg hb]
        simp at hb
        simp [hb]
    · have e : (if c.testBit k then BitVec.twoPow 32 k else 0#32).getLsbD i = false := by
        split
        · rw [BitVec.getLsbD_twoPow]
          simp
          omega
        · simp
      rw [e, Bool.xor_false]
      have : decide (i < k + 1) = decide (i < k) := by
        rw [Bool.eq_iff_iff]; simp; omega
      rw [this]

/-- a change within 32 bits running is seen -/
theorem crc_chg (l : List UInt8) (f c k : Nat) (hk : k ≤ 32) (hfk : f + k ≤ 8 * l.length) (h : crc (chg l f c k) = crc l) : chg l f c k = l := by
  rw [crc_eq_iff, crcReg_chg _ l f c k hk hfk] at h
  have hm := crcBits_eq_zero _ _ h
  have hb : ∀ i, i < k → c.testBit i = false := by
    intro i hi
    have := mask_bit c k i (by omega)
    rw [hm] at this
    simp [hi] at this
    exact this
  have : ∀ j, j ≤ k → chg l f c j = l := by
    intro j hj
    induction j with
    | zero => rfl
    | succ j ih =>
      rw [chg, hb j (by omega)]
      simp
      exact ih (by omega)
  exact this k (Nat.le_refl _)

end Go.Proofs.Ytlpjfcfajagobaa
