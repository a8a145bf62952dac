/-
  The check: it is linear; a change within 32 bits running is seen. Plain lemmas. Own work.
-/
import Derived.Test.YtlpjfcfajagobaaSpec
namespace Go.Proofs.Ytlpjfcfajagobaa
open Go.RowKit

theorem crcBit_xor (a b : BitVec 32) : crcBit (a ^^^ b) = crcBit a ^^^ crcBit b := by
  unfold crcBit
  rw [BitVec.ushiftRight_xor_distrib, BitVec.getLsbD_xor]
  cases a.getLsbD 0 <;> cases b.getLsbD 0
  · simp
  · simp [BitVec.xor_assoc]
  · simp only [Bool.xor_false, if_true, Bool.false_eq_true, if_false, BitVec.xor_zero]
    rw [BitVec.xor_assoc, BitVec.xor_comm (b >>> 1), ← BitVec.xor_assoc]
  · simp only [Bool.xor_self, Bool.false_eq_true, if_false, if_true, BitVec.xor_zero]
    rw [BitVec.xor_assoc, BitVec.xor_comm (3988292384#32), BitVec.xor_assoc, BitVec.xor_self, BitVec.xor_zero]
theorem crcBits_xor (n : Nat) (a b : BitVec 32) : crcBits n (a ^^^ b) = crcBits n a ^^^ crcBits n b := by
  induction n generalizing a b with
  | zero => rfl
  | succ n ih => rw [crcBits, crcBits, crcBits, crcBit_xor, ih]
theorem crcBit_zero : crcBit 0#32 = 0#32 := by decide
theorem crcBits_zero (n : Nat) : crcBits n 0#32 = 0#32 := by
  induction n with
  | zero => rfl
  | succ n ih => rw [crcBits, crcBit_zero, ih]
theorem crcBit_eq_zero (r : BitVec 32) (h : crcBit r = 0#32) : r = 0#32 := by
  have h31 : (crcBit r).getLsbD 31 = r.getLsbD 0 := by
    unfold crcBit
    rw [BitVec.getLsbD_xor, BitVec.getLsbD_ushiftRight]
    have : r.getLsbD (1 + 31) = false := BitVec.getLsbD_of_ge _ _ (by omega)
    rw [this]
    cases r.getLsbD 0 <;> decide
  have h0 : r.getLsbD 0 = false := by rw [← h31, h]; simp
  unfold crcBit at h
  rw [h0] at h
  simp only [Bool.false_eq_true, if_false, BitVec.xor_zero] at h
  apply BitVec.eq_of_getLsbD_eq
  intro i hi
  rw [BitVec.getLsbD_zero]
  cases i with
  | zero => exact h0
  | succ i =>
    have := congrArg (fun x => BitVec.getLsbD x i) h
    simp only [BitVec.getLsbD_ushiftRight, BitVec.getLsbD_zero] at this
    rw [Nat.add_comm] at this
    exact this
theorem crcBits_eq_zero (n : Nat) (r : BitVec 32) (h : crcBits n r = 0#32) : r = 0#32 := by
  induction n generalizing r with
  | zero => exact h
  | succ n ih => exact crcBit_eq_zero r (ih _ h)
theorem xor_eq_zero (a b : BitVec 32) : a ^^^ b = 0#32 ↔ a = b := by
  constructor
  · intro h
    have : (a ^^^ b) ^^^ b = 0#32 ^^^ b := by rw [h]
    rwa [BitVec.xor_assoc, BitVec.xor_self, BitVec.xor_zero, BitVec.zero_xor] at this
  · intro h
    rw [h, BitVec.xor_self]

/-- two registers, the same bytes behind: how they differ -/
theorem crcReg_diff (r s : BitVec 32) (c : List UInt8) : crcReg r c ^^^ crcReg s c = crcBits (8 * c.length) (r ^^^ s) := by
  induction c generalizing r s with
  | nil => rfl
  | cons x t ih =>
    have e : ∀ r, crcReg r (x :: t) = crcReg (crcByte r x) t := fun _ => rfl
    rw [e, e, ih]
    unfold crcByte
    rw [← crcBits_xor, List.length_cons, show 8 * (t.length + 1) = 8 + 8 * t.length by omega, crcBits_add]
    congr 2
    rw [BitVec.xor_assoc, BitVec.xor_comm (BitVec.ofNat 32 x.toNat), BitVec.xor_assoc, BitVec.xor_self, BitVec.xor_zero]
theorem crcReg_append (r : BitVec 32) (a b : List UInt8) : crcReg r (a ++ b) = crcReg (crcReg r a) b := by simp [crcReg]
theorem not_xor_not (a b : BitVec 32) : (~~~a) ^^^ (~~~b) = a ^^^ b := by
  rw [← BitVec.xor_allOnes, ← BitVec.xor_allOnes, BitVec.xor_assoc, BitVec.xor_comm (BitVec.allOnes 32), BitVec.xor_assoc, BitVec.xor_self, BitVec.xor_zero]
theorem crc_diff (a b c : List UInt8) : crc (a ++ c) ^^^ crc (b ++ c) = crcBits (8 * c.length) (crcReg (BitVec.allOnes 32) a ^^^ crcReg (BitVec.allOnes 32) b) := by
  unfold crc
  rw [not_xor_not, crcReg_append, crcReg_append, crcReg_diff]
theorem crc_diff_same (a b c d : List UInt8) (h : c.length = d.length) : crc (a ++ c) ^^^ crc (b ++ c) = crc (a ++ d) ^^^ crc (b ++ d) := by
  rw [crc_diff, crc_diff, h]
theorem crc_eq_iff (a b : List UInt8) : crc a = crc b ↔ crcReg (BitVec.allOnes 32) a ^^^ crcReg (BitVec.allOnes 32) b = 0#32 := by
  rw [← xor_eq_zero]
  unfold crc
  rw [not_xor_not]
theorem crc_diff_zero (a b c : List UInt8) : crc (a ++ c) ^^^ crc (b ++ c) = 0#32 ↔ crc a = crc b := by
  rw [crc_diff, crc_eq_iff]
  constructor
  · exact crcBits_eq_zero _ _
  · intro h
    rw [h, crcBits_zero]

end Go.Proofs.Ytlpjfcfajagobaa
