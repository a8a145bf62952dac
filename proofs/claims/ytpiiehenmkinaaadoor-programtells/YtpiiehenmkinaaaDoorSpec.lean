/-
  What the numbers are as bytes: plain functions and lemmas, with no walk. Own work.
-/
import Derived.Test.YtpiiehenmkinaaaDoorBase
namespace Go.Proofs.YtpiiehenmkinaaaDoor
open Go.RowKit

def sev : Nat → Nat → List UInt8
  | 0, _ => []
  | f + 1, n => if n < 128 then [UInt8.ofNat n] else UInt8.ofNat (n % 128 + 128) :: sev f (n / 128)

/-- a number without a sign as bytes -/
def U (n : Int) : List UInt8 := sev 10 n.toNat

theorem or128 (m : Nat) : bits BinOp.or IntKind.u8 ((m : Int) % 256) 128 = ((UInt8.ofNat (m % 128 + 128)).toNat : Int) := by
  have h : ((m : Int) % 256) = ((m % 256 : Nat) : Int) := by omega
  rw [h, show (128 : Int) = ((128 : Nat) : Int) from rfl, u8_or_nat (m % 256) 128 (by omega) (by omega)]
  congr 1
  rw [UInt8.toNat_ofNat']
  have : ∀ x : Fin 256, x.val ||| 128 = (x.val % 128 + 128) % 256 := by decide +kernel
  have h2 := this ⟨m % 256, by omega⟩
  simp only at h2
  rw [h2]
  omega

/-- the first k pieces, one behind the other -/
def joined (ps : List (Value × List UInt8)) (k : Nat) : List UInt8 := ((ps.take k).map Prod.snd).flatten

theorem joined_succ (ps : List (Value × List UInt8)) (k : Nat) (h : k < ps.length) : joined ps (k + 1) = joined ps k ++ ps[k].2 := by
  unfold joined
  rw [List.take_succ_eq_append_getElem h]
  simp only [List.map_append, List.flatten_append, List.map_cons, List.map_nil, List.flatten_cons, List.flatten_nil, List.append_nil]
theorem joined_le (ps : List (Value × List UInt8)) (k : Nat) : (joined ps k).length ≤ (joined ps ps.length).length := by
  unfold joined
  have : ps = ps.take k ++ ps.drop k := (List.take_append_drop k ps).symm
  rw [List.take_length]
  conv => rhs; rw [this]
  simp only [List.map_append, List.flatten_append, List.length_append]
  omega

theorem ret_int {k : IntKind} {a b : Int} (h : a = b) : Ending.returned (.int k a) = .returned (.int k b) := by rw [h]
theorem ret_bool {a b : Bool} (h : a = b) : Ending.returned (.bool a) = .returned (.bool b) := by rw [h]

/-- a number with a sign: what it takes -/
def foldI (n : Int) : Int := if 0 ≤ n then 2 * n else -2 * n - 1
def unfoldI (n : Int) : Int := if n % 2 = 0 then n / 2 else -(n / 2) - 1

theorem ofInt64_toNat (x : Int) : ((BitVec.ofInt 64 x).toNat : Int) = x % 18446744073709551616 := by
  rw [BitVec.toNat_ofInt]
  omega
theorem xor_u64_zero (x : Int) (h0 : 0 ≤ x) (h1 : x ≤ 18446744073709551615) : bits .xor .u64 x 0 = x := by
  show IntKind.u64.wrap ((BitVec.ofInt 64 x ^^^ BitVec.ofInt 64 0).toNat : Nat) = x
  have : BitVec.ofInt 64 0 = 0#64 := by decide
  rw [this, BitVec.xor_zero, ofInt64_toNat]
  simp [IntKind.wrap, IntKind.bits, IntKind.signed]
  omega
theorem xor_u64_ones (x : Int) (h0 : 0 ≤ x) (h1 : x ≤ 18446744073709551615) : bits .xor .u64 x 18446744073709551615 = 18446744073709551615 - x := by
  show IntKind.u64.wrap ((BitVec.ofInt 64 x ^^^ BitVec.ofInt 64 18446744073709551615).toNat : Nat) = _
  have : BitVec.ofInt 64 18446744073709551615 = BitVec.allOnes 64 := by decide
  rw [this, BitVec.xor_allOnes, BitVec.toNat_not]
  have h := ofInt64_toNat x
  simp [IntKind.wrap, IntKind.bits, IntKind.signed]
  omega
theorem xor_i64_zero (x : Int) (h0 : -9223372036854775808 ≤ x) (h1 : x ≤ 9223372036854775807) : bits .xor .i64 x 0 = x := by
  show IntKind.i64.wrap ((BitVec.ofInt 64 x ^^^ BitVec.ofInt 64 0).toNat : Nat) = x
  have : BitVec.ofInt 64 0 = 0#64 := by decide
  rw [this, BitVec.xor_zero, ofInt64_toNat, IntKind.wrap_i64]
  omega
theorem xor_i64_ones (x : Int) (h0 : -9223372036854775808 ≤ x) (h1 : x ≤ 9223372036854775807) : bits .xor .i64 x (-1) = -x - 1 := by
  show IntKind.i64.wrap ((BitVec.ofInt 64 x ^^^ BitVec.ofInt 64 (-1)).toNat : Nat) = _
  have : BitVec.ofInt 64 (-1) = BitVec.allOnes 64 := by decide
  rw [this, BitVec.xor_allOnes, BitVec.toNat_not]
  have h := ofInt64_toNat x
  rw [IntKind.wrap_i64]
  omega
theorem wrap_u64 (n : Int) : IntKind.u64.wrap n = n % 18446744073709551616 := by simp [IntKind.wrap, IntKind.bits, IntKind.signed]

theorem fold_eq (n : Int) (h0 : -9223372036854775808 ≤ n) (h1 : n ≤ 9223372036854775807) :
    bits BinOp.xor IntKind.u64 (IntKind.u64.wrap (IntKind.u64.wrap n * 2)) (IntKind.u64.wrap (n / 9223372036854775808)) = foldI n := by
  simp only [wrap_u64]
  unfold foldI
  by_cases h : 0 ≤ n
  · rw [if_pos h, show n / 9223372036854775808 % 18446744073709551616 = 0 by omega, xor_u64_zero _ (by omega) (by omega)]
    omega
  · rw [if_neg h, show n / 9223372036854775808 % 18446744073709551616 = 18446744073709551615 by omega, xor_u64_ones _ (by omega) (by omega)]
    omega
theorem and_u64_one (n : Int) (h0 : 0 ≤ n) (h1 : n ≤ 18446744073709551615) : bits BinOp.and IntKind.u64 n 1 = n % 2 := by
  rw [u64_and n 1 h0 (by omega) (by omega) (by omega)]
  have : n.toNat &&& (1 : Int).toNat = n.toNat % 2 := nat_mask1 n.toNat
  rw [this]
  omega
theorem unfold_eq (n : Int) (h0 : 0 ≤ n) (h1 : n ≤ 18446744073709551615) :
    bits BinOp.xor IntKind.i64 (wrap64 (n / 2)) (wrap64 (-wrap64 (bits BinOp.and IntKind.u64 n 1))) = unfoldI n := by
  rw [and_u64_one n h0 h1]
  unfold unfoldI wrap64
  by_cases h : n % 2 = 0
  · rw [if_pos h, h, show ((-((0 + 9223372036854775808) % 18446744073709551616 - 9223372036854775808) + 9223372036854775808) % 18446744073709551616 - 9223372036854775808 : Int) = 0 by omega, xor_i64_zero _ (by omega) (by omega)]
    omega
  · rw [if_neg h, show n % 2 = 1 by omega, show ((-((1 + 9223372036854775808) % 18446744073709551616 - 9223372036854775808) + 9223372036854775808) % 18446744073709551616 - 9223372036854775808 : Int) = -1 by omega, xor_i64_ones _ (by omega) (by omega)]
    omega
theorem foldI_range (n : Int) (h0 : -9223372036854775808 ≤ n) (h1 : n ≤ 9223372036854775807) : 0 ≤ foldI n ∧ foldI n ≤ 18446744073709551615 := by
  unfold foldI; split <;> omega
theorem unfoldI_range (n : Int) (h0 : 0 ≤ n) (h1 : n ≤ 18446744073709551615) : -9223372036854775808 ≤ unfoldI n ∧ unfoldI n ≤ 9223372036854775807 := by
  unfold unfoldI; split <;> omega
theorem unfold_fold (n : Int) : unfoldI (foldI n) = n := by
  unfold unfoldI foldI; split <;> split <;> omega
theorem fold_unfold (n : Int) (h0 : 0 ≤ n) : foldI (unfoldI n) = n := by
  unfold unfoldI foldI; split <;> split <;> omega
def mayB (x i : Int) : Bool := !(i == 9 && decide (1 < x)) && (x != 0 || i == 0)
/-- a number without a sign, read: what was read so far, at which of its bytes; the number, the place behind it, the error -/
def rdU (p i acc : Nat) : List UInt8 → Nat × Nat × Nat
  | [] => (0, 0, 11)
  | x :: t => if i = 10 then (0, 0, 11) else if mayB x.toNat i = false then (0, 0, 10) else if x.toNat < 128 then (acc + x.toNat % 128 * 2 ^ (7 * i), p + i + 1, 0) else rdU p (i + 1) (acc + x.toNat % 128 * 2 ^ (7 * i)) t

def getU (l : List UInt8) (at_ : Int) : Nat × Nat × Nat := if at_ < 0 ∨ (l.length : Int) < at_ then (0, 0, 2) else rdU at_.toNat 0 0 (l.drop at_.toNat)

theorem mayB_nine (x : Nat) (i : Nat) (h : mayB x i = true) : i = 9 → x ≤ 1 := by
  intro hi
  subst hi
  simp [mayB] at h
  omega

theorem acc_lt (acc k x : Nat) (h : acc < 2 ^ (7 * k)) : acc + x % 128 * 2 ^ (7 * k) < 2 ^ (7 * (k + 1)) := by
  have e : 2 ^ (7 * (k + 1)) = 128 * 2 ^ (7 * k) := by rw [Nat.mul_add, Nat.pow_add]; omega
  rw [e]
  have : x % 128 ≤ 127 := by omega
  have := Nat.mul_le_mul_right (2 ^ (7 * k)) this
  omega

theorem acc_step (acc k : Nat) (x : UInt8) (hk : k ≤ 9) (h : acc < 2 ^ (7 * k)) (h9 : k = 9 → x.toNat ≤ 1) :
    bits BinOp.or IntKind.u64 (acc : Int) (IntKind.u64.wrap (IntKind.u64.wrap (bits BinOp.and IntKind.u8 (x.toNat : Int) 127) * 2 ^ (7 * k))) = ((acc + x.toNat % 128 * 2 ^ (7 * k) : Nat) : Int) := by
  have hx : x.toNat < 256 := x.toNat_lt
  have e1 : bits BinOp.and IntKind.u8 (x.toNat : Int) 127 = ((x.toNat % 128 : Nat) : Int) := by
    rw [show (127 : Int) = ((127 : Nat) : Int) from rfl, u8_and_nat _ _ hx (by omega), nat_mask7]
  have hb : x.toNat % 128 * 2 ^ (7 * k) < 18446744073709551616 := by
    by_cases h8 : k ≤ 8
    · have h1 : 2 ^ (7 * k) ≤ 2 ^ 56 := Nat.pow_le_pow_right (by omega) (by omega)
      have h2 : x.toNat % 128 ≤ 127 := by omega
      have h3 := Nat.mul_le_mul h2 h1
      omega
    · have h9' : k = 9 := by omega
      have h1 := h9 h9'
      subst h9'
      have h2 : x.toNat % 128 ≤ 1 := by omega
      have h3 := Nat.mul_le_mul_right (2 ^ (7 * 9)) h2
      omega
  have ha : acc < 18446744073709551616 := by
    have h1 : 2 ^ (7 * k) ≤ 2 ^ 63 := Nat.pow_le_pow_right (by omega) (by omega)
    omega
  have e2 : IntKind.u64.wrap (IntKind.u64.wrap (bits BinOp.and IntKind.u8 (x.toNat : Int) 127) * 2 ^ (7 * k)) = ((x.toNat % 128 * 2 ^ (7 * k) : Nat) : Int) := by
    rw [e1, wrap_u64, wrap_u64]
    have : ((x.toNat % 128 : Nat) : Int) % 18446744073709551616 = ((x.toNat % 128 : Nat) : Int) := by omega
    rw [this, show (2 : Int) ^ (7 * k) = ((2 ^ (7 * k) : Nat) : Int) by simp, ← Int.natCast_mul]
    omega
  rw [e2, u64_or_nat _ _ ha hb, Nat.or_comm, nat_join (7 * k) _ _ (by simp) h, Nat.add_comm]

theorem rdU_cons (p i acc : Nat) (x : UInt8) (t : List UInt8) (hi : i < 10) : rdU p i acc (x :: t) = if mayB x.toNat i = false then (0, 0, 10) else if x.toNat < 128 then (acc + x.toNat % 128 * 2 ^ (7 * i), p + i + 1, 0) else rdU p (i + 1) (acc + x.toNat % 128 * 2 ^ (7 * i)) t := by
  rw [rdU, if_neg (by omega)]
theorem rdU_end (p i acc : Nat) (l : List UInt8) (h : i = 10 ∨ l = []) : rdU p i acc l = (0, 0, 11) := by
  cases l with
  | nil => rfl
  | cons x t => rw [rdU, if_pos (by simpa using h)]
theorem drop_at (l : List UInt8) (i : Nat) (h : i < l.length) : l.drop i = l[i] :: l.drop (i + 1) := by simp

theorem ret3 {a b c a' b' c' : Int} (h1 : a = a') (h2 : b = b') (h3 : c = c') : Ending.returned (.tuple #[.int .u64 a, .int .i64 b, .int .i64 c]) = .returned (.tuple #[.int .u64 a', .int .i64 b', .int .i64 c']) := by rw [h1, h2, h3]

/-- the check's register: one bit, eight of them, a byte, bytes; the check -/
def crcBit (r : BitVec 32) : BitVec 32 := (r >>> 1) ^^^ (if r.getLsbD 0 then 3988292384#32 else 0#32)
def crcBits : Nat → BitVec 32 → BitVec 32
  | 0, r => r
  | n + 1, r => crcBits n (crcBit r)
def crcByte (r : BitVec 32) (x : UInt8) : BitVec 32 := crcBits 8 (r ^^^ BitVec.ofNat 32 x.toNat)
def crcReg (r : BitVec 32) (l : List UInt8) : BitVec 32 := l.foldl crcByte r
def crc (l : List UInt8) : BitVec 32 := ~~~ crcReg (BitVec.allOnes 32) l

theorem xor_u32 (a b : BitVec 32) : bits .xor .u32 (a.toNat : Int) (b.toNat : Int) = ((a ^^^ b).toNat : Int) := by
  rw [u32_xor_nat _ _ a.isLt b.isLt, BitVec.toNat_xor]
theorem crc_in (r : BitVec 32) (x : UInt8) : bits .xor .u32 (r.toNat : Int) ((x.toNat : Int) % 4294967296) = ((r ^^^ BitVec.ofNat 32 x.toNat).toNat : Int) := by
  have hx : x.toNat < 256 := x.toNat_lt
  rw [← xor_u32, BitVec.toNat_ofNat]
  congr 1
theorem and_u32_one (r : BitVec 32) : bits .and .u32 (r.toNat : Int) 1 = if r.getLsbD 0 then 1 else 0 := by
  rw [show (1 : Int) = ((1 : Nat) : Int) from rfl, u32_and_nat _ _ r.isLt (by omega), nat_mask1]
  have : r.getLsbD 0 = decide (r.toNat % 2 = 1) := by
    rw [BitVec.getLsbD, Nat.testBit_zero]
  rw [this]
  by_cases h : r.toNat % 2 = 1
  · simp [h]
  · have : r.toNat % 2 = 0 := by omega
    simp [this]
theorem crc_bit (r : BitVec 32) : bits .xor .u32 ((r.toNat : Int) / 2) (bits .and .u32 3988292384 (-bits .and .u32 (r.toNat : Int) 1 % 4294967296)) = ((crcBit r).toNat : Int) := by
  rw [and_u32_one]
  unfold crcBit
  have e : ((r.toNat : Int) / (2 : Int)) = ((r >>> 1).toNat : Int) := by
    rw [BitVec.toNat_ushiftRight, Nat.shiftRight_eq_div_pow]
    omega
  rw [e]
  cases h : r.getLsbD 0 with
  | true =>
    rw [if_pos rfl, if_pos rfl, ← xor_u32]
    rfl
  | false =>
    rw [if_neg (by simp), if_neg (by simp), ← xor_u32]
    rfl
theorem crc_not (r : BitVec 32) : bits .xor .u32 IntKind.u32.max (r.toNat : Int) = ((~~~r).toNat : Int) := by
  have e : IntKind.u32.max = ((BitVec.allOnes 32).toNat : Int) := by decide
  rw [e, xor_u32, BitVec.allOnes_xor]
theorem crcBits_add (a b : Nat) (r : BitVec 32) : crcBits (a + b) r = crcBits b (crcBits a r) := by
  induction a generalizing r with
  | zero => simp [crcBits]
  | succ a ih => rw [Nat.succ_add, crcBits, crcBits, ih]
theorem crcReg_snoc (r : BitVec 32) (l : List UInt8) (x : UInt8) : crcReg r (l ++ [x]) = crcByte (crcReg r l) x := by simp [crcReg]

def be4 (r : BitVec 32) : List UInt8 := [UInt8.ofNat (r.toNat / 16777216), UInt8.ofNat (r.toNat / 65536), UInt8.ofNat (r.toNat / 256), UInt8.ofNat r.toNat]
theorem Own.new (w : World) (l : List UInt8) (hl : l.length ≤ maxLen) : Own (w.alloc (.cells (BV l).toArray 5)) w.heap.size (.slice (some ⟨w.heap.size, 0, none⟩) l.length l.length) l := by
  refine ⟨by simp [BV_length], .inr ⟨w.heap.size, l.length, (BV l).toArray, rfl, Nat.le_refl _, heap_alloc_new w _, Nat.le_refl _, hl, by simp [BV_length], ?_⟩⟩
  rw [Nat.mul_one]
  exact List.take_of_length_le (by rw [BV_length]; exact Nat.le_refl _)
theorem be4_cells (R : BitVec 32) : #[Value.int IntKind.u8 ((R.toNat : Int) / 16777216), Value.int IntKind.u8 ((R.toNat : Int) / 65536 % 256), Value.int IntKind.u8 ((R.toNat : Int) / 256 % 256), Value.int IntKind.u8 ((R.toNat : Int) % 256)] = (BV (be4 R)).toArray := by
  have h := R.isLt
  have e : ∀ n : Nat, ((UInt8.ofNat n).toNat : Int) = (n : Int) % 256 := fun n => by simp [UInt8.toNat_ofNat']
  simp only [be4, BV, List.map_cons, List.map_nil, e]
  have e2 : ((R.toNat : Int) / 16777216) = ((R.toNat / 16777216 : Nat) : Int) % 256 := by omega
  rw [e2]
  rfl
theorem Rd.take {w : World} {ao : Option Addr} {n cap : Nat} {l : List UInt8} (h : Rd w (.slice ao n cap) l) (j : Nat) (hj : j ≤ l.length) : Rd w (.slice ao j cap) (l.take j) := by
  obtain ⟨ao', cap', hv, h1, h2, h3, h4⟩ := h
  cases hv
  refine ⟨ao, cap, ?_, ?_, h2, h3, fun a ha i hi => ?_⟩
  · simp [Nat.min_eq_left hj]
  · simp; omega
  · simp at hi
    rw [h4 a ha i (by omega)]
    simp
theorem Rd.cut {w : World} {ao : Option Addr} {n cap : Nat} {l : List UInt8} (h : Rd w (.slice ao n cap) l) (i j : Nat) (hij : i ≤ j) (hj : j ≤ l.length) : Rd w (.slice (Option.map (fun x => x.add i) ao) (j - i) (cap - i)) ((l.take j).drop i) := by
  obtain ⟨ao', cap', hv, h1, h2, h3, h4⟩ := h
  cases hv
  refine ⟨Option.map (fun x => x.add i) ao, cap - i, ?_, ?_, by omega, fun hn => ?_, fun a ha k hk => ?_⟩
  · simp [Nat.min_eq_left hj]
  · simp; omega
  · simp at hn; have := h3 hn; omega
  · simp at ha
    obtain ⟨a0, h0, rfl⟩ := ha
    simp at hk
    have := h4 a0 h0 (i + k) (by omega)
    simp only [List.getElem_drop, List.getElem_take]
    rw [← this]
    congr 1
    unfold Addr.add
    split <;> split <;> split <;> simp_all <;> omega

def unsealL (l : List UInt8) : List UInt8 × Nat := if l.length < 4 then ([], 11) else if l.drop (l.length - 4) = be4 (crc (l.take (l.length - 4))) then (l.take (l.length - 4), 0) else ([], 12)

def getB (l : List UInt8) (at_ most : Int) : List UInt8 × Nat × Nat :=
  if (getU l at_).2.2 ≠ 0 then ([], 0, (getU l at_).2.2)
  else if most < 0 ∨ most < (getU l at_).1 then ([], 0, 3)
  else if l.length - (getU l at_).2.1 < (getU l at_).1 then ([], 0, 11)
  else ((l.drop (getU l at_).2.1).take (getU l at_).1, (getU l at_).2.1 + (getU l at_).1, 0)

theorem rdU_place (p i acc : Nat) (l : List UInt8) : (rdU p i acc l).2.2 = 0 → p + i < (rdU p i acc l).2.1 ∧ (rdU p i acc l).2.1 ≤ p + i + l.length := by
  induction l generalizing i acc with
  | nil => simp [rdU]
  | cons x t ih =>
    rw [rdU]
    split
    · simp
    · split
      · simp
      · split
        · simp
        · intro h
          have := ih (i + 1) _ h
          simp only [List.length_cons]
          omega
theorem getU_place (l : List UInt8) (p : Int) (h : (getU l p).2.2 = 0) : 0 ≤ p ∧ p < (getU l p).2.1 ∧ (getU l p).2.1 ≤ l.length := by
  unfold getU at h ⊢
  split at h
  · simp at h
  · rename_i hb
    rw [if_neg hb]
    have := rdU_place _ _ _ _ h
    simp only [List.length_drop] at this
    omega

end Go.Proofs.YtpiiehenmkinaaaDoor
