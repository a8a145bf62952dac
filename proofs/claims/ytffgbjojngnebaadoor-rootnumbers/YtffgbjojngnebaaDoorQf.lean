/-
  A change within 32 bits running is seen by the check. Plain lemmas. What is got of any bytes is what was put; a change of four bytes is seen; frames are apart. Own work, no walk. Own work.
-/
import Derived.Test.YtffgbjojngnebaaDoorQe
namespace Go.Proofs.YtffgbjojngnebaaDoor
open Go.RowKit

/-- one bit of a byte turned -/
def flipB (x : UInt8) (p : Nat) : UInt8 := UInt8.ofNat (x.toNat ^^^ 2 ^ p)
/-- one bit of bytes turned -/
def flipL (l : List UInt8) (j : Nat) : List UInt8 := l.set (j / 8) (flipB (l.getD (j / 8) 0) (j % 8))
/-- those of k bits from a place on turned that are set -/
def chg (l : List UInt8) (from_ change : Nat) : Nat → List UInt8
  | 0 => l
  | k + 1 => if change.testBit k then flipL (chg l from_ change k) (from_ + k) else chg l from_ change k
def mask (change : Nat) : Nat → BitVec 32
  | 0 => 0#32
  | k + 1 => mask change k ^^^ (if change.testBit k then BitVec.twoPow 32 k else 0#32)

theorem flipL_length (l : List UInt8) (j : Nat) : (flipL l j).length = l.length := by simp [flipL]
theorem chg_length (l : List UInt8) (f c k : Nat) : (chg l f c k).length = l.length := by
  induction k with
  | zero => rfl
  | succ k ih => rw [chg]; split <;> simp [flipL_length, ih]

theorem crcBits_pow (i : Nat) (hi : i < 32) : crcBits i (BitVec.twoPow 32 i) = 1#32 := by
  have : ∀ i : Fin 32, crcBits i.val (BitVec.twoPow 32 i.val) = 1#32 := by decide +kernel
  exact this ⟨i, hi⟩
theorem flipB_xor (x : UInt8) (p : Nat) (hp : p < 8) : BitVec.ofNat 32 (flipB x p).toNat ^^^ BitVec.ofNat 32 x.toNat = BitVec.twoPow 32 p := by
  have h : ∀ (x : Fin 256) (p : Fin 8), BitVec.ofNat 32 ((x.val ^^^ 2 ^ p.val) % 256) ^^^ BitVec.ofNat 32 x.val = BitVec.twoPow 32 p.val := by decide +kernel
  have := h ⟨x.toNat, x.toNat_lt⟩ ⟨p, hp⟩
  unfold flipB
  rw [UInt8.toNat_ofNat']
  exact this

theorem crcReg_flip (r : BitVec 32) (l : List UInt8) (j : Nat) (hj : j < 8 * l.length) : crcReg r (flipL l j) ^^^ crcReg r l = crcBits (8 * l.length - j) 1#32 := by
  have hq : j / 8 < l.length := by omega
  have e0 : l.getD (j / 8) 0 = l[j / 8] := by simp [List.getD, hq]
  have e1 : l = l.take (j / 8) ++ l[j / 8] :: l.drop (j / 8 + 1) := by simp
  have e2 : flipL l j = l.take (j / 8) ++ flipB l[j / 8] (j % 8) :: l.drop (j / 8 + 1) := by
    unfold flipL
    rw [e0, List.set_eq_take_append_cons_drop, if_pos hq]
  have e3 : crcReg r l = crcReg (crcReg r (l.take (j / 8))) (l[j / 8] :: l.drop (j / 8 + 1)) := by
    conv => lhs; rw [e1]
    rw [crcReg_append]
  rw [e2, e3, crcReg_append]
  have e4 : ∀ s x t, crcReg s (x :: t) = crcReg (crcByte s x) t := fun _ _ _ => rfl
  rw [e4, e4, crcReg_diff]
  unfold crcByte
  rw [← crcBits_xor]
  have e5 : ∀ a b c : BitVec 32, (a ^^^ b) ^^^ (a ^^^ c) = b ^^^ c := by
    intro a b c
    rw [BitVec.xor_comm a b, BitVec.xor_assoc, ← BitVec.xor_assoc a a c, BitVec.xor_self, BitVec.zero_xor]
  rw [e5, flipB_xor _ _ (by omega), ← crcBits_add, List.length_drop,
    show 8 + 8 * (l.length - (j / 8 + 1)) = j % 8 + (8 * l.length - j) by omega, crcBits_add, crcBits_pow _ (by omega)]

theorem crcReg_chg (r : BitVec 32) (l : List UInt8) (f c k : Nat) (hk : k ≤ 32) (hfk : f + k ≤ 8 * l.length) : crcReg r (chg l f c k) ^^^ crcReg r l = crcBits (8 * l.length - f) (mask c k) := by
  induction k with
  | zero => rw [chg, mask, BitVec.xor_self, crcBits_zero]
  | succ k ih =>
    have ih := ih (by omega) (by omega)
    rw [chg, mask]
    by_cases hb : c.testBit k
    · rw [if_pos hb, if_pos hb, crcBits_xor, ← ih]
      have h := crcReg_flip r (chg l f c k) (f + k) (by rw [chg_length]; omega)
      rw [chg_length] at h
      have h2 : crcBits (8 * l.length - f) (BitVec.twoPow 32 k) = crcBits (8 * l.length - (f + k)) 1#32 := by
        rw [show 8 * l.length - f = k + (8 * l.length - (f + k)) by omega, crcBits_add, crcBits_pow _ (by omega)]
      rw [h2, ← h]
      generalize crcReg r (flipL (chg l f c k) (f + k)) = A
      generalize crcReg r (chg l f c k) = B
      generalize crcReg r l = C
      rw [BitVec.xor_comm A B, BitVec.xor_assoc B C, ← BitVec.xor_assoc C B A, BitVec.xor_comm C B, ← BitVec.xor_assoc B, ← BitVec.xor_assoc B, BitVec.xor_self, BitVec.zero_xor, BitVec.xor_comm]
    · rw [if_neg hb, if_neg hb, BitVec.xor_zero, ih]

theorem mask_bit (c k i : Nat) (hi : i < 32) : (mask c k).getLsbD i = (decide (i < k) && c.testBit i) := by
  induction k with
  | zero => simp [mask]
  | succ k ih =>
    rw [mask, BitVec.getLsbD_xor, ih]
    by_cases hik : i = k
    · subst hik
      by_cases hb : c.testBit i
      · rw [if_pos hb, hb, BitVec.getLsbD_twoPow]
        simp [hi]
      · rw [if_neg hb]
        simp at hb
        simp [hb]
    · have e : (if c.testBit k then BitVec.twoPow 32 k else 0#32).getLsbD i = false := by
        split
        · rw [BitVec.getLsbD_twoPow]
          simp
          omega
        · simp
      rw [e, Bool.xor_false]
      have : decide (i < k + 1) = decide (i < k) := by
        rw [Bool.eq_iff_iff]; simp; omega
      rw [this]

/-- a change within 32 bits running is seen -/
theorem crc_chg (l : List UInt8) (f c k : Nat) (hk : k ≤ 32) (hfk : f + k ≤ 8 * l.length) (h : crc (chg l f c k) = crc l) : chg l f c k = l := by
  rw [crc_eq_iff, crcReg_chg _ l f c k hk hfk] at h
  have hm := crcBits_eq_zero _ _ h
  have hb : ∀ i, i < k → c.testBit i = false := by
    intro i hi
    have := mask_bit c k i (by omega)
    rw [hm] at this
    simp [hi] at this
    exact this
  have : ∀ j, j ≤ k → chg l f c j = l := by
    intro j hj
    induction j with
    | zero => rfl
    | succ j ih =>
      rw [chg, hb j (by omega)]
      simp
      exact ih (by omega)
  exact this k (Nat.le_refl _)

end Go.Proofs.YtffgbjojngnebaaDoor
namespace Go.Proofs.YtffgbjojngnebaaDoor
open Go.RowKit

theorem rdU_inv (p i acc n q : Nat) (l : List UInt8) (hi : i ≤ 10) (h : rdU p i acc l = (n, q, 0)) :
    ∃ m, n = acc + m * 2 ^ (7 * i) ∧ q = p + i + (sev (10 - i) m).length ∧ l.take (sev (10 - i) m).length = sev (10 - i) m ∧ (0 < i → 0 < m) := by
  induction l generalizing i acc with
  | nil => simp [rdU] at h
  | cons x t ih =>
    by_cases h10 : i = 10
    · rw [rdU, if_pos h10] at h
      simp at h
    · have hlt : i < 10 := by omega
      rw [rdU_cons _ _ _ _ _ hlt] at h
      have hx8 : x.toNat < 256 := x.toNat_lt
      cases hm : mayB x.toNat i with
      | false => rw [if_pos hm] at h; simp at h
      | true =>
        rw [if_neg (by rw [hm]; simp)] at h
        by_cases hx : x.toNat < 128
        · rw [if_pos hx] at h
          simp only [Prod.mk.injEq, and_true] at h
          have hs : sev (10 - i) x.toNat = [x] := by
            rw [show 10 - i = (9 - i) + 1 by omega, sev, if_pos hx]
            simp
          refine ⟨x.toNat, ?_, ?_, ?_, ?_⟩
          · rw [← h.1, Nat.mod_eq_of_lt hx]
          · rw [hs, ← h.2]; rfl
          · rw [hs]; rfl
          · intro hi0
            simp [mayB] at hm
            omega
        · rw [if_neg hx] at h
          obtain ⟨m, h1, h2, h3, h4⟩ := ih (i + 1) _ (by omega) h
          have hm0 := h4 (by omega)
          have hs : sev (10 - i) (x.toNat % 128 + 128 * m) = x :: sev (10 - (i + 1)) m := by
            rw [show 10 - i = (10 - (i + 1)) + 1 by omega, sev, if_neg (by omega)]
            congr 1
            · rw [← UInt8.toNat_inj, UInt8.toNat_ofNat']
              omega
            · congr 1
              omega
          refine ⟨x.toNat % 128 + 128 * m, ?_, ?_, ?_, by omega⟩
          · rw [h1, Nat.add_assoc]
            congr 1
            have e : 2 ^ (7 * (i + 1)) = 128 * 2 ^ (7 * i) := by rw [Nat.mul_add, Nat.pow_add]; omega
            rw [e, Nat.add_mul, ← Nat.mul_assoc, Nat.mul_comm m 128]
          · rw [hs, List.length_cons, h2]; omega
          · rw [hs, List.length_cons, List.take_succ_cons, h3]
theorem getU_inv (l : List UInt8) (n q : Nat) (h : getU l 0 = (n, q, 0)) : q = (U n).length ∧ l.take (U n).length = U n := by
  unfold getU at h
  rw [if_neg (by omega)] at h
  have := rdU_inv 0 0 0 n q _ (by omega) h
  obtain ⟨m, h1, h2, h3, -⟩ := this
  simp only [Nat.mul_zero, Nat.pow_zero, Nat.mul_one, Nat.zero_add] at h1 h2
  subst h1
  exact ⟨h2, h3⟩
theorem unseal_inv (s : List UInt8) (h : (unsealL s).2 = 0) : s = (unsealL s).1 ++ be4 (crc (unsealL s).1) := by
  unfold unsealL at h ⊢
  by_cases h4 : s.length < 4
  · rw [if_pos h4] at h; simp at h
  · rw [if_neg h4] at h ⊢
    by_cases hc : s.drop (s.length - 4) = be4 (crc (s.take (s.length - 4)))
    · rw [if_pos hc]
      simp only
      rw [← hc, List.take_append_drop]
    · rw [if_neg hc] at h; simp at h
theorem getF_inv (l : List UInt8) (h : (getF l 0).2.2 = 0) :
    0 < (getF l 0).1.length ∧ (getF l 0).1.length ≤ 1048576 ∧ (getF l 0).2.1 ≤ l.length ∧ l.take (getF l 0).2.1 = frameL (getF l 0).1 := by
  have hb : (bnd l 0).2.2 = 0 := by
    rcases Nat.eq_zero_or_pos (bnd l 0).2.2 with h0 | h0
    · exact h0
    · exact absurd h (getF_bnd l 0 (by omega))
  have hin := bnd_in l 0 hb
  have hg : (getU l 0).2.2 = 0 := by
    rcases Nat.eq_zero_or_pos (getU l 0).2.2 with h0 | h0
    · exact h0
    · exact absurd h (getF_getU l 0 (by omega))
  obtain ⟨n, q, e, hR⟩ : ∃ n q e, getU l 0 = (n, q, e) := ⟨_, _, _, rfl⟩
  rw [hR] at hg
  simp only at hg
  subst hg
  obtain ⟨hq, hu⟩ := getU_inv l n q hR
  have hbd : ¬ (n = 0 ∨ 1048576 < n) ∧ bnd l 0 = (q, q + n + 4, 0) := by
    unfold bnd at hb ⊢
    rw [hR] at hb ⊢
    simp only at hb ⊢
    rw [if_neg (by simp)] at hb ⊢
    by_cases h2 : n = 0 ∨ 1048576 < n
    · rw [if_pos h2] at hb; simp at hb
    · rw [if_neg h2] at hb ⊢
      by_cases h3 : l.length ≤ q + n + 4
      · rw [if_pos h3] at hb; simp at hb
      · rw [if_neg h3]
        exact ⟨h2, rfl⟩
  obtain ⟨hn, hbe⟩ := hbd
  rw [hbe] at hin
  simp only at hin
  have hF : getF l 0 = if l.getD (q + n + 4) 0 ≠ 165 then ([], 0, 10)
      else if (unsealL ((l.take (q + n + 4)).drop q)).2 ≠ 0 then ([], 0, (unsealL ((l.take (q + n + 4)).drop q)).2)
      else ((unsealL ((l.take (q + n + 4)).drop q)).1, q + n + 4 + 1, 0) := by
    unfold getF
    rw [hbe]
    simp only
    rw [if_neg (by simp)]
  by_cases hx : l.getD (q + n + 4) 0 ≠ 165
  · rw [hF, if_pos hx] at h; simp at h
  · rw [if_neg hx] at hF
    by_cases hs : (unsealL ((l.take (q + n + 4)).drop q)).2 ≠ 0
    · rw [hF, if_pos hs] at h; exact absurd h hs
    · rw [if_neg hs] at hF
      have hsl : ((l.take (q + n + 4)).drop q).length = n + 4 := by rw [List.length_drop, List.length_take]; omega
      have hse := unseal_inv ((l.take (q + n + 4)).drop q) (by simpa using hs)
      have hx2 : l[q + n + 4]'hin.2.1 = 165 := by
        have : l.getD (q + n + 4) 0 = l[q + n + 4]'hin.2.1 := by simp [List.getD, hin.2.1]
        rw [← this]
        simpa using hx
      rw [hF]
      simp only
      obtain ⟨b, hb2⟩ : ∃ b, b = (unsealL ((l.take (q + n + 4)).drop q)).1 := ⟨_, rfl⟩
      rw [← hb2] at hse ⊢
      have hbl : b.length = n := by
        have := congrArg List.length hse
        rw [hsl, List.length_append, be4_len] at this
        omega
      refine ⟨by omega, by omega, by omega, ?_⟩
      rw [List.take_succ_eq_append_getElem hin.2.1, hx2]
      have e1 : l.take (q + n + 4) = (l.take q) ++ ((l.take (q + n + 4)).drop q) := by
        conv => lhs; rw [← List.take_append_drop q (l.take (q + n + 4))]
        rw [List.take_take, Nat.min_eq_left (by omega)]
      rw [e1, hse, hq, hu]
      unfold frameL
      rw [hbl]
      simp
/-- no frame is the begin of another one -/
theorem frame_apart (a b : List UInt8) (ha0 : 0 < a.length) (ha1 : a.length ≤ 1048576) (hb0 : 0 < b.length) (hb1 : b.length ≤ 1048576) (n : Nat) (hn : n = min (frameL a).length (frameL b).length)
    (h : (frameL a).take n = (frameL b).take n) : a = b := by
  rcases Nat.le_total (frameL a).length (frameL b).length with hle | hle
  · rw [Nat.min_eq_left hle] at hn
    subst hn
    rw [List.take_length] at h
    have e : frameL b = frameL a ++ (frameL b).drop (frameL a).length := by
      conv => lhs; rw [← List.take_append_drop (frameL a).length (frameL b)]
      rw [← h]
    have h1 := getF_frame a [] ((frameL b).drop (frameL a).length) ha0 ha1
    have h2 := getF_frame b [] [] hb0 hb1
    rw [← e] at h1
    simp only [List.nil_append, List.append_nil] at h1 h2
    rw [h1] at h2
    exact (Prod.mk.inj h2).1
  · rw [Nat.min_eq_right hle] at hn
    subst hn
    rw [List.take_length] at h
    have e : frameL a = frameL b ++ (frameL a).drop (frameL b).length := by
      conv => lhs; rw [← List.take_append_drop (frameL b).length (frameL a)]
      rw [h]
    have h1 := getF_frame b [] ((frameL a).drop (frameL b).length) hb0 hb1
    have h2 := getF_frame a [] [] ha0 ha1
    rw [← e] at h1
    simp only [List.nil_append, List.append_nil] at h1 h2
    rw [h1] at h2
    exact (Prod.mk.inj h2).1.symm

/-- eight pushes undo a shift by a byte -/
theorem crcBit_shl (y : BitVec 32) (j : Nat) (h : y.toNat * 2 ^ (j + 1) < 4294967296) : crcBit (y <<< (j + 1)) = y <<< j := by
  have hp : 2 ^ (j + 1) = 2 * 2 ^ j := by rw [Nat.pow_succ]; omega
  have e1 : (y <<< (j + 1)).toNat = y.toNat * 2 ^ (j + 1) := by
    rw [BitVec.toNat_shiftLeft, Nat.shiftLeft_eq, Nat.mod_eq_of_lt h]
  have e2 : (y <<< j).toNat = y.toNat * 2 ^ j := by
    rw [BitVec.toNat_shiftLeft, Nat.shiftLeft_eq, Nat.mod_eq_of_lt]
    rw [hp, ← Nat.mul_assoc, Nat.mul_comm y.toNat 2, Nat.mul_assoc] at h
    omega
  have h0 : (y <<< (j + 1)).getLsbD 0 = false := by simp
  unfold crcBit
  rw [h0, if_neg (by simp)]
  apply BitVec.eq_of_toNat_eq
  rw [BitVec.xor_zero, BitVec.toNat_ushiftRight, e1, e2, Nat.shiftRight_eq_div_pow, hp, ← Nat.mul_assoc, Nat.mul_comm y.toNat 2, Nat.mul_assoc]
  omega
theorem crcBits_shl (y : BitVec 32) (j : Nat) (hj : j ≤ 8) (h : y.toNat < 16777216) : crcBits j (y <<< j) = y := by
  induction j with
  | zero => simp [crcBits]
  | succ j ih =>
    rw [crcBits, crcBit_shl y j ?_]
    · exact ih (by omega)
    · have h1 : 2 ^ (j + 1) ≤ 2 ^ 8 := Nat.pow_le_pow_right (by omega) hj
      calc y.toNat * 2 ^ (j + 1) ≤ y.toNat * 2 ^ 8 := Nat.mul_le_mul_left _ h1
        _ < 4294967296 := by omega
theorem crcBits_inj (n : Nat) (a b : BitVec 32) (h : crcBits n a = crcBits n b) : a = b := by
  rw [← xor_eq_zero]
  apply crcBits_eq_zero n
  rw [crcBits_xor, h, BitVec.xor_self]
theorem mul256 (z : Nat) : z * 256 = 2 ^ 8 * z := by omega
theorem reg_four (k : Nat) (hk : k ≤ 4) (a b : List UInt8) (ha : a.length = k) (hb : b.length = k) (r s : BitVec 32) (h : crcReg r a = crcReg s b) :
    (r ^^^ s).toNat < 2 ^ (8 * k) ∧ (r = s → a = b) := by
  induction k generalizing a b r s with
  | zero =>
    obtain rfl := List.eq_nil_of_length_eq_zero ha
    obtain rfl := List.eq_nil_of_length_eq_zero hb
    have : r = s := h
    subst this
    simp
  | succ k ih =>
    cases a with
    | nil => simp at ha
    | cons x a =>
      cases b with
      | nil => simp at hb
      | cons y b =>
        obtain ⟨h1, h2⟩ := ih (by omega) a b (by simpa using ha) (by simpa using hb) (crcByte r x) (crcByte s y) h
        have hx : x.toNat < 256 := x.toNat_lt
        have hy : y.toNat < 256 := y.toNat_lt
        have hE : crcByte r x ^^^ crcByte s y = crcBits 8 ((r ^^^ BitVec.ofNat 32 x.toNat) ^^^ (s ^^^ BitVec.ofNat 32 y.toNat)) := by
          unfold crcByte
          exact (crcBits_xor 8 _ _).symm
        obtain ⟨E, hEe⟩ : ∃ E, E = crcByte r x ^^^ crcByte s y := ⟨_, rfl⟩
        rw [← hEe] at h1 hE
        have hp : 2 ^ (8 * k) ≤ 2 ^ 24 := Nat.pow_le_pow_right (by omega) (by omega)
        have hE24 : E.toNat < 16777216 := by omega
        have hs := crcBits_shl E 8 (by omega) hE24
        rw [hE] at hs
        have hs2 := crcBits_inj 8 _ _ hs
        rw [← hE] at hs2
        have hEs : (E <<< 8).toNat = E.toNat * 256 := by
          rw [BitVec.toNat_shiftLeft, Nat.shiftLeft_eq, Nat.mod_eq_of_lt (by omega)]
        have hr : r ^^^ s = (E <<< 8) ^^^ BitVec.ofNat 32 (x.toNat ^^^ y.toNat) := by
          have e : BitVec.ofNat 32 (x.toNat ^^^ y.toNat) = BitVec.ofNat 32 x.toNat ^^^ BitVec.ofNat 32 y.toNat := by
            apply BitVec.eq_of_toNat_eq
            have : x.toNat ^^^ y.toNat < 2 ^ 8 := Nat.xor_lt_two_pow (n := 8) hx hy
            rw [BitVec.toNat_xor, BitVec.toNat_ofNat, BitVec.toNat_ofNat, BitVec.toNat_ofNat, Nat.mod_eq_of_lt (by omega), Nat.mod_eq_of_lt (by omega), Nat.mod_eq_of_lt (by omega)]
          rw [hs2, e]
          have hself : ∀ u v : BitVec 32, u ^^^ v ^^^ v = u := fun u v => by rw [BitVec.xor_assoc, BitVec.xor_self, BitVec.xor_zero]
          generalize BitVec.ofNat 32 x.toNat = X
          generalize BitVec.ofNat 32 y.toNat = Y
          apply BitVec.eq_of_getLsbD_eq
          intro i hi
          simp only [BitVec.getLsbD_xor]
          cases r.getLsbD i <;> cases s.getLsbD i <;> cases X.getLsbD i <;> cases Y.getLsbD i <;> rfl
        have hxy : x.toNat ^^^ y.toNat < 2 ^ 8 := Nat.xor_lt_two_pow (n := 8) hx hy
        have hsum : (r ^^^ s).toNat = E.toNat * 256 + (x.toNat ^^^ y.toNat) := by
          rw [hr, BitVec.toNat_xor, hEs, BitVec.toNat_ofNat, Nat.mod_eq_of_lt (by omega)]
          have := Nat.two_pow_add_eq_or_of_lt (i := 8) hxy E.toNat
          rw [← mul256] at this
          rw [this]
          apply Nat.eq_of_testBit_eq
          intro i
          rw [Nat.testBit_xor, Nat.testBit_or]
          rw [mul256, Nat.testBit_two_pow_mul]
          by_cases hi : i < 8
          · simp [show ¬ 8 ≤ i by omega]
          · have : (x.toNat ^^^ y.toNat).testBit i = false := Nat.testBit_lt_two_pow (Nat.lt_of_lt_of_le hxy (Nat.pow_le_pow_right (by omega) (by omega)))
            rw [this]
            simp
        refine ⟨?_, ?_⟩
        · rw [hsum]
          have e : 2 ^ (8 * (k + 1)) = 256 * 2 ^ (8 * k) := by rw [Nat.mul_add, Nat.pow_add]; omega
          rw [e]
          omega
        · intro hrs
          subst hrs
          rw [BitVec.xor_self] at hsum
          simp only [BitVec.toNat_ofNat, Nat.zero_mod] at hsum
          have hE0 : E.toNat = 0 := by omega
          have hx0 : x.toNat ^^^ y.toNat = 0 := by omega
          have hxe : x = y := by
            rw [← UInt8.toNat_inj]
            have h3 : x.toNat ^^^ (x.toNat ^^^ y.toNat) = x.toNat := by rw [hx0, Nat.xor_zero]
            rwa [← Nat.xor_assoc, Nat.xor_self, Nat.zero_xor, eq_comm] at h3
          subst hxe
          have hEz : E = 0#32 := BitVec.eq_of_toNat_eq (by rw [hE0]; rfl)
          rw [hEz] at hEe
          rw [h2 ((xor_eq_zero _ _).1 hEe.symm)]
/-- bytes that differ within four bytes running have unlike checks -/
theorem crc_four (a m m' c : List UInt8) (hm : m.length ≤ 4) (hmm : m'.length = m.length) (h : crc (a ++ (m ++ c)) = crc (a ++ (m' ++ c))) : m = m' := by
  have h1 : crc ((a ++ m) ++ c) ^^^ crc ((a ++ m') ++ c) = 0#32 := by
    rw [List.append_assoc, List.append_assoc, h, BitVec.xor_self]
  rw [crc_diff_zero, crc_eq_iff, xor_eq_zero, crcReg_append, crcReg_append] at h1
  exact (reg_four m.length hm m m' rfl hmm _ _ h1).2 rfl
end Go.Proofs.YtffgbjojngnebaaDoor
