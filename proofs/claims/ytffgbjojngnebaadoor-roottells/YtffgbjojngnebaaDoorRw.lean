/-
  The contract of the document's bit. The check as the rest of a division, bit by bit. Plain lemmas. The contract of the document's Crc. The contracts of the document's own Frame, Put. Own work.
-/
import Derived.Test.YtffgbjojngnebaaDoorRz
import Derived.Test.YtffgbjojngnebaaDoorQf
import Derived.Test.YtffgbjojngnebaaDoorQg
import Derived.Test.YtffgbjojngnebaaDoorRy
namespace Go.Proofs.YtffgbjojngnebaaDoor
open Go.RowKit

/-- the i-th bit of bytes, behind them none -/
def dbit (l : List UInt8) (i : Nat) : Bool := decide (i < 8 * l.length) && (byt l (i / 8)).testBit (i % 8)

set_option maxRecDepth 100000 in
set_option maxHeartbeats 2000000 in
theorem refBit_any (v : Value) (l : List UInt8) (i : Nat) (w : World) (hrd : Rd w v l) (hl : l.length ≤ 1000000) (hi : i ≤ 10000000) :
    Calls Tryd.prog 98 #[v, .int .i64 i] w fun e w' => e = .returned (.bool (dbit l i != decide (i < 32))) ∧ w = w' := by
  have hdec : decide ((i : Int) < 32) = decide (i < 32) := by
    rw [Bool.eq_iff_iff]; simp; omega
  have HDEC : Hid _ := hdec
  clear hdec
  rcases hrd.cases with ⟨rfl, ao, cap, rfl, h1, h2⟩ | ⟨b, off, cap, rfl, h1, h2, h3, h4, h5⟩
  · have e : dbit [] i = false := by simp [dbit]
    rw [e]
    clear h1 h2 hrd
    go_enter Tryd.func98, Tryd.ntmps98
    go_wp2
    go_ret
    refine ⟨congrArg (fun z => Ending.returned (Value.bool z)) ?_, rfl⟩
    rw [← HDEC.out]
    try simp
  · by_cases hlt : i < 8 * l.length
    · have e : dbit l i = (byt l (i / 8)).testBit (i % 8) := by simp [dbit, hlt]
      rw [e]
      have hc : w.cell? ⟨b, off + i / 8, none⟩ = some (.int .u8 (byt l (i / 8) : Int)) := by
        rw [byt_eq l (i / 8) (by omega)]
        exact h5 (i / 8) (by omega)
      have hj : i / 8 < l.length := by omega
      have hjI : ((i / 8 : Nat) : Int) < (l.length : Int) := by omega
      have hjE : (i : Int) / 8 = ((i / 8 : Nat) : Int) := by omega
      have hrE : (i : Int) % 8 = ((i % 8 : Nat) : Int) := by omega
      have hx := byt_lt l (i / 8)
      obtain ⟨x, HX⟩ := named (byt l (i / 8))
      rw [← HX.out] at hc hx ⊢
      have htb : (((x : Int) / 2 ^ (i % 8)).tmod 2 == 1) = x.testBit (i % 8) := by
        rw [Int.tmod_eq_emod_of_nonneg (Int.ediv_nonneg (by omega) (by have := Nat.two_pow_pos (i % 8); have e : (2 : Int) ^ (i % 8) = ((2 ^ (i % 8) : Nat) : Int) := by simp
                                                                       omega)), Nat.testBit_eq_decide_div_mod_eq, Bool.eq_iff_iff]
        simp only [beq_iff_eq, decide_eq_true_eq]
        have : (2 : Int) ^ (i % 8) = ((2 ^ (i % 8) : Nat) : Int) := by simp
        rw [this]
        omega
      have hltI : (i : Int) < 8 * (l.length : Int) := by omega
      obtain ⟨j, HJ⟩ := named (i / 8)
      rw [← HJ.out] at hc hj hjI hjE
      obtain ⟨r, HR⟩ := named (i % 8)
      have HTB : Hid _ := htb
      rw [← HR.out] at hrE HTB ⊢
      clear htb
      have hr8 : r < 8 := by rw [HR.out]; omega
      clear h5 hrd e
      go_enter Tryd.func98, Tryd.ntmps98
      go_wp2
      go_ret
      refine ⟨congrArg (fun z => Ending.returned (Value.bool z)) ?_, rfl⟩
      rw [← HDEC.out, ← HTB.out]
      rfl
    · have e : dbit l i = false := by simp [dbit, hlt]
      rw [e]
      have hltI : ¬ (i : Int) < 8 * (l.length : Int) := by omega
      clear h5 hrd e
      go_enter Tryd.func98, Tryd.ntmps98
      go_wp2
      go_ret
      refine ⟨congrArg (fun z => Ending.returned (Value.bool z)) ?_, rfl⟩
      rw [← HDEC.out]
end Go.Proofs.YtffgbjojngnebaaDoor
namespace Go.Proofs.YtffgbjojngnebaaDoor
open Go.RowKit

def poly : BitVec 32 := 3988292384#32
def regB (l : List UInt8) : Nat → BitVec 32
  | 0 => BitVec.allOnes 32
  | i + 1 => crcBit (regB l i ^^^ (if dbit l i then 1#32 else 0#32))
theorem crcBits_last (j : Nat) (r : BitVec 32) : crcBits (j + 1) r = crcBit (crcBits j r) := by
  rw [crcBits_add]
  rfl
theorem regB_byte (l : List UInt8) (q : Nat) (hq : q < l.length) (j : Nat) (hj : j ≤ 8) : regB l (8 * q + j) = crcBits j (regB l (8 * q) ^^^ mask (byt l q) j) := by
  induction j with
  | zero => simp [mask, crcBits]
  | succ j ih =>
    have e1 : regB l (8 * q + (j + 1)) = crcBit (regB l (8 * q + j) ^^^ (if dbit l (8 * q + j) then 1#32 else 0#32)) := rfl
    have e2 : dbit l (8 * q + j) = (byt l q).testBit j := by
      unfold dbit
      rw [show (8 * q + j) / 8 = q by omega, show (8 * q + j) % 8 = j by omega]
      have : 8 * q + j < 8 * l.length := by omega
      simp [this]
    have e3 : crcBits j (if (byt l q).testBit j then BitVec.twoPow 32 j else 0#32) = if (byt l q).testBit j then 1#32 else 0#32 := by
      by_cases hb : (byt l q).testBit j
      · rw [if_pos hb, if_pos hb, crcBits_pow j (by omega)]
      · rw [if_neg hb, if_neg hb, crcBits_zero]
    rw [e1, e2, ih (by omega), crcBits_last, mask, ← BitVec.xor_assoc, crcBits_xor j (regB l (8 * q) ^^^ mask (byt l q) j), e3]
theorem mask_full (x : Nat) (hx : x < 256) : mask x 8 = BitVec.ofNat 32 x := by
  apply BitVec.eq_of_getLsbD_eq
  intro i hi
  rw [mask_bit x 8 i hi, BitVec.getLsbD_ofNat]
  by_cases h8 : i < 8
  · simp [h8, hi]
  · have : x.testBit i = false := Nat.testBit_lt_two_pow (Nat.lt_of_lt_of_le (show x < 2 ^ 8 by omega) (Nat.pow_le_pow_right (by omega) (by omega)))
    simp [h8, this]
theorem regB_reg (l : List UInt8) (q : Nat) (hq : q ≤ l.length) : regB l (8 * q) = crcReg (BitVec.allOnes 32) (l.take q) := by
  induction q with
  | zero => simp [regB, crcReg]
  | succ q ih =>
    rw [show 8 * (q + 1) = 8 * q + 8 by omega, regB_byte l q (by omega) 8 (by omega), ih (by omega), mask_full _ (byt_lt _ _)]
    have e : l.take (q + 1) = l.take q ++ [l[q]] := by rw [List.take_succ_eq_append_getElem (by omega)]
    rw [e, crcReg_append, byt_eq l q (by omega)]
    rfl
theorem crc_regB (l : List UInt8) : crc l = ~~~ regB l (8 * l.length) := by
  rw [regB_reg l _ (Nat.le_refl _), List.take_length]
  rfl
/-- what is left to be divided -/
def stF (l : List UInt8) (i : Nat) (t : Nat) : Bool := if t < i then false else if t < i + 32 then ((regB l i).getLsbD (t - i) ^^ dbit l t) else dbit l t
def stepF (f : Nat → Bool) (i k : Nat) (t : Nat) : Bool := if t = i then false else if i + 1 ≤ t ∧ t < i + 1 + k then (f t ^^ poly.getLsbD (t - (i + 1))) else f t
theorem stF_start (l : List UInt8) (t : Nat) : stF l 0 t = (dbit l t != decide (t < 32)) := by
  unfold stF
  rw [if_neg (by omega)]
  by_cases h : t < 32
  · rw [if_pos (by omega)]
    have : (regB l 0).getLsbD (t - 0) = true := by
      show (BitVec.allOnes 32).getLsbD (t - 0) = true
      rw [BitVec.getLsbD_allOnes]
      simp [h]
    rw [this]
    cases dbit l t <;> simp [h]
  · rw [if_neg (by omega)]
    cases dbit l t <;> simp [h]
theorem regB_next (l : List UInt8) (i k : Nat) : (regB l (i + 1)).getLsbD k = ((regB l i).getLsbD (k + 1) ^^ (((regB l i).getLsbD 0 ^^ dbit l i) && poly.getLsbD k)) := by
  have e : regB l (i + 1) = crcBit (regB l i ^^^ (if dbit l i then 1#32 else 0#32)) := rfl
  rw [e]
  generalize regB l i = r
  unfold crcBit
  rw [BitVec.getLsbD_xor, BitVec.getLsbD_ushiftRight, BitVec.getLsbD_xor]
  cases hd : dbit l i with
  | true =>
    have e1 : (1#32).getLsbD (1 + k) = false := by
      rw [BitVec.getLsbD_one]
      simp
    have e2 : (r ^^^ 1#32).getLsbD 0 = !r.getLsbD 0 := by
      rw [BitVec.getLsbD_xor]
      have : (1#32).getLsbD 0 = true := by decide
      rw [this]
      simp
    simp only [if_true, e1, e2, Bool.xor_false, Bool.xor_true]
    rw [Nat.add_comm 1 k]
    cases r.getLsbD 0 <;> simp [poly]
  | false =>
    simp only [BitVec.xor_zero, Bool.false_eq_true, if_false]
    have : (0#32).getLsbD (1 + k) = false := by simp
    rw [this, Nat.add_comm 1 k]
    cases r.getLsbD 0 <;> simp [poly]
theorem stF_at (l : List UInt8) (i : Nat) : stF l i i = ((regB l i).getLsbD 0 ^^ dbit l i) := by
  unfold stF
  rw [if_neg (by omega), if_pos (by omega), Nat.sub_self]
theorem stF_next (l : List UInt8) (i t : Nat) : stF l (i + 1) t = if stF l i i then stepF (stF l i) i 32 t else stF l i t := by
  have hc := stF_at l i
  have hn := regB_next l i
  obtain ⟨c, hcc⟩ : ∃ c, c = stF l i i := ⟨_, rfl⟩
  rw [← hcc] at hc ⊢
  rw [← hc] at hn
  by_cases h1 : t < i
  · have e : stF l i t = false := by unfold stF; rw [if_pos h1]
    have e2 : stF l (i + 1) t = false := by unfold stF; rw [if_pos (by omega)]
    have e3 : stepF (stF l i) i 32 t = false := by
      unfold stepF
      rw [if_neg (by omega), if_neg (by omega), e]
    rw [e2, e3, e]
    simp
  · by_cases h2 : t = i
    · subst h2
      have e2 : stF l (t + 1) t = false := by unfold stF; rw [if_pos (by omega)]
      have e3 : stepF (stF l t) t 32 t = false := by unfold stepF; rw [if_pos rfl]
      rw [e2, ← hcc, e3]
      cases c <;> simp
    · by_cases h3 : t < i + 1 + 32
      · have e2 : stF l (i + 1) t = ((regB l (i + 1)).getLsbD (t - (i + 1)) ^^ dbit l t) := by unfold stF; rw [if_neg (by omega), if_pos (by omega)]
        have e1 : stF l i t = ((regB l i).getLsbD (t - i) ^^ dbit l t) := by
          unfold stF
          rw [if_neg (by omega)]
          by_cases h4 : t < i + 32
          · rw [if_pos h4]
          · rw [if_neg h4, BitVec.getLsbD_of_ge _ _ (by omega)]
            simp
        have e3 : stepF (stF l i) i 32 t = (stF l i t ^^ poly.getLsbD (t - (i + 1))) := by
          unfold stepF
          rw [if_neg h2, if_pos (by omega)]
        rw [e2, hn _, show t - (i + 1) + 1 = t - i by omega, e3, e1]
        cases c <;> cases (regB l i).getLsbD (t - i) <;> cases dbit l t <;> simp
      · have e2 : stF l (i + 1) t = dbit l t := by unfold stF; rw [if_neg (by omega), if_neg (by omega)]
        have e1 : stF l i t = dbit l t := by unfold stF; rw [if_neg (by omega), if_neg (by omega)]
        have e3 : stepF (stF l i) i 32 t = stF l i t := by
          unfold stepF
          rw [if_neg h2, if_neg (by omega)]
        rw [e2, e3, e1]
        simp
theorem stF_end (l : List UInt8) (m : Nat) (hm : m < 32) : (!stF l (8 * l.length) (8 * l.length + m)) = (crc l).toNat.testBit m := by
  unfold stF
  rw [if_neg (by omega), if_pos (by omega), show 8 * l.length + m - 8 * l.length = m by omega]
  have : dbit l (8 * l.length + m) = false := by
    unfold dbit
    have : ¬ 8 * l.length + m < 8 * l.length := by omega
    simp only [this, decide_false, Bool.false_and]
  rw [this, crc_regB, ← BitVec.testBit_toNat, BitVec.testBit_toNat, BitVec.testBit_toNat]
  simp [hm]
theorem poly_bit (k : Nat) (hk : k < 32) : (79764919 / 2 ^ (31 - k) % 2 == 1) = poly.getLsbD k := by
  have : ∀ k : Fin 32, (79764919 / 2 ^ (31 - k.val) % 2 == 1) = poly.getLsbD k.val := by decide +kernel
  exact this ⟨k, hk⟩
theorem poly_bitI (k : Nat) (hk : k < 32) : (((79764919 : Int) / 2 ^ (31 - k)).tmod 2 == 1) = poly.getLsbD k := by
  have : ∀ k : Fin 32, (((79764919 : Int) / 2 ^ (31 - k.val)).tmod 2 == 1) = poly.getLsbD k.val := by decide +kernel
  exact this ⟨k, hk⟩
theorem stepF_skip (f : Nat → Bool) (i j t : Nat) (h : poly.getLsbD j = false) : stepF f i (j + 1) t = stepF f i j t := by
  unfold stepF
  by_cases e : t = i
  · rw [if_pos e, if_pos e]
  · rw [if_neg e, if_neg e]
    by_cases e2 : t = i + 1 + j
    · subst e2
      rw [if_pos (by omega), if_neg (by omega), show i + 1 + j - (i + 1) = j by omega, h]
      simp
    · by_cases e3 : i + 1 ≤ t ∧ t < i + 1 + j
      · rw [if_pos (by omega), if_pos e3]
      · rw [if_neg (by omega), if_neg e3]
theorem stepF_turn (f : Nat → Bool) (i j t : Nat) (h : poly.getLsbD j = true) : stepF f i (j + 1) t = if t = i + 1 + j then !stepF f i j (i + 1 + j) else stepF f i j t := by
  by_cases e2 : t = i + 1 + j
  · subst e2
    have e1 : stepF f i (j + 1) (i + 1 + j) = (f (i + 1 + j) ^^ poly.getLsbD (i + 1 + j - (i + 1))) := by
      unfold stepF
      rw [if_neg (by omega), if_pos (by omega)]
    have e2 : stepF f i j (i + 1 + j) = f (i + 1 + j) := by
      unfold stepF
      rw [if_neg (by omega), if_neg (by omega)]
    rw [if_pos rfl, e1, e2, show i + 1 + j - (i + 1) = j by omega, h]
    simp
  · rw [if_neg e2]
    unfold stepF
    by_cases e : t = i
    · rw [if_pos e, if_pos e]
    · rw [if_neg e, if_neg e]
      by_cases e3 : i + 1 ≤ t ∧ t < i + 1 + j
      · rw [if_pos (by omega), if_pos e3]
      · rw [if_neg (by omega), if_neg e3]
theorem half (X m : Nat) : X / 2 ^ m = 2 * (X / 2 ^ (m + 1)) + (if X.testBit m then 1 else 0) := by
  rw [Nat.testBit_eq_decide_div_mod_eq, Nat.pow_succ, ← Nat.div_div_eq_div_mul]
  by_cases h : X / 2 ^ m % 2 = 1
  · simp [h]; omega
  · simp [h]; omega
end Go.Proofs.YtffgbjojngnebaaDoor
namespace Go.Proofs.YtffgbjojngnebaaDoor
open Go.RowKit

/-- N cells of one's own that hold bits -/
def RowB (w : World) (g N : Nat) (f : Nat → Bool) : Prop := g < w.heap.size ∧ (∀ t, t < N → w.cell? ⟨g, t, none⟩ = some (.bool (f t))) ∧ ∀ t, w.frozen? ⟨g, t, none⟩ = false
theorem RowB.congr {w : World} {g N : Nat} {f f' : Nat → Bool} (h : RowB w g N f) (e : ∀ t, t < N → f t = f' t) : RowB w g N f' :=
  ⟨h.1, fun t ht => by rw [← e t ht]; exact h.2.1 t ht, h.2.2⟩
theorem RowB.set {w : World} {g N : Nat} {f : Nat → Bool} (h : RowB w g N f) (k : Nat) (b : Bool) (hk : k < N) : RowB (w.setCell ⟨g, k, none⟩ (.bool b)) g N (fun t => if t = k then b else f t) := by
  refine ⟨by simpa [World.setCell] using h.1, fun t ht => ?_, fun t => ?_⟩
  · by_cases e : t = k
    · subst e
      simp only [if_true]
      exact World.cell?_setCell_same _ _ _ (h.2.1 t ht)
    · simp only [if_neg e]
      rw [← h.2.1 t ht]
      exact World.cell?_setCell_other _ _ _ _ (fun e' => by cases e'; exact e rfl)
  · rw [← h.2.2 t]
    simp
theorem info4 : Option.map (fun i => (i.zero, i.size, i.bytes)) (Tryd.prog.info? 4) = some (some (Value.bool false), 1, 1) := by kernel_rfl

set_option maxRecDepth 100000 in
set_option maxHeartbeats 4000000 in
theorem refCrc_any (v : Value) (l : List UInt8) (w : World) (hrd : Rd w v l) (hl : l.length ≤ 1000000) :
    Calls Tryd.prog 86 #[v] w fun e w' => e = .returned (.int .u32 (crc l).toNat) ∧ Below w.heap.size w w' := by
  obtain ⟨i0, hi, hz0, hz1, hz2⟩ := info_parts info4
  obtain ⟨ao, cap, hv, -⟩ := id hrd
  subst hv
  have HRD : Hid _ := hrd
  clear hrd
  obtain ⟨n, HN⟩ := named l.length
  rw [← HN.out] at hl ⊢
  have hcall : ∀ (k : Nat) (w' : World), k < 8 * n + 32 → Below w.heap.size w w' → Calls Tryd.prog 98 #[.slice ao n cap, .int .i64 k] w' fun e w2 => e = .returned (.bool (dbit l k != decide (k < 32))) ∧ w' = w2 := by
    intro k w' hk hb
    have := refBit_any _ l k w' (Rd.below (show Rd w _ l from HRD.out) hb) (by rw [← HN.out]; exact hl) (by omega)
    rw [← HN.out] at this
    exact this
  have HCALL : Hid _ := hcall
  clear hcall
  have hNI : 8 * (n : Int) + 32 = ((8 * n + 32 : Nat) : Int) := by omega
  obtain ⟨N, HNN⟩ := named (8 * n + 32)
  rw [← HNN.out] at hNI
  have HNI : Hid _ := hNI
  clear hNI
  have hX := (crc l).isLt
  obtain ⟨X, HX⟩ := named (crc l).toNat
  rw [← HX.out] at hX ⊢
  have HXL : Hid _ := hX
  clear hX
  go_enter Tryd.func86, Tryd.ntmps86
  go_wp2_with (at_make; go_must (refine wpList_make_full _ rfl (.tmp 12) (.tmp 12) 126 rfl w.heap.size 4 i0 (.bool false) 1 Tryd.underlying126 hi hz0 hz1 .i64 .i64 _ _ N rfl rfl ?_ ?_ ?_ ?_ ?_ ?_))
  · exact HNI.out
  · exact HNI.out
  · rw [hz2, HNN.out]; omega
  · rw [HNN.out]; unfold maxLen; omega
  · exact Nat.le_refl _
  · intro w1 hown1 hg1
    have hb1 : Below w.heap.size w w1 := (Below.refl _ _).grown hg1 (Nat.le_refl _) (fun k hk => by cases hk)
    obtain ⟨g, HG⟩ := named w.heap.size
    have hrow1 : RowB w1 g N (fun _ => false) := by
      rw [HG.out]
      refine ⟨(World.ownsRow.lt hown1 _ rfl).2, fun t ht => ?_, fun t => World.ownsRow.frozenAt hown1 t⟩
      rw [World.ownsRow.cellAt hown1 t (by omega)]
      rw [toList_madeCells_one]
      simp [ht]
    have HB1 : Hid _ := hb1
    have HROW1 : Hid _ := hrow1
    clear hown1 hg1 hb1 hrow1
    rw [← HG.out]
    rw [← HG.out] at HB1 HCALL
    have hN0 : 8 * n + 32 ≤ N := by rw [HNN.out]; omega
    have hN1 : N ≤ 8 * n + 32 := by rw [HNN.out]; omega
    go_wp2
    go_loopw [4] (fun iv wr => ∃ k : Nat, k ≤ N ∧ iv = .int .i64 k ∧ Hid (RowB wr g N (fun t => if t < k then stF l 0 t else false)) ∧ Hid (Below g w wr)) (fun iv _ => N - (intOf iv).toNat)
    case atStart => exact ⟨0, by omega, rfl, RowB.congr HROW1.out (fun t _ => by simp), HB1.out⟩
    case round =>
      obtain ⟨k, hk, rfl, HROW, HB⟩ := hrel
      by_cases hlt : k < N
      · have hltI : (k : Int) < N := by omega
        have hck := (show RowB _ _ _ _ from HROW.out).2.1 k hlt
        have hfr := (show RowB _ _ _ _ from HROW.out).2.2 k
        go_wp2_with fail
        refine (HCALL.out k _ (by omega) HB.out).mono ?_
        rintro e w2 ⟨rfl, hw2⟩
        subst hw2
        rw [← stF_start]
        obtain ⟨c, HC⟩ := named (stF l 0 k)
        rw [← HC.out]
        go_wp2
        go_roundw
        case rel =>
          refine ⟨k + 1, by omega, by go_num, ?_, ?_⟩
          · refine RowB.congr (RowB.set HROW.out k c hlt) (fun t _ => ?_)
            by_cases e : t = k
            · subst e
              simp only [if_true]
              rw [if_pos (by omega), HC.out]
            · simp only [if_neg e]
              by_cases h : t < k
              · rw [if_pos h, if_pos (by omega)]
              · rw [if_neg h, if_neg (by omega)]
          · exact (show Below g w _ from HB.out).setCell (Nat.le_refl _) _
        case measure => simp [intOf]; omega
      · obtain rfl : k = N := by omega
        have hrow2 : RowB wr g k (stF l 0) := RowB.congr HROW.out (fun t ht => by rw [if_pos ht])
        have HROW2 : Hid _ := hrow2
        clear hrow2 hlt hk HROW HROW1 HB1
        go_wp2
        go_loopw [5, 6] (fun iv _ wr => ∃ i : Nat, i ≤ 8 * n ∧ iv = .int .i64 i ∧ Hid (RowB wr g k (stF l i)) ∧ Hid (Below g w wr)) (fun iv _ _ => 8 * n - (intOf iv).toNat)
        case atStart => exact ⟨0, by omega, rfl, HROW2.out, HB.out⟩
        case round =>
          clear HROW2 HB
          obtain ⟨i, hi8, rfl, HROW, HB⟩ := hrel
          by_cases hlt : i < 8 * n
          · have hltI : (i : Int) < 8 * (n : Int) := by omega
            have hik : (i : Int) < (k : Int) := by omega
            have hikN : i < k := by omega
            have hck := (show RowB _ _ _ _ from HROW.out).2.1 i hikN
            have hfr := (show RowB _ _ _ _ from HROW.out).2.2 i
            have hnx := fun t => stF_next l i t
            obtain ⟨c, HC⟩ := named (stF l i i)
            rw [← HC.out] at hck
            simp only [← HC.out] at hnx
            have HNX : Hid _ := hnx
            clear hnx
            cases hc : c with
            | false =>
              rw [hc] at hck HNX
              clear hc HC
              go_wp2
              go_roundw
              case rel => exact ⟨i + 1, by omega, by go_num, RowB.congr HROW.out (fun t _ => by rw [HNX.out]; simp), HB.out⟩
              case measure => simp [intOf]; omega
            | true =>
              rw [hc] at hck HNX
              clear hc HC
              go_wp2
              go_loopw [6] (fun jv wr => ∃ j : Nat, j ≤ 32 ∧ jv = .int .i64 j ∧ Hid (RowB wr g k (stepF (stF l i) i j)) ∧ Hid (Below g w wr)) (fun jv _ => 32 - (intOf jv).toNat)
              case atStart =>
                refine ⟨0, by omega, rfl, ?_, (show Below g w _ from HB.out).setCell (Nat.le_refl _) _⟩
                refine RowB.congr (RowB.set HROW.out i false hikN) (fun t _ => ?_)
                unfold stepF
                by_cases e : t = i
                · rw [if_pos e, if_pos e]
                · rw [if_neg e, if_neg e, if_neg (by omega)]
              case round =>
                clear HROW HB hck hfr
                obtain ⟨j, hj, rfl, HROW, HB⟩ := hrel
                by_cases hj32 : j < 32
                · have hjI : (j : Int) < 32 := by omega
                  have hpb := poly_bitI j hj32
                  have hck := (show RowB _ _ _ _ from HROW.out).2.1 (i + 1 + j) (by omega)
                  have hfr := (show RowB _ _ _ _ from HROW.out).2.2 (i + 1 + j)
                  have hikj : (i : Int) + 1 + j < (k : Int) := by omega
                  have hikjN : i + 1 + j < k := by omega
                  have HPB : Hid _ := hpb
                  clear hpb
                  go_wp2
                  · rename_i hsp
                    rw [HPB.out] at hsp
                    refine ⟨⟨j + 1, by omega, by go_num, RowB.congr (RowB.set HROW.out (i + 1 + j) _ hikjN) (fun t _ => (stepF_turn _ i j t hsp).symm), (show Below g w _ from HB.out).setCell (Nat.le_refl _) _⟩, ?_⟩
                    simp [intOf]; omega
                  · rename_i hsp
                    rw [HPB.out] at hsp
                    refine ⟨⟨j + 1, by omega, by go_num, RowB.congr HROW.out (fun t _ => (stepF_skip _ i j t hsp).symm), HB.out⟩, ?_⟩
                    simp [intOf]; omega
                · obtain rfl : j = 32 := by omega
                  go_wp2
                  go_roundw
                  case rel => exact ⟨i + 1, by omega, by go_num, RowB.congr HROW.out (fun t _ => by rw [HNX.out]; simp), HB.out⟩
                  case measure => simp [intOf]; omega
          · obtain rfl : i = 8 * n := by omega
            have hltI : ¬ ((8 * n : Nat) : Int) < 8 * (n : Int) := by omega
            have HEND : Hid (∀ m, m < 32 → (!stF l (8 * n) (8 * n + m)) = (crc l).toNat.testBit m) := by
              intro m hm
              have := stF_end l m hm
              rw [← HN.out] at this
              exact this
            rw [← HX.out] at HEND
            go_wp2
            go_loop [7, 8] (fun nv kv => ∃ m : Nat, m ≤ 32 ∧ kv = .int .i64 ((m : Int) - 1) ∧ nv = .int .u32 ((X / 2 ^ m : Nat) : Int)) (fun _ kv => (intOf kv + 1).toNat)
            case atStart =>
              refine ⟨32, by omega, by simp, ?_⟩
              rw [Nat.div_eq_of_lt HXL.out]
              rfl
            case round =>
              obtain ⟨m, hm, rfl, rfl⟩ := hrel
              cases m with
              | zero =>
                go_wp2
                go_ret
                exact ⟨by simp, by rw [← HG.out]; exact HB.out⟩
              | succ m =>
                have hmm : ((m + 1 : Nat) : Int) - 1 = (m : Int) := by omega
                rw [hmm]
                clear hmm
                have hck := (show RowB _ _ _ _ from HROW.out).2.1 (8 * n + m) (by omega)
                have hend := HEND.out m (by omega)
                have hhalf := half X m
                have hb31 : X / 2 ^ (m + 1) ≤ 2147483647 := by
                  have hX : X < 2 ^ 32 := HXL.out
                  have h1 : 2 ^ 1 ≤ 2 ^ (m + 1) := Nat.pow_le_pow_right (by omega) (by omega)
                  have h2 := Nat.div_le_div_left h1 (by omega : 0 < 2 ^ 1) (a := X)
                  omega
                have hkm : 8 * (n : Int) + m < (k : Int) := by omega
                have hkmN : 8 * n + m < k := by omega
                obtain ⟨bb, HBB⟩ := named (stF l (8 * n) (8 * n + m))
                rw [← HBB.out] at hck hend
                rw [← hend] at hhalf
                obtain ⟨y, HY⟩ := named (X / 2 ^ (m + 1))
                rw [← HY.out] at hb31 hhalf ⊢
                clear hend
                cases hbb : bb with
                | true =>
                  rw [hbb] at hck hhalf
                  have HH : Hid _ := hhalf
                  clear hhalf hbb HBB
                  go_wp2
                  go_round
                  case rel => exact ⟨m, by omega, by go_num, by rw [HH.out]; go_num⟩
                  case measure => simp [intOf]
                | false =>
                  rw [hbb] at hck hhalf
                  have HH : Hid _ := hhalf
                  clear hhalf hbb HBB
                  go_wp2
                  go_round
                  case rel => exact ⟨m, by omega, by go_num, by rw [HH.out]; go_num⟩
                  case measure => simp [intOf]
end Go.Proofs.YtffgbjojngnebaaDoor
namespace Go.Proofs.YtffgbjojngnebaaDoor
open Go.RowKit

set_option maxRecDepth 100000 in
set_option maxHeartbeats 800000 in
theorem refFrame_any (v : Value) (l : List UInt8) (w : World) (hrd : Rd w v l) (hl : l.length ≤ 1000000) :
    Calls Tryd.prog 57 #[v] w fun e w' => ∃ v, e = .returned v ∧ Own w' w.heap.size v (frameL l) ∧ Below w.heap.size w w' := by
  obtain ⟨i0, hi, hz0, hz1, hz2⟩ := info_parts Tryd.info5
  have hul := U_len l.length
  have HF : Hid (frameL l = U l.length ++ ((l ++ be4 (crc l)) ++ [165])) := rfl
  have hbe := be4_cells (crc l)
  have hbl : (be4 (crc l)).length = 4 := rfl
  obtain ⟨F, HFN⟩ := named (frameL l)
  rw [← HFN.out] at HF ⊢
  have hvar := fun w => varint_any l.length w (by omega)
  obtain ⟨u, HU⟩ := named (U (l.length : Int))
  rw [← HU.out] at hul HF hvar
  have hcrc := fun w h => refCrc_any v l w h hl
  obtain ⟨R, HR⟩ := named (crc l)
  rw [← HR.out] at HF hbe hbl hcrc
  have HB : Hid (u.length ≤ 10 ∧ l.length ≤ 1000000) := ⟨hul, hl⟩
  have HBE : Hid _ := hbe
  have HBL : Hid _ := hbl
  have hRlt := R.isLt
  obtain ⟨ao, cap, hv, -⟩ := id hrd
  subst hv
  clear hul hbe hbl
  go_enter Tryd.func57, Tryd.ntmps57
  go_wp2_with fail
  refine (hvar _).mono ?_
  rintro e w1 ⟨v1, rfl, hown1, hb1⟩
  clear hvar
  have hrd1 := hrd.below hb1
  have hsz1 := hb1.size
  have hln : u.length + l.length ≤ 140737488355328 := by have := HB.out; omega
  have HLN : Hid _ := hln
  clear hln
  go_wp2_with (at_builtin; go_must (refine wpList_append_rd _ rfl (.tmp 9) (.tmp 10) 22 rfl i0 Tryd.underlying22 hi hz0 hz1 hz2 w.heap.size _ _ rfl rfl u l hown1 hrd1 HLN.out hsz1 ?_))
  intro v2 w2 hown2 hg2
  have hb2 : Below w.heap.size w w2 := hb1.grown hg2 hsz1 (fun k hk => (World.ownsRow.lt hown1 k hk).1)
  have hrd2 := hrd.below hb2
  clear hg2 hrd1 hrd
  obtain ⟨ul, HUL⟩ := named (u ++ l)
  rw [← HUL.out] at hown2
  go_wp2_with fail
  refine (hcrc _ hrd2).mono ?_
  rintro e w3 ⟨rfl, hb3⟩
  have hown3 := hown2.below hb3
  have hB3 := below_call hb2 hb3
  have hsz3 := hB3.size
  have hrdF : Rd (w3.alloc (.cells #[.int .u8 ((R.toNat : Int) / 16777216), .int .u8 ((R.toNat : Int) / 65536 % 256), .int .u8 ((R.toNat : Int) / 256 % 256), .int .u8 ((R.toNat : Int) % 256), .int .u8 165] 5)) (.slice (some ⟨w3.heap.size, 0, none⟩) 5 5) (be4 R ++ [165]) := by
    refine Rd.lit w3 _ (be4 R ++ [165]) 5 5 (0, 0) ?_ rfl (by simp [maxLen])
    rw [BV_append, ← Array.toList_inj]
    have := HBE.out
    rw [← Array.toList_inj] at this
    simp only at this ⊢
    rw [← this]
    rfl
  have hln : ul.length + (be4 R ++ [165]).length ≤ 140737488355328 := by
    have := HB.out
    rw [HUL.out, List.length_append, List.length_append, HBL.out, List.length_singleton]
    omega
  obtain ⟨tl, HTL⟩ := named (be4 R ++ [165])
  rw [← HTL.out] at hrdF hln
  have HLN2 : Hid _ := hln
  have hown4 := hown3.alloc (.cells #[.int .u8 ((R.toNat : Int) / 16777216), .int .u8 ((R.toNat : Int) / 65536 % 256), .int .u8 ((R.toNat : Int) / 256 % 256), .int .u8 ((R.toNat : Int) % 256), .int .u8 165] 5)
  have hfin : ul ++ tl = F := by
    rw [HUL.out, HTL.out, HF.out]
    simp
  have HFIN : Hid _ := hfin
  clear hln hfin hown2 hown3 hb2 hb3
  go_wp2_with (at_builtin; go_must (refine wpList_append_rd _ rfl (.tmp 14) (.tmp 26) 22 rfl i0 Tryd.underlying22 hi hz0 hz1 hz2 w.heap.size _ _ rfl rfl ul tl hown4 hrdF HLN2.out (by simp; omega) ?_))
  intro v5 w5 hown5 hg5
  have hB5 : Below w.heap.size w w5 := (hB3.alloc hsz3 _).grown hg5 (by simp; omega) (fun k hk => (World.ownsRow.lt hown4 k hk).1)
  clear hg5
  go_wp2
  go_ret
  exact ⟨_, rfl, by rw [← HFIN.out]; exact hown5, hB5⟩

end Go.Proofs.YtffgbjojngnebaaDoor
