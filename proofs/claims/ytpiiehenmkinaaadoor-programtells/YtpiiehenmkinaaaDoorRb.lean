/-
  The contract of the document's Varint. Own work.
-/
import Derived.Test.YtpiiehenmkinaaaDoorRa
import Derived.Test.YtpiiehenmkinaaaDoorMathv
import Derived.Test.YtpiiehenmkinaaaDoorKeep
namespace Go.Proofs.YtpiiehenmkinaaaDoor
open Go.RowKit

/-- 70 cells of one's own that hold bits -/
def Bits (w : World) (B : Nat) (f : Nat → Bool) : Prop := B < w.heap.size ∧ (∀ t, t < 70 → w.cell? ⟨B, t, none⟩ = some (.bool (f t))) ∧ ∀ t, w.frozen? ⟨B, t, none⟩ = false

def zeros70 : Array Value := Array.replicate 70 (.bool false)
theorem zero109 (w : World) : (zeroValue 109).run Tryd.prog w = .ok (.agg zeros70) w := by kernel_rfl
theorem Bits.new (w : World) : Bits (w.alloc (.cells zeros70 109)) w.heap.size (fun _ => false) := by
  refine ⟨by simp, fun t ht => ?_, fun t => ?_⟩
  · rw [cell_of_row _ w.heap.size t zeros70 109 (0, 0) (heap_alloc_new w _)]
    simp [zeros70, ht]
  · unfold World.frozen?
    rw [show (w.alloc (.cells zeros70 109)).heap[(⟨w.heap.size, t, none⟩ : Addr).block]? = some (.cells zeros70 109 (0, 0)) from heap_alloc_new w _]
    simp
theorem Bits.below {w w' : World} {B : Nat} {f : Nat → Bool} (h : Bits w B f) (hb : Below w.heap.size w w') : Bits w' B f :=
  ⟨Nat.lt_of_lt_of_le h.1 hb.size, fun t ht => (hb.cell (p := ⟨B, t, none⟩) h.1).trans (h.2.1 t ht), fun t => (hb.frozen (p := ⟨B, t, none⟩) h.1).trans (h.2.2 t)⟩
theorem Bits.congr {w : World} {B : Nat} {f g : Nat → Bool} (h : Bits w B f) (e : ∀ t, t < 70 → f t = g t) : Bits w B g :=
  ⟨h.1, fun t ht => by rw [← e t ht]; exact h.2.1 t ht, h.2.2⟩

theorem Bits.set {w : World} {B : Nat} {f : Nat → Bool} (h : Bits w B f) (k : Nat) (b : Bool) (hk : k < 70) : Bits (w.setCell ⟨B, k, none⟩ (.bool b)) B (fun t => if t = k then b else f t) := by
  refine ⟨by simpa [World.setCell] using h.1, fun t ht => ?_, fun t => ?_⟩
  · by_cases e : t = k
    · subst e
      simp only [if_true]
      exact World.cell?_setCell_same _ _ _ (h.2.1 t ht)
    · simp only [if_neg e]
      rw [← h.2.1 t ht]
      exact World.cell?_setCell_other _ _ _ _ (fun e' => by cases e'; first | exact e rfl | exact hg rfl)
  · rw [← h.2.2 t]
    simp

theorem Bits.other {w : World} {B g j : Nat} {f : Nat → Bool} (h : Bits w B f) (hg : g ≠ B) (u : Value) : Bits (w.setCell ⟨g, j, none⟩ u) B f := by
  refine ⟨by simpa [World.setCell] using h.1, fun t ht => ?_, fun t => ?_⟩
  · rw [← h.2.1 t ht]
    exact World.cell?_setCell_other _ _ _ _ (fun e' => by cases e'; first | exact e rfl | exact hg rfl)
  · rw [← h.2.2 t]
    simp

theorem cellN {w : World} {base g cap s : Nat} {l : List UInt8} (h : Own w base (.slice (some ⟨g, 0, none⟩) s cap) l) (hs : l.length = s) (j : Nat) (hj : j < l.length) : w.cell? ⟨g, j, none⟩ = some (.int .u8 (l[j].toNat : Int)) := by
  subst hs
  exact h.cell j hj
theorem frozenN {w : World} {base g cap s : Nat} {l : List UInt8} (h : Own w base (.slice (some ⟨g, 0, none⟩) s cap) l) (hs : l.length = s) (j : Nat) : w.frozen? ⟨g, j, none⟩ = false := by
  subst hs
  exact h.frozen j
theorem storeN {w : World} {base g cap s : Nat} {l : List UInt8} (h : Own w base (.slice (some ⟨g, 0, none⟩) s cap) l) (hs : l.length = s) (j : Nat) (y : UInt8) (n : Int) (hn : n = y.toNat) :
    Own (w.setCell ⟨g, j, none⟩ (.int .u8 n)) base (.slice (some ⟨g, 0, none⟩) s cap) (l.set j y) ∧ Below base w (w.setCell ⟨g, j, none⟩ (.int .u8 n)) := by
  subst hs
  exact ⟨h.store j y n hn, h.storeBelow j _⟩
theorem made_parts (n s : Nat) : (madeCells #[.int .u8 0] s).toList = BV (parts n s 0) := by
  have e : parts n s 0 = List.replicate s 0 := by
    unfold parts
    apply List.ext_getElem
    · simp
    · intro i h1 h2
      simp [part, Nat.mod_one]
  rw [e, toList_madeCells_one]
  simp [BV]

set_option maxRecDepth 100000 in
set_option maxHeartbeats 2000000 in
theorem varint_any (n : Nat) (w : World) (hn : n ≤ 18446744073709551615) :
    Calls Tryd.prog 52 #[.int .u64 n] w fun e w' => ∃ v, e = .returned v ∧ Own w' w.heap.size v (U n) ∧ Below w.heap.size w w' := by
  obtain ⟨i0, hi, hz0, hz1, hz2⟩ := info_parts Tryd.info5
  have HN : Hid _ := hn
  have HUF : Hid _ := U_form n hn
  have hzr := zero109
  clear hn
  go_enter Tryd.func52, Tryd.ntmps52
  go_wp2_with fail
  clear hzr
  go_loopw [0, 4, 5] (fun nv hv iv wr => ∃ k : Nat, k ≤ 64 ∧ iv = .int .i64 k ∧ nv = .int .u64 ((n / 2 ^ k : Nat) : Int) ∧ hv = .int .i64 (hiBit n k) ∧ Bits wr w.heap.size (fun t => decide (t < k) && n.testBit t) ∧ Below w.heap.size w wr) (fun _ _ iv _ => 64 - (intOf iv).toNat)
  case atStart =>
    refine ⟨0, by omega, rfl, by simp, rfl, ?_, (Below.refl _ _).alloc (Nat.le_refl _) _⟩
    exact (Bits.new w).congr (fun t _ => by simp)
  case round =>
    obtain ⟨k, hk, rfl, rfl, rfl, hbits, hb⟩ := hrel
    by_cases hlt : k < 64
    · have hlt' : (k : Int) < 64 := by omega
      have hfr := hbits.2.2 k
      have hck := hbits.2.1 k (by omega)
      have htb : (((n / 2 ^ k : Nat) : Int) % 2 == 1) = n.testBit k := by
        rw [Nat.testBit_eq_decide_div_mod_eq, Bool.eq_iff_iff]
        simp only [beq_iff_eq, decide_eq_true_eq]
        omega
      have hdiv : (n / 2 ^ (k + 1) : Nat) = n / 2 ^ k / 2 := by rw [Nat.pow_succ, Nat.div_div_eq_div_mul]
      have HD : Hid _ := hdiv
      have hhi : hiBit n (k + 1) = if n.testBit k then k else hiBit n k := rfl
      have HH : Hid _ := hhi
      obtain ⟨m, HM⟩ := named (n / 2 ^ k)
      rw [← HM.out] at htb HD ⊢
      obtain ⟨hh, HHB⟩ := named (hiBit n k)
      rw [← HHB.out] at HH ⊢
      obtain ⟨bt, HBT⟩ := named (n.testBit k)
      rw [← HBT.out] at htb HH
      have HBITS : Hid _ := hbits
      have hm64 : m ≤ 18446744073709551615 := by
        have h1 := Nat.div_le_self n (2 ^ k)
        have h2 := HN.out
        rw [HM.out]
        omega
      have HM64 : Hid _ := hm64
      have HW : Hid (IntKind.u64.wrap ((m : Int) / 2) = ((m / 2 : Nat) : Int)) := by
        show IntKind.u64.wrap ((m : Int) / 2) = ((m / 2 : Nat) : Int)
        rw [wrap_u64]
        omega
      clear hdiv hhi hbits hm64
      cases hbt : bt with
      | true =>
        rw [hbt] at htb HH
        have HBT2 : Hid _ := hbt
        clear hbt
        go_wp2
        go_roundw
        case rel =>
          refine ⟨k + 1, by omega, by go_num, by rw [HW.out, HD.out], by rw [HH.out, if_pos rfl], ?_, hb.setCell (Nat.le_refl _) _⟩
          refine Bits.congr (Bits.set HBITS.out k true (by omega)) (fun t _ => ?_)
          by_cases e : t = k
          · subst e; simp only [if_true]; rw [← HBT.out, HBT2.out]; simp
          · simp only [if_neg e]
            have : decide (t < k + 1) = decide (t < k) := by rw [Bool.eq_iff_iff]; simp; omega
            rw [this]
        case measure => simp [intOf]; omega
      | false =>
        rw [hbt] at htb HH
        have HBT2 : Hid _ := hbt
        clear hbt
        go_wp2
        go_roundw
        case rel =>
          refine ⟨k + 1, by omega, by go_num, by rw [HW.out, HD.out], by rw [HH.out, if_neg (by simp), HHB.out], ?_, hb.setCell (Nat.le_refl _) _⟩
          refine Bits.congr (Bits.set HBITS.out k false (by omega)) (fun t _ => ?_)
          by_cases e : t = k
          · subst e; simp only [if_true]; rw [← HBT.out, HBT2.out]; simp
          · simp only [if_neg e]
            have : decide (t < k + 1) = decide (t < k) := by rw [Bool.eq_iff_iff]; simp; omega
            rw [this]
        case measure => simp [intOf]; omega
    · obtain rfl : k = 64 := by omega
      have hlt' : ¬ ((64 : Nat) : Int) < 64 := by omega
      have hbits2 : Bits wr w.heap.size (fun t => n.testBit t) := hbits.congr (fun t ht => by
        by_cases h : t < 64
        · simp [h]
        · have hlt : n < 2 ^ t := Nat.lt_of_lt_of_le (show n < 2 ^ 64 by have := HN.out; omega) (Nat.pow_le_pow_right (by omega) (by omega))
          rw [Nat.testBit_lt_two_pow hlt]
          simp)
      have hh64 := hiBit_lt n 64 (by omega)
      obtain ⟨hh, HHB⟩ := named (hiBit n 64)
      rw [← HHB.out] at hh64 HUF ⊢
      have HBITS : Hid _ := hbits2
      clear hbits hbits2 hk hlt
      have hsz := hb.size
      have hhI : (hh : Int) / 7 + 1 = ((hh / 7 + 1 : Nat) : Int) := by omega
      obtain ⟨s, HS⟩ := named (hh / 7 + 1)
      have hs1 : 1 ≤ s := by rw [HS.out]; omega
      have hs10 : s ≤ 10 := by rw [HS.out]; omega
      rw [← HS.out] at hhI HUF
      go_wp2_with (at_make; go_must (refine wpList_make_full _ rfl (.tmp 28) (.tmp 28) 25 rfl w.heap.size 5 i0 (.int .u8 0) 1 Tryd.underlying25 hi hz0 hz1 .i64 .i64 _ _ s rfl rfl ?_ ?_ ?_ ?_ ?_ ?_))
      · omega
      · omega
      · omega
      · unfold maxLen; omega
      · intro w1 hown1 hg1
        have hg1b : Below wr.heap.size wr w1 := (Below.refl _ _).grown hg1 (Nat.le_refl _) (fun k hk => by cases hk)
        have hb1 : Below w.heap.size w w1 := below_call hb hg1b
        have hbits1 : Bits w1 w.heap.size (fun t => n.testBit t) := Bits.below HBITS.out hg1b
        have hown2 : Own w1 w.heap.size (.slice (some ⟨wr.heap.size, 0, none⟩) s s) (parts n s 0) := by
          unfold Own
          rw [parts_length]
          have e : (madeCells #[.int .u8 0] s).toList = BV (parts n s 0) := made_parts n s
          rw [← e]
          exact hown1
        have hgne : w.heap.size < wr.heap.size := HBITS.out.1
        obtain ⟨g, HG⟩ := named wr.heap.size
        rw [← HG.out] at hown2 hgne
        rw [← HG.out]
        clear hown1 hg1 hg1b HBITS hb hsz
        go_wp2
        go_loopw [8] (fun iv wr2 => ∃ k : Nat, k ≤ 7 * s ∧ iv = .int .i64 k ∧ Bits wr2 w.heap.size (fun t => n.testBit t) ∧ Own wr2 w.heap.size (.slice (some ⟨g, 0, none⟩) s s) (parts n s k) ∧ Below w.heap.size w wr2) (fun iv _ => 70 - (intOf iv).toNat)
        case atStart => exact ⟨0, by omega, rfl, hbits1, hown2, hb1⟩
        case round =>
          rename_i wr0 wr2
          obtain ⟨k, hk, rfl, hbits, hown, hb⟩ := hrel
          by_cases hlt : k < 7 * s
          · have hlt' : (k : Int) < 7 * (s : Int) := by omega
            have hck := hbits.2.1 k (by omega)
            simp only [] at hck
            obtain ⟨bt, HBT⟩ := named (n.testBit k)
            rw [← HBT.out] at hck
            have HBITS : Hid _ := hbits
            have HOWN : Hid _ := hown
            clear hbits hown
            cases hbt : bt with
            | true =>
              rw [hbt] at hck
              have HBT2 : Hid _ := hbt
              clear hbt
              have hjs : k / 7 < s := by omega
              have hjsI : ((k / 7 : Nat) : Int) < (s : Int) := by omega
              have hjI : (k : Int) / 7 = ((k / 7 : Nat) : Int) := by omega
              have hrI : (k : Int) % 7 = ((k % 7 : Nat) : Int) := by omega
              have hcell := cellN (show Own _ _ _ _ from HOWN.out) (parts_length n s k) (k / 7) (by rw [parts_length]; omega)
              have hfz := frozenN (show Own _ _ _ _ from HOWN.out) (parts_length n s k) (k / 7)
              have hpl := part_lt n (k / 7) k
              rw [parts_get, UInt8.toNat_ofNat_of_lt' (by show _ < 256; omega)] at hcell
              obtain ⟨x, HX⟩ := named (part n (k / 7) k)
              rw [← HX.out] at hcell hpl
              obtain ⟨j, HJ⟩ := named (k / 7)
              rw [← HJ.out] at hcell hfz hjs hjsI hjI
              obtain ⟨r, HR⟩ := named (k % 7)
              rw [← HR.out] at hrI
              have hr7 : r < 7 := by rw [HR.out]; omega
              go_wp2
              go_region
              go_wp2
              go_roundw
              case rel =>
                have hr2 : 2 ^ r ≤ 2 ^ 6 := Nat.pow_le_pow_right (by omega) (by omega)
                have hst := storeN (show Own _ _ _ _ from HOWN.out) (parts_length n s k) j (UInt8.ofNat (part n (k / 7) k + (if n.testBit k then 2 ^ (k % 7) else 0))) (((x : Int) + 2 ^ r) % 256) (by
                  rw [← HBT.out, HBT2.out, if_pos rfl, ← HX.out, ← HR.out, UInt8.toNat_ofNat_of_lt' (by show _ < 256; omega)]
                  have e2 : (2 : Int) ^ r = ((2 ^ r : Nat) : Int) := by simp
                  rw [e2]
                  obtain ⟨z, hz⟩ : ∃ z, z = 2 ^ r := ⟨_, rfl⟩
                  rw [← hz] at hr2 ⊢
                  omega)
                refine ⟨k + 1, by omega, by go_num, ?_, ?_, ?_⟩
                · exact Bits.other HBITS.out (Nat.ne_of_gt hgne) _
                · rw [parts_succ, ← HJ.out]
                  have h1 := hst.1
                  rw [HJ.out] at h1 ⊢
                  exact h1
                · exact (hb.setCell (Nat.le_of_lt hgne) _).drew
              case measure => simp [intOf]; omega
            | false =>
              rw [hbt] at hck
              have HBT2 : Hid _ := hbt
              clear hbt
              go_wp2
              go_roundw
              case rel =>
                refine ⟨k + 1, by omega, by go_num, HBITS.out, ?_, hb⟩
                rw [parts_skip n s k (by rw [← HBT.out]; exact HBT2.out)]
                exact HOWN.out
              case measure => simp [intOf]; omega
          · obtain rfl : k = 7 * s := by omega
            have hlt' : ¬ ((7 * s : Nat) : Int) < 7 * (s : Int) := by omega
            rw [more_start] at hown
            clear hbits hlt hk hbits1 hown2 hb1
            go_wp2
            go_loopw [9] (fun iv wr2 => ∃ k : Nat, k + 1 ≤ s ∧ iv = .int .i64 k ∧ Own wr2 w.heap.size (.slice (some ⟨g, 0, none⟩) s s) (more n s k) ∧ Below w.heap.size w wr2) (fun iv _ => 70 - (intOf iv).toNat)
            case atStart => exact ⟨0, by omega, rfl, hown, hb⟩
            case round =>
              clear hown hb
              obtain ⟨k, hk, rfl, hown, hb⟩ := hrel
              by_cases hlt : k + 1 < s
              · have hltI : (k : Int) + 1 < (s : Int) := by omega
                have hltJ : (k : Int) < (s : Int) := by omega
                have hltN : k < s := by omega
                have hcell := cellN hown (more_length n s k) k (by rw [more_length]; omega)
                have hfz := frozenN hown (more_length n s k) k
                have hpl : n / 128 ^ k % 128 < 128 := Nat.mod_lt _ (by omega)
                rw [more_get, if_neg (by omega), UInt8.toNat_ofNat_of_lt' (by show _ < 256; omega)] at hcell
                obtain ⟨x, HX⟩ := named (n / 128 ^ k % 128)
                rw [← HX.out] at hcell hpl
                have HOWN : Hid _ := hown
                clear hown
                go_wp2
                go_roundw
                case rel =>
                  have hst := storeN (show Own _ _ _ _ from HOWN.out) (more_length n s k) k (UInt8.ofNat (n / 128 ^ k % 128 + 128)) ((x : Int) + 128) (by
                    rw [← HX.out, UInt8.toNat_ofNat_of_lt' (by show _ < 256; omega)]
                    omega)
                  refine ⟨k + 1, by omega, by go_num, ?_, ?_⟩
                  · rw [more_succ]
                    exact hst.1
                  · exact hb.setCell (Nat.le_of_lt hgne) _
                case measure => simp [intOf]; omega
              · obtain rfl : s = k + 1 := by omega
                have hltI : ¬ (k : Int) + 1 < ((k + 1 : Nat) : Int) := by omega
                go_wp2
                go_ret
                refine ⟨_, rfl, ?_, hb⟩
                rw [HUF.out, ← more_end n (k + 1) (by omega)]
                exact hown
end Go.Proofs.YtpiiehenmkinaaaDoor
