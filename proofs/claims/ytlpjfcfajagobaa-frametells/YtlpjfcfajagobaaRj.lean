/-
  The contract of the document's Crc. Own work.
-/
import Derived.Test.YtlpjfcfajagobaaMathw
namespace Go.Proofs.Ytlpjfcfajagobaa
open Go.RowKit

/-- N cells of one's own that hold bits -/
def RowB (w : World) (g N : Nat) (f : Nat → Bool) : Prop := g < w.heap.size ∧ (∀ t, t < N → w.cell? ⟨g, t, none⟩ = some (.bool (f t))) ∧ ∀ t, w.frozen? ⟨g, t, none⟩ = false
theorem RowB.congr {w : World} {g N : Nat} {f f' : Nat → Bool} (h : RowB w g N f) (e : ∀ t, t < N → f t = f' t) : RowB w g N f' :=
  ⟨h.1, fun t ht => by rw [← e t ht]; exact h.2.1 t ht, h.2.2⟩
theorem RowB.set {w : World} {g N : Nat} {f : Nat → Bool} (h : RowB w g N f) (k : Nat) (b : Bool) (hk : k < N) : RowB (w.setCell ⟨g, k, none⟩ (.bool b)) g N (fun t => if t = k then b else f t) := by
  refine ⟨by simpa [World.setCell] using h.1, fun t ht => ?_, fun t => ?_⟩
  · by_cases e : t = k
    · subst e
      simp only [if_true]
      exact World.cell?_setCell_same _ _ _ (h.2.1 t ht)
    · simp only [if_neg e]
      rw [← h.2.1 t ht]
      exact World.cell?_setCell_other _ _ _ _ (fun e' => by cases e'; exact e rfl)
  · rw [← h.2.2 t]
    simp
theorem info4 : Option.map (fun i => (i.zero, i.size, i.bytes)) (Try.prog.info? 4) = some (some (Value.bool false), 1, 1) := by kernel_rfl

set_option maxRecDepth 100000 in
set_option maxHeartbeats 4000000 in
theorem refCrc_any (v : Value) (l : List UInt8) (w : World) (hrd : Rd w v l) (hl : l.length ≤ 1000000) :
    Calls Try.prog 37 #[v] w fun e w' => e = .returned (.int .u32 (crc l).toNat) ∧ Below w.heap.size w w' := by
  obtain ⟨i0, hi, hz0, hz1, hz2⟩ := info_parts info4
  obtain ⟨ao, cap, hv, -⟩ := id hrd
  subst hv
  have HRD : Hid _ := hrd
  clear hrd
  obtain ⟨n, HN⟩ := named l.length
  rw [← HN.out] at hl ⊢
  have hcall : ∀ (k : Nat) (w' : World), k < 8 * n + 32 → Below w.heap.size w w' → Calls Try.prog 41 #[.slice ao n cap, .int .i64 k] w' fun e w2 => e = .returned (.bool (dbit l k != decide (k < 32))) ∧ w' = w2 := by
    intro k w' hk hb
    have := refBit_any _ l k w' (Rd.below (show Rd w _ l from HRD.out) hb) (by rw [← HN.out]; exact hl) (by omega)
    rw [← HN.out] at this
    exact this
  have HCALL : Hid _ := hcall
  clear hcall
  have hNI : 8 * (n : Int) + 32 = ((8 * n + 32 : Nat) : Int) := by omega
  obtain ⟨N, HNN⟩ := named (8 * n + 32)
  rw [← HNN.out] at hNI
  have HNI : Hid _ := hNI
  clear hNI
  have hX := (crc l).isLt
  obtain ⟨X, HX⟩ := named (crc l).toNat
  rw [← HX.out] at hX ⊢
  have HXL : Hid _ := hX
  clear hX
  go_enter Try.func37, Try.ntmps37
  go_wp2_with (at_make; go_must (refine wpList_make_full _ rfl (.tmp 12) (.tmp 12) 64 rfl w.heap.size 4 i0 (.bool false) 1 Try.underlying64 hi hz0 hz1 .i64 .i64 _ _ N rfl rfl ?_ ?_ ?_ ?_ ?_ ?_))
  · exact HNI.out
  · exact HNI.out
  · rw [hz2, HNN.out]; omega
  · rw [HNN.out]; unfold maxLen; omega
  · exact Nat.le_refl _
  · intro w1 hown1 hg1
    have hb1 : Below w.heap.size w w1 := (Below.refl _ _).grown hg1 (Nat.le_refl _) (fun k hk => by cases hk)
    obtain ⟨g, HG⟩ := named w.heap.size
    have hrow1 : RowB w1 g N (fun _ => false) := by
      rw [HG.out]
      refine ⟨(World.ownsRow.lt hown1 _ rfl).2, fun t ht => ?_, fun t => World.ownsRow.frozenAt hown1 t⟩
      rw [World.ownsRow.cellAt hown1 t (by omega)]
      rw [toList_madeCells_one]
      simp [ht]
    have HB1 : Hid _ := hb1
    have HROW1 : Hid _ := hrow1
    clear hown1 hg1 hb1 hrow1
    rw [← HG.out]
    rw [← HG.out] at HB1 HCALL
    have hN0 : 8 * n + 32 ≤ N := by rw [HNN.out]; omega
    have hN1 : N ≤ 8 * n + 32 := by rw [HNN.out]; omega
    go_wp2
    go_loopw [4] (fun iv wr => ∃ k : Nat, k ≤ N ∧ iv = .int .i64 k ∧ Hid (RowB wr g N (fun t => if t < k then stF l 0 t else false)) ∧ Hid (Below g w wr)) (fun iv _ => N - (intOf iv).toNat)
    case atStart => exact ⟨0, by omega, rfl, RowB.congr HROW1.out (fun t _ => by simp), HB1.out⟩
    case round =>
      obtain ⟨k, hk, rfl, HROW, HB⟩ := hrel
      by_cases hlt : k < N
      · have hltI : (k : Int) < N := by omega
        have hck := (show RowB _ _ _ _ from HROW.out).2.1 k hlt
        have hfr := (show RowB _ _ _ _ from HROW.out).2.2 k
        go_wp2_with fail
        refine (HCALL.out k _ (by omega) HB.out).mono ?_
        rintro e w2 ⟨rfl, hw2⟩
        subst hw2
        rw [← stF_start]
        obtain ⟨c, HC⟩ := named (stF l 0 k)
        rw [← HC.out]
        go_wp2
        go_roundw
        case rel =>
          refine ⟨k + 1, by omega, by go_num, ?_, ?_⟩
          · refine RowB.congr (RowB.set HROW.out k c hlt) (fun t _ => ?_)
            by_cases e : t = k
            · subst e
              simp only [if_true]
              rw [if_pos (by omega), HC.out]
            · simp only [if_neg e]
              by_cases h : t < k
              · rw [if_pos h, if_pos (by omega)]
              · rw [if_neg h, if_neg (by omega)]
          · exact (show Below g w _ from HB.out).setCell (Nat.le_refl _) _
        case measure => simp [intOf]; omega
      · obtain rfl : k = N := by omega
        have hrow2 : RowB wr g k (stF l 0) := RowB.congr HROW.out (fun t ht => by rw [if_pos ht])
        have HROW2 : Hid _ := hrow2
        clear hrow2 hlt hk HROW HROW1 HB1
        go_wp2
        go_loopw [5, 6] (fun iv _ wr => ∃ i : Nat, i ≤ 8 * n ∧ iv = .int .i64 i ∧ Hid (RowB wr g k (stF l i)) ∧ Hid (Below g w wr)) (fun iv _ _ => 8 * n - (intOf iv).toNat)
        case atStart => exact ⟨0, by omega, rfl, HROW2.out, HB.out⟩
        case round =>
          clear HROW2 HB
          obtain ⟨i, hi8, rfl, HROW, HB⟩ := hrel
          by_cases hlt : i < 8 * n
          · have hltI : (i : Int) < 8 * (n : Int) := by omega
            have hik : (i : Int) < (k : Int) := by omega
            have hikN : i < k := by omega
            have hck := (show RowB _ _ _ _ from HROW.out).2.1 i hikN
            have hfr := (show RowB _ _ _ _ from HROW.out).2.2 i
            have hnx := fun t => stF_next l i t
            obtain ⟨c, HC⟩ := named (stF l i i)
            rw [← HC.out] at hck
            simp only [← HC.out] at hnx
            have HNX : Hid _ := hnx
            clear hnx
            cases hc : c with
            | false =>
              rw [hc] at hck HNX
              clear hc HC
              go_wp2
              go_roundw
              case rel => exact ⟨i + 1, by omega, by go_num, RowB.congr HROW.out (fun t _ => by rw [HNX.out]; simp), HB.out⟩
              case measure => simp [intOf]; omega
            | true =>
              rw [hc] at hck HNX
              clear hc HC
              go_wp2
              go_loopw [6] (fun jv wr => ∃ j : Nat, j ≤ 32 ∧ jv = .int .i64 j ∧ Hid (RowB wr g k (stepF (stF l i) i j)) ∧ Hid (Below g w wr)) (fun jv _ => 32 - (intOf jv).toNat)
              case atStart =>
                refine ⟨0, by omega, rfl, ?_, (show Below g w _ from HB.out).setCell (Nat.le_refl _) _⟩
                refine RowB.congr (RowB.set HROW.out i false hikN) (fun t _ => ?_)
                unfold stepF
                by_cases e : t = i
                · rw [if_pos e, if_pos e]
                · rw [if_neg e, if_neg e, if_neg (by omega)]
              case round =>
                clear HROW HB hck hfr
                obtain ⟨j, hj, rfl, HROW, HB⟩ := hrel
                by_cases hj32 : j < 32
                · have hjI : (j : Int) < 32 := by omega
                  have hpb := poly_bitI j hj32
                  have hck := (show RowB _ _ _ _ from HROW.out).2.1 (i + 1 + j) (by omega)
                  have hfr := (show RowB _ _ _ _ from HROW.out).2.2 (i + 1 + j)
                  have hikj : (i : Int) + 1 + j < (k : Int) := by omega
                  have hikjN : i + 1 + j < k := by omega
                  have HPB : Hid _ := hpb
                  clear hpb
                  go_wp2
                  · rename_i hsp
                    rw [HPB.out] at hsp
                    refine ⟨⟨j + 1, by omega, by go_num, RowB.congr (RowB.set HROW.out (i + 1 + j) _ hikjN) (fun t _ => (stepF_turn _ i j t hsp).symm), (show Below g w _ from HB.out).setCell (Nat.le_refl _) _⟩, ?_⟩
                    simp [intOf]; omega
                  · rename_i hsp
                    rw [HPB.out] at hsp
                    refine ⟨⟨j + 1, by omega, by go_num, RowB.congr HROW.out (fun t _ => (stepF_skip _ i j t hsp).symm), HB.out⟩, ?_⟩
                    simp [intOf]; omega
                · obtain rfl : j = 32 := by omega
                  go_wp2
                  go_roundw
                  case rel => exact ⟨i + 1, by omega, by go_num, RowB.congr HROW.out (fun t _ => by rw [HNX.out]; simp), HB.out⟩
                  case measure => simp [intOf]; omega
          · obtain rfl : i = 8 * n := by omega
            have hltI : ¬ ((8 * n : Nat) : Int) < 8 * (n : Int) := by omega
            have HEND : Hid (∀ m, m < 32 → (!stF l (8 * n) (8 * n + m)) = (crc l).toNat.testBit m) := by
              intro m hm
              have := stF_end l m hm
              rw [← HN.out] at this
              exact this
            rw [← HX.out] at HEND
            go_wp2
            go_loop [7, 8] (fun nv kv => ∃ m : Nat, m ≤ 32 ∧ kv = .int .i64 ((m : Int) - 1) ∧ nv = .int .u32 ((X / 2 ^ m : Nat) : Int)) (fun _ kv => (intOf kv + 1).toNat)
            case atStart =>
              refine ⟨32, by omega, by simp, ?_⟩
              rw [Nat.div_eq_of_lt HXL.out]
              rfl
            case round =>
              obtain ⟨m, hm, rfl, rfl⟩ := hrel
              cases m with
              | zero =>
                go_wp2
                go_ret
                exact ⟨by simp, by rw [← HG.out]; exact HB.out⟩
              | succ m =>
                have hmm : ((m + 1 : Nat) : Int) - 1 = (m : Int) := by omega
                rw [hmm]
                clear hmm
                have hck := (show RowB _ _ _ _ from HROW.out).2.1 (8 * n + m) (by omega)
                have hend := HEND.out m (by omega)
                have hhalf := half X m
                have hb31 : X / 2 ^ (m + 1) ≤ 2147483647 := by
                  have hX : X < 2 ^ 32 := HXL.out
                  have h1 : 2 ^ 1 ≤ 2 ^ (m + 1) := Nat.pow_le_pow_right (by omega) (by omega)
                  have h2 := Nat.div_le_div_left h1 (by omega : 0 < 2 ^ 1) (a := X)
                  omega
                have hkm : 8 * (n : Int) + m < (k : Int) := by omega
                have hkmN : 8 * n + m < k := by omega
                obtain ⟨bb, HBB⟩ := named (stF l (8 * n) (8 * n + m))
                rw [← HBB.out] at hck hend
                rw [← hend] at hhalf
                obtain ⟨y, HY⟩ := named (X / 2 ^ (m + 1))
                rw [← HY.out] at hb31 hhalf ⊢
                clear hend
                cases hbb : bb with
                | true =>
                  rw [hbb] at hck hhalf
                  have HH : Hid _ := hhalf
                  clear hhalf hbb HBB
                  go_wp2
                  go_round
                  case rel => exact ⟨m, by omega, by go_num, by rw [HH.out]; go_num⟩
                  case measure => simp [intOf]
                | false =>
                  rw [hbb] at hck hhalf
                  have HH : Hid _ := hhalf
                  clear hhalf hbb HBB
                  go_wp2
                  go_round
                  case rel => exact ⟨m, by omega, by go_num, by rw [HH.out]; go_num⟩
                  case measure => simp [intOf]
end Go.Proofs.Ytlpjfcfajagobaa
