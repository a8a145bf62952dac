/-
  The law FrameTurned answers true, whatever the body, the place, the change and the last byte: a change within four bytes is seen, so is another last byte. No condition.
-/
import Derived.Test.YtlpjfcfajagobaaLSpares
import Derived.Test.YtlpjfcfajagobaaFg
import Derived.Test.YtlpjfcfajagobaaFf
import Derived.Deep.RegionHeld3
namespace Go.Proofs.Ytlpjfcfajagobaa
open Go.RowKit

theorem mid_set (u m s e : List UInt8) (j : Nat) (y : UInt8) (hj : j < m.length) : (u ++ ((m ++ s) ++ e)).set (u.length + j) y = u ++ ((m.set j y ++ s) ++ e) := by
  rw [List.set_append_right _ _ (by omega), show u.length + j - u.length = j by omega, List.set_append_left _ _ (by rw [List.length_append]; omega), List.set_append_left _ _ hj]
theorem mid_get (u m s e : List UInt8) (j : Nat) (hj : j < m.length) : (u ++ ((m ++ s) ++ e))[u.length + j]? = m[j]? := by
  rw [List.getElem?_append_right (by omega), show u.length + j - u.length = j by omega, List.getElem?_append_left (by rw [List.length_append]; omega), List.getElem?_append_left hj]
theorem end_set (u s : List UInt8) (x y : UInt8) (k : Nat) (hk : k = u.length + s.length) : (u ++ (s ++ [x])).set k y = u ++ (s ++ [y]) := by
  subst hk
  rw [List.set_append_right _ _ (by omega), show u.length + s.length - u.length = s.length by omega, List.set_append_right _ _ (by omega), Nat.sub_self]
  rfl
theorem u8_ne0 (x : UInt8) : ((x.toNat : Int) != 0) = decide (x ≠ 0) := by
  rw [Bool.eq_iff_iff]
  simp only [bne_iff_ne, decide_eq_true_eq]
  constructor
  · intro h e
    subst e
    exact h rfl
  · intro h e
    apply h
    rw [← UInt8.toNat_inj]
    show x.toNat = 0
    omega
def turnOf (t0 t1 t2 t3 : UInt8) : Nat → UInt8
  | 0 => t0
  | 1 => t1
  | 2 => t2
  | _ => t3

set_option maxRecDepth 100000 in
set_option maxHeartbeats 800000 in
theorem turned_off (v : Value) (l : List UInt8) (at_ : Int) (t0 t1 t2 t3 : UInt8) (last : Int) (w : World) (hrd : Rd w v l) (hbad : l.length = 0 ∨ 300 < l.length) :
    Calls Try.prog 7 #[v, .int .i64 at_, .agg #[.int .u8 (t0.toNat : Int), .int .u8 (t1.toNat : Int), .int .u8 (t2.toNat : Int), .int .u8 (t3.toNat : Int)], .int .u8 last] w fun e w' => e = .returned (.bool true) ∧ Below w.heap.size w w' := by
  obtain ⟨ao, cap, rfl, -⟩ := hrd
  by_cases h0 : l.length = 0
  · have h0' : ((l.length : Int) == 0) = true := by simp only [beq_iff_eq]; omega
    clear hbad h0
    go_enter Try.func7, Try.ntmps7
    go_wp2_with fail
    refine (awake_true _).mono ?_
    rintro e w7 ⟨rfl, hb7⟩
    go_wp2
    go_ret
    exact ⟨rfl, below_alloc_call (Below.refl _ _) hb7⟩
  · have h0' : ((l.length : Int) == 0) = false := by simp only [beq_eq_false_iff_ne]; omega
    have h1' : (300 : Int) < l.length := by omega
    clear hbad h0
    go_enter Try.func7, Try.ntmps7
    go_wp2_with fail
    refine (awake_true _).mono ?_
    rintro e w7 ⟨rfl, hb7⟩
    go_wp2
    go_ret
    exact ⟨rfl, below_alloc_call (Below.refl _ _) hb7⟩

set_option maxRecDepth 100000 in
set_option maxHeartbeats 1600000 in
theorem turned_in (v : Value) (l : List UInt8) (at_ : Int) (t0 t1 t2 t3 last : UInt8) (w : World) (hrd : Rd w v l) (h0 : 0 < l.length) (h1 : l.length ≤ 300) :
    Calls Try.prog 7 #[v, .int .i64 at_, .agg #[.int .u8 (t0.toNat : Int), .int .u8 (t1.toNat : Int), .int .u8 (t2.toNat : Int), .int .u8 (t3.toNat : Int)], .int .u8 (last.toNat : Int)] w fun e w' => e = .returned (.bool true) ∧ Below w.heap.size w w' := by
  have hB0 : Below w.heap.size w (w.alloc (.cells #[.int .u8 (t0.toNat : Int), .int .u8 (t1.toNat : Int), .int .u8 (t2.toNat : Int), .int .u8 (t3.toNat : Int)] 43)) := (Below.refl _ _).alloc (Nat.le_refl _) _
  have hT : ∀ j, j < 4 → (w.alloc (.cells #[.int .u8 (t0.toNat : Int), .int .u8 (t1.toNat : Int), .int .u8 (t2.toNat : Int), .int .u8 (t3.toNat : Int)] 43)).cell? ⟨w.heap.size, j, none⟩ = some (.int .u8 ((turnOf t0 t1 t2 t3 j).toNat : Int)) := by
    intro j hj
    obtain rfl | rfl | rfl | rfl : j = 0 ∨ j = 1 ∨ j = 2 ∨ j = 3 := by omega
    all_goals simp [turnOf]
  have hput := put_any (.slice none 0 0) v [] l (w.alloc (.cells #[.int .u8 (t0.toNat : Int), .int .u8 (t1.toNat : Int), .int .u8 (t2.toNat : Int), .int .u8 (t3.toNat : Int)] 43)) (Rd.nil _) (hrd.alloc _) (by decide)
  obtain ⟨W0, HW0⟩ := named (w.alloc (.cells #[.int .u8 (t0.toNat : Int), .int .u8 (t1.toNat : Int), .int .u8 (t2.toNat : Int), .int .u8 (t3.toNat : Int)] 43))
  have hsz0 : W0.heap.size = w.heap.size + 1 := by rw [HW0.out]; simp
  rw [putL_ok [] l h0 (by omega), List.nil_append] at hput
  rw [← HW0.out] at hput hT hB0
  have HT : Hid _ := hT
  clear hT
  have hfl := frameL_length l
  have hul := U_len l.length
  have hup := U_pos l.length
  have hFF : frameL l = U l.length ++ ((l ++ be4 (crc l)) ++ [165]) := rfl
  have hgt := fun a k => getF_turned l (turnOf t0 t1 t2 t3) a k h0 h1
  have hgl := getF_last l last h0 h1
  have hpick := fun w => pick_any at_ l.length w h0 (by omega)
  have hm0 : 0 ≤ at_ % (l.length : Int) := Int.emod_nonneg _ (by omega)
  have hm1 : at_ % (l.length : Int) < l.length := Int.emod_lt_of_pos _ (by omega)
  have ha : (at_ % (l.length : Int)).toNat < l.length := by omega
  obtain ⟨a, HA⟩ := named (at_ % (l.length : Int)).toNat
  rw [← HA.out] at ha hpick
  obtain ⟨F, HF⟩ := named (frameL l)
  rw [← HF.out] at hput hfl hFF
  obtain ⟨u, HU⟩ := named (U (l.length : Int))
  rw [← HU.out] at hul hup hFF hgt hgl hfl
  obtain ⟨sm, HSM⟩ := named (be4 (crc l))
  have hsl : sm.length = 4 := by rw [HSM.out]; rfl
  rw [← HSM.out] at hFF hgt hgl
  obtain ⟨n, HN⟩ := named l.length
  obtain ⟨fu, HFU⟩ := named u.length
  obtain ⟨fn, HFN⟩ := named F.length
  rw [← HFU.out] at hul hup hfl
  rw [← HFN.out] at hfl
  obtain ⟨ao, cap, hv, -⟩ := id hrd
  subst hv
  rw [← HN.out] at hput hrd ha hpick hfl h0 h1 ⊢
  have HFF : Hid _ := hFF
  have HGT : Hid _ := hgt
  have HGL : Hid _ := hgl
  have HFL : Hid _ := hfl
  have HSL : Hid _ := hsl
  have h0' : ((n : Int) == 0) = false := by simp only [beq_eq_false_iff_ne]; omega
  have h1' : ¬ (300 : Int) < n := by omega
  have hfn6 : ¬ ((fn : Int) < (n : Int) + 6) := by omega
  have hfn : fn ≤ 320 := by omega
  simp only at hput
  clear hFF hgt hgl hfl hsl hm0 hm1
  go_enter Try.func7, Try.ntmps7
  go_wp2_with fail
  rw [← HW0.out]
  refine hput.mono ?_
  rintro e w1 ⟨v1, rfl, hown1, hb1⟩
  clear hput
  have hrdb := hown1.rd
  obtain ⟨a1, c1, hv1, -⟩ := id hrdb
  rw [← HFN.out] at hv1
  subst hv1
  clear hown1
  go_wp2_with fail
  refine (hpick _).mono ?_
  rintro e w2 ⟨rfl, hw2⟩
  subst hw2
  clear hpick
  go_wp2_with fail
  refine (copyBytes_any _ F _ hrdb (by rw [← HFN.out]; omega)).mono ?_
  rintro e w3 ⟨v3, rfl, hown3, hb3⟩
  have hrdb3 := hrdb.below hb3
  have hB3 := below_call (below_call hB0 hb1) hb3
  obtain ⟨g3, c3, hv3, hg3, hc3, hc3m⟩ : ∃ g cap, v3 = .slice (some ⟨g, 0, none⟩) F.length cap ∧ w2.heap.size ≤ g ∧ F.length ≤ cap ∧ cap ≤ maxLen := by
    rcases hown3.shape with ⟨-, h⟩ | ⟨g, cap, h1, h2, h3, h4, h5, -⟩
    · have := HFL.out; rw [HFN.out, h] at this; simp at this
    · exact ⟨g, cap, h1, h2, h4, h5⟩
  rw [← HFN.out] at hv3 hc3
  subst hv3
  unfold maxLen at hc3m
  go_wp2
  have hfr : ((fn : Int) - 5 - n) = (fu : Int) := by have := HFL.out; omega
  rw [hfr]
  have hBw : Below w.heap.size w w2 := below_call hB0 hb1
  have hT2 : ∀ j, j < 4 → w2.cell? ⟨w.heap.size, j, none⟩ = some (.int .u8 ((turnOf t0 t1 t2 t3 j).toNat : Int)) := fun j hj =>
    (hb1.cell (p := ⟨w.heap.size, j, none⟩) (by show w.heap.size < _; omega)).trans (HT.out j hj)
  have HT2 : Hid _ := hT2
  obtain ⟨tf, HTF⟩ := named (turnOf t0 t1 t2 t3)
  rw [← HTF.out] at HGT HT2
  have hwlt : w.heap.size < w2.heap.size := by have := hb1.size; omega
  have hown0 : Own w3 w2.heap.size (.slice (some ⟨g3, 0, none⟩) fn c3) (u ++ ((tw l tf a 0 ++ sm) ++ [165])) := by
    rw [HFF.out] at hown3
    exact hown3
  have hfnf : fn = fu + n + 5 := HFL.out
  have HFNF : Hid _ := hfnf
  clear hT2 hb1 hB0 hB3 hrdb3 hown3 hfr hfn6 hfnf HT
  go_loopw [13, 14] (fun cv iv wr => ∃ (k : Nat) (cb : Bool), k ≤ 4 ∧ a + k ≤ n ∧ iv = .int .i64 k ∧ cv = .bool cb ∧ cb = anyT tf k ∧ Own wr w2.heap.size (.slice (some ⟨g3, 0, none⟩) fn c3) (u ++ ((tw l tf a k ++ sm) ++ [165])) ∧ Below w2.heap.size w2 wr) (fun _ iv _ => 4 - (intOf iv).toNat)
  case atStart => exact ⟨0, false, by omega, by omega, rfl, rfl, rfl, hown0, hb3⟩
  case round =>
    obtain ⟨k, cb, hk, hak, rfl, rfl, hcb, hown, hb⟩ := hrel
    have HCB : Hid _ := hcb
    have hlx : (u ++ ((tw l tf a k ++ sm) ++ [165])).length = fn := by
      have := HFNF.out
      have := HSL.out
      simp only [List.length_append, List.length_singleton, tw_length, ← HN.out, ← HFU.out]
      omega
    have HLX : Hid _ := hlx
    clear hcb hlx
    by_cases hlt : k < 4 ∧ a + k < n
    · obtain ⟨hk4, hakn⟩ := hlt
      have hk4' : (k : Int) < 4 := by omega
      have hakn' : (a : Int) + k < n := by omega
      have hyl : a + k < (tw l tf a k).length := by rw [tw_length, ← HN.out]; exact hakn
      have hown' : Own wr w2.heap.size (.slice (some ⟨g3, 0, none⟩) (u ++ ((tw l tf a k ++ sm) ++ [165])).length c3) (u ++ ((tw l tf a k ++ sm) ++ [165])) := by rw [HLX.out]; exact hown
      have hfro := hown'.frozen (fu + a + k)
      have hlf : fu + a + k < (u ++ ((tw l tf a k ++ sm) ++ [165])).length := by rw [HLX.out, HFNF.out]; omega
      have hcell := hown'.cell (fu + a + k) hlf
      have hget : (u ++ ((tw l tf a k ++ sm) ++ [165]))[fu + a + k] = (tw l tf a k)[a + k] := by
        have h1 := mid_get u (tw l tf a k) sm [165] (a + k) hyl
        rw [← HFU.out, ← Nat.add_assoc, List.getElem?_eq_getElem hlf, List.getElem?_eq_getElem hyl] at h1
        exact Option.some.inj h1
      have hst := hown'.store (fu + a + k) (xorB ((tw l tf a k)[a + k]) (tf k)) _ (xorB_val _ _)
      have hset : (u ++ ((tw l tf a k ++ sm) ++ [165])).set (fu + a + k) (xorB ((tw l tf a k)[a + k]) (tf k)) = u ++ ((tw l tf a (k + 1) ++ sm) ++ [165]) := by
        have h1 := mid_set u (tw l tf a k) sm [165] (a + k) (xorB ((tw l tf a k)[a + k]) (tf k)) hyl
        rw [← HFU.out, ← Nat.add_assoc] at h1
        rw [h1, tw]
        have : (tw l tf a k).getD (a + k) 0 = (tw l tf a k)[a + k] := by simp [List.getD, hyl]
        rw [this]
      rw [hset, HLX.out] at hst
      rw [hget] at hcell
      obtain ⟨y0, HY⟩ := named ((tw l tf a k)[a + k]'hyl)
      rw [← HY.out] at hcell hst
      have hct := (hb.cell (p := ⟨w.heap.size, k, none⟩) hwlt).trans (HT2.out k hk4)
      obtain ⟨tk, HTK⟩ := named (tf k)
      have hany : anyT tf (k + 1) = (cb || decide (tk ≠ 0)) := by rw [anyT, HCB.out, HTK.out]
      have HANY : Hid _ := hany
      rw [← HTK.out] at hct hst
      have HST : Hid _ := hst
      have hgne : w.heap.size ≠ g3 := by omega
      have hbnd1 : (fu : Int) + a + k < fn := by have := HFNF.out; omega
      clear HY hset hget hst hown' hlf hany hyl hown
      have hct2 : ∀ u, (wr.setCell ⟨g3, fu + a + k, none⟩ u).cell? ⟨w.heap.size, k, none⟩ = some (.int .u8 (tk.toNat : Int)) := fun u => by
        rw [← hct]
        exact ((Below.refl w2.heap.size wr).setCell hg3 u).cell (p := ⟨w.heap.size, k, none⟩) hwlt
      have HCT2 : Hid _ := hct2
      clear hct2
      cases cb with
      | true =>
        go_wp2_with fail
        go_region
        go_wp2
        go_roundw
        case rel => exact ⟨k + 1, true, by omega, by omega, by go_num, rfl, by rw [HANY.out]; rfl, HST.out.drew, (hb.setCell hg3 _).drew⟩
        case measure => simp [intOf]; omega
      | false =>
        go_wp2_with fail
        go_region
        have hct3 := HCT2.out (Value.int IntKind.u8 (bits BinOp.xor IntKind.u8 (y0.toNat : Int) (tk.toNat : Int)))
        go_wp2
        refine ⟨⟨k + 1, _, by omega, by omega, by go_num, rfl, by rw [HANY.out, u8_ne0]; rfl, HST.out.drew, (hb.setCell hg3 _).drew⟩, ?_⟩
        simp [intOf]
        omega
    · have hx := HGT.out a k hk (by rw [← HN.out]; exact hak)
      rw [← HCB.out] at hx
      have hrdb4 := hrdb.below hb
      have hrdx : Rd wr (.slice (some ⟨g3, 0, none⟩) fn c3) (u ++ ((tw l tf a k ++ sm) ++ [165])) := hown.rd
      obtain ⟨X, HX⟩ := named (u ++ ((tw l tf a k ++ sm) ++ [165]))
      rw [← HX.out] at hx hrdx HLX
      have hgx := fun w h => get_any (.slice (some ⟨g3, 0, none⟩) fn c3) X 0 w h (by rw [HLX.out]; omega)
      rw [hx] at hgx
      obtain ⟨E, HE⟩ := named (if cb = true then 12 else 0 : Nat)
      rw [← HE.out] at hgx
      have hE0 : ((E : Int) == 12) = cb := by rw [HE.out]; cases cb <;> rfl
      have hE1 : ((E : Int) == 0) = !cb := by rw [HE.out]; cases cb <;> rfl
      have HGX : Hid _ := hgx
      have hgl := HGL.out
      obtain ⟨G, HG⟩ := named (if last = 165 then 0 else 10 : Nat)
      rw [← HG.out] at hgl
      have HLL : Hid (∃ lb : Bool, ((G : Int) == 0) = lb ∧ ((G : Int) == 10) = !lb ∧ ((last.toNat : Int) == 165) = lb ∧ ((last.toNat : Int) != 165) = !lb) := by
        by_cases h5 : last = 165
        · rw [if_pos h5] at HG
          refine ⟨true, by rw [HG.out]; rfl, by rw [HG.out]; rfl, by rw [h5]; rfl, by rw [h5]; rfl⟩
        · rw [if_neg h5] at HG
          have hl6 : ((last.toNat : Int) == 165) = false := by
            simp only [beq_eq_false_iff_ne]
            intro h
            apply h5
            rw [← UInt8.toNat_inj]
            show last.toNat = 165
            omega
          exact ⟨false, by rw [HG.out]; rfl, by rw [HG.out]; rfl, hl6, by rw [bne, hl6]⟩
      have hcond : ¬ ((k : Int) < 4) ∨ ((k : Int) < 4 ∧ ¬ ((a : Int) + k < n)) := by omega
      clear hgx hown hx
      rcases hcond with hc1 | ⟨hc1, hc2⟩
      all_goals
        go_wp2_with fail
        refine (copyBytes_any _ F _ hrdb4 (by rw [← HFN.out]; omega)).mono ?_
        rintro e w5 ⟨v5, rfl, hown5, hb5⟩
        obtain ⟨g5, c5, hv5, hg5, hc5, hc5m⟩ : ∃ g cap, v5 = .slice (some ⟨g, 0, none⟩) F.length cap ∧ wr.heap.size ≤ g ∧ F.length ≤ cap ∧ cap ≤ maxLen := by
          rcases hown5.shape with ⟨-, h⟩ | ⟨g, cap, h1, h2, h3, h4, h5, -⟩
          · have := HFNF.out; rw [HFN.out, h] at this; simp at this
          · exact ⟨g, cap, h1, h2, h4, h5⟩
        subst hv5
        have hlf : fn - 1 < F.length := by rw [← HFN.out]; have := HFNF.out; omega
        have hfro := hown5.frozen (fn - 1)
        have hcell := hown5.cell (fn - 1) hlf
        have hst := hown5.store (fn - 1) last _ rfl
        have hset : F.set (fn - 1) last = u ++ ((l ++ sm) ++ [last]) := by
          rw [HFF.out]
          exact end_set u (l ++ sm) 165 last (fn - 1) (by rw [List.length_append, ← HFU.out, ← HN.out, HSL.out, HFNF.out]; omega)
        rw [hset] at hst
        obtain ⟨Y, HY⟩ := named (u ++ ((l ++ sm) ++ [last]))
        rw [← HY.out] at hst hgl
        have hYl : Y.length = fn := by
          rw [HY.out]
          simp only [List.length_append, List.length_singleton, ← HN.out, ← HFU.out, HSL.out, HFNF.out]
          omega
        rw [← HFN.out] at hst hc5 ⊢
        have HST : Hid _ := hst
        have hrdx5 := hrdx.below hb5
        have hB5 := below_call (below_call hBw hb) hb5
        have hfn1 : (fn : Int) - 1 < fn := by omega
        have hfn2 : 0 ≤ (fn : Int) - 1 := by have := HFNF.out; omega
        unfold maxLen at hc5m
        obtain ⟨z0, HZ0⟩ := named (F[fn - 1]'hlf)
        rw [← HZ0.out] at hcell
        clear HZ0 hset hst hown5 hlf
        go_wp2_with fail
        have hB6 : Below wr.heap.size wr (w5.setCell ⟨g5, fn - 1, none⟩ (Value.int IntKind.u8 (last.toNat : Int))) := hb5.trans ((Below.refl wr.heap.size w5).setCell hg5 _)
        have hrdy : Rd (w5.setCell ⟨g5, fn - 1, none⟩ (Value.int IntKind.u8 (last.toNat : Int))) (.slice (some ⟨g5, 0, none⟩) fn c5) Y := Own.rd (show Own _ _ _ _ from HST.out)
        obtain ⟨w6, HW6⟩ := named (w5.setCell ⟨g5, fn - 1, none⟩ (Value.int IntKind.u8 (last.toNat : Int)))
        rw [← HW6.out] at hB6 hrdy ⊢
        have hrdx6 := hrdx.below hB6
        have hBB6 := below_call (below_call hBw hb) hB6
        clear hB5 hrdx5 hrdx hcell hfro HST HW6 hB6 hb5
        refine Calls.mono (HGX.out _ hrdx6) ?_
        rintro e w8 ⟨v8, rfl, hown8, hb8⟩
        clear hown8
        have hrdy8 := hrdy.below hb8
        have hBB8 := below_call hBB6 hb8
        have hgy := get_any _ Y 0 w8 hrdy8 (by rw [hYl]; omega)
        rw [hgl] at hgy
        clear hrdx6 hrdy hrdy8 hb8 hBB6
        go_wp2_with fail
        refine hgy.mono ?_
        rintro e w9 ⟨v9, rfl, hown9, hb9⟩
        have hBB9 := below_call hBB8 hb9
        clear hown9 hb9 hBB8 hgy
        obtain ⟨lb, hL0, hL1, hL2, hL3⟩ := HLL.out
        clear HLL
        go_wp2_with fail
        refine (awake_true _).mono ?_
        rintro e w7 ⟨rfl, hb7⟩
        go_wp2
        go_ret
        exact ⟨rfl, below_call hBB9 hb7⟩

theorem turned_walk (v : Value) (l : List UInt8) (at_ : Int) (t0 t1 t2 t3 last : UInt8) (w : World) (hrd : Rd w v l) :
    Calls Try.prog 7 #[v, .int .i64 at_, .agg #[.int .u8 (t0.toNat : Int), .int .u8 (t1.toNat : Int), .int .u8 (t2.toNat : Int), .int .u8 (t3.toNat : Int)], .int .u8 (last.toNat : Int)] w fun e w' => e = .returned (.bool true) ∧ Below w.heap.size w w' := by
  by_cases h : l.length = 0 ∨ 300 < l.length
  · exact turned_off v l at_ t0 t1 t2 t3 _ w hrd h
  · exact turned_in v l at_ t0 t1 t2 t3 last w hrd (by omega) (by omega)
end Go.Proofs.Ytlpjfcfajagobaa
