/-
  RootBack answers true, whatever is handed in. Own work.
-/
import Derived.Test.YtffgbjojngnebaaDoorKn
namespace Go.Proofs.YtffgbjojngnebaaDoor
open Go.RowKit

theorem back_same (r q : AR) (hr : isR r = true) (hq : isR q = true) : decide (frameL (bodyR r) = frameL (bodyR q)) = sameR r q := by
  cases h : sameR r q with
  | true =>
    rw [(sameR_iff r q).1 h]
    simp
  | false =>
    rw [decide_eq_false_iff_not]
    intro e
    rw [(sameR_iff r q).2 (bytes_inj r q hr hq e)] at h
    cases h

set_option maxRecDepth 100000 in
set_option maxHeartbeats 4000000 in
theorem back_walk (w : World) (hL : Laid w) (rs rb os ob : Int) (rv ov bv : Value) (rl ol bl : List UInt8) (hr : Rd w rv rl) (ho : Rd w ov ol) (hb : Rd w bv bl) :
    Calls Tryd.prog 9 #[.agg #[.int .i64 rs, .int .i64 rb, rv], .agg #[.int .i64 os, .int .i64 ob, ov], bv] w fun e w' => e = .returned (.bool true) ∧ Below w.heap.size w w' := by
  obtain ⟨ra, rc, hrv, -⟩ := id hr
  obtain ⟨rn, HRN⟩ := named rl.length
  rw [← HRN.out] at hrv
  subst hrv
  obtain ⟨oa, oc, hov, -⟩ := id ho
  obtain ⟨on, HON⟩ := named ol.length
  rw [← HON.out] at hov
  subst hov
  obtain ⟨ba, bc, hbv, -⟩ := id hb
  obtain ⟨bn, HBN⟩ := named bl.length
  rw [← HBN.out] at hbv
  subst hbv
  obtain ⟨W, HW⟩ := named ((w.alloc (Obj.cells #[.int .i64 rs, .int .i64 rb, .slice ra rn rc] 24)).alloc (Obj.cells #[.int .i64 os, .int .i64 ob, .slice oa on oc] 24))
  obtain ⟨T1, T2, T3, -⟩ := two_new' w (Obj.cells #[.int .i64 rs, .int .i64 rb, .slice ra rn rc] 24) (Obj.cells #[.int .i64 os, .int .i64 ob, .slice oa on oc] 24)
  rw [← HW.out] at T1 T2 T3
  have HBW : Hid (Below w.heap.size w W) := T3
  have HCR : Hid (C3 W w.heap.size (.int .i64 rs) (.int .i64 rb) (.slice ra rn rc)) := C3.of T1
  have HCO : Hid (C3 W (w.heap.size + 1) (.int .i64 os) (.int .i64 ob) (.slice oa on oc)) := C3.of T2
  have HR : Hid (Rd W (.slice ra rn rc) rl) := hr.below T3
  have HO : Hid (Rd W (.slice oa on oc) ol) := ho.below T3
  have HB : Hid (Rd W (.slice ba bn bc) bl) := hb.below T3
  have HLW : Hid (Laid W) := hL.below T3
  have HAW : Hid (∀ x, Below W.heap.size W x → Calls Tryd.prog 21 #[] x fun e w' => e = .returned (.bool true) ∧ Below w.heap.size w w') := fun x hx => (awake_true x (HLW.out.below hx)).mono (fun e w' ⟨h1, h2⟩ => ⟨h1, below_call (below_call HBW.out hx) h2⟩)
  clear T1 T2 T3 hr ho hb hL
  obtain ⟨q0, r0, r1, r2, -⟩ := HCR.out
  obtain ⟨t0, s0, s1, s2, -⟩ := HCO.out
  by_cases h1 : 500 < rn
  · have h1' : (500 : Int) < rn := by omega
    go_enter Tryd.func9, Tryd.ntmps9
    go_wp2_with fail
    rw [← HW.out]
    refine (HAW.out W (Below.refl _ _)).mono ?_
    rintro e w1 ⟨rfl, hb1⟩
    go_wp2_with fail
    go_ret
    exact ⟨rfl, hb1⟩
  have h1' : ¬ (500 : Int) < rn := by omega
  by_cases h2 : 500 < on
  · have h2' : (500 : Int) < on := by omega
    go_enter Tryd.func9, Tryd.ntmps9
    go_wp2_with fail
    rw [← HW.out]
    refine (HAW.out W (Below.refl _ _)).mono ?_
    rintro e w1 ⟨rfl, hb1⟩
    go_wp2_with fail
    go_ret
    exact ⟨rfl, hb1⟩
  have h2' : ¬ (500 : Int) < on := by omega
  by_cases h3 : 1000 < bn
  · have h3' : (1000 : Int) < bn := by omega
    go_enter Tryd.func9, Tryd.ntmps9
    go_wp2_with fail
    rw [← HW.out]
    refine (HAW.out W (Below.refl _ _)).mono ?_
    rintro e w1 ⟨rfl, hb1⟩
    go_wp2_with fail
    go_ret
    exact ⟨rfl, hb1⟩
  have h3' : ¬ (1000 : Int) < bn := by omega
  have hpa := parse_any (.slice ba bn bc) bl W HB.out (by rw [← HBN.out]; omega)
  have HPI : Hid _ := parse_inv bl
  have HPE : Hid _ := parse_err bl
  obtain ⟨Z, HZ⟩ := named (parseR bl)
  rw [← HZ.out] at hpa HPI HPE
  obtain ⟨⟨zs, zb, zl⟩, zx⟩ := Z
  simp only at hpa HPI
  have HBR : Hid (∀ x, Below W.heap.size W x → Calls Tryd.prog 10 #[.agg #[.int .i64 rs, .int .i64 rb, .slice ra rn rc]] x fun e w' => ∃ v', e = .returned (.tuple #[v', .int .i64 (bytesR ⟨rs, rb, rl⟩).2]) ∧ Own w' x.heap.size v' (bytesR ⟨rs, rb, rl⟩).1 ∧ Below x.heap.size x w') := fun x hx => bytes_any rs rb _ rl x (Rd.below HR.out hx) (by rw [← HRN.out]; omega)
  have HBO : Hid (∀ x, Below W.heap.size W x → Calls Tryd.prog 10 #[.agg #[.int .i64 os, .int .i64 ob, .slice oa on oc]] x fun e w' => ∃ v', e = .returned (.tuple #[v', .int .i64 (bytesR ⟨os, ob, ol⟩).2]) ∧ Own w' x.heap.size v' (bytesR ⟨os, ob, ol⟩).1 ∧ Below x.heap.size x w') := fun x hx => bytes_any os ob _ ol x (Rd.below HO.out hx) (by rw [← HON.out]; omega)
  have HDR : Hid (bytesR ⟨rs, rb, rl⟩ = if isR ⟨rs, rb, rl⟩ = true then (frameL (bodyR ⟨rs, rb, rl⟩), 0) else ([], 2)) := rfl
  have HDO : Hid (bytesR ⟨os, ob, ol⟩ = if isR ⟨os, ob, ol⟩ = true then (frameL (bodyR ⟨os, ob, ol⟩), 0) else ([], 2)) := rfl
  have HLR : Hid ((frameL (bodyR ⟨rs, rb, rl⟩)).length ≤ 1000) := by
    have := frameR_size ⟨rs, rb, rl⟩
    show _ ≤ _
    simp only [← HRN.out] at this
    omega
  by_cases hz : zx = 0
  · subst hz
    obtain ⟨hi1, hi2⟩ := HPI.out rfl
    have HBZ : Hid (bytesR ⟨zs, zb, zl⟩ = (bl, 0)) := by show _ = _; unfold bytesR; rw [if_pos hi1, hi2]
    have HZL : Hid (zl.length ≤ 524288) := ((isRt_iff _ _ _).1 hi1).2.2.2.2
    clear hi1 hi2
    cases hr1 : isR ⟨rs, rb, rl⟩ with
    | false =>
      rw [hr1, if_neg (by simp)] at HDR
      cases hr2 : isR ⟨os, ob, ol⟩ with
      | false =>
        rw [hr2, if_neg (by simp)] at HDO
        go_enter Tryd.func9, Tryd.ntmps9
        go_wp2_with fail
        rw [← HW.out]
        refine hpa.mono ?_
        rintro e w1 ⟨v1, rfl, hown1, hb1⟩
        obtain ⟨a1, p1, hv1, -⟩ := id hown1.rd
        obtain ⟨k1, HK1⟩ := named zl.length
        rw [← HK1.out] at hv1
        subst hv1
        obtain ⟨X, HX⟩ := named (w1.alloc (Obj.cells #[.int .i64 zs, .int .i64 zb, .slice a1 k1 p1] 24))
        have HBX : Hid (Below w1.heap.size w1 X) := by show Below _ _ _; rw [HX.out]; exact (Below.refl _ _).alloc (Nat.le_refl _) _
        have HCX : Hid (C3 X w1.heap.size (.int .i64 zs) (.int .i64 zb) (.slice a1 k1 p1)) := by show C3 _ _ _ _ _; rw [HX.out]; exact C3.new _ _ _ _ _
        have HB2 : Hid (Below W.heap.size W X) := below_call hb1 HBX.out
        have HO2 : Hid _ := Own.below hown1 HBX.out
        clear hown1 hb1 hpa q0 r0 r1 r2 t0 s0 s1 s2
        obtain ⟨x0, y0, y1, y2, -⟩ := HCX.out
        have HCR2 : Hid _ := C3.below HCR.out HB2.out
        obtain ⟨q0, r0, r1, r2, -⟩ := HCR2.out
        have hby := bytes_any zs zb (.slice a1 k1 p1) zl X (Own.rd HO2.out) (by have := HZL.out; omega)
        rw [HBZ.out] at hby
        go_wp2_with (rw [← HX.out])
        refine hby.mono ?_
        clear hby
        rintro e w3 ⟨v3, rfl, hown3, hb3⟩
        have HB3 : Hid (Below W.heap.size W w3) := below_call HB2.out hb3
        obtain ⟨a3, p3, hv3, -⟩ := id hown3.rd
        rw [← HBN.out] at hv3
        subst hv3
        have hsb := same_any (.slice a3 bn p3) (.slice ba bn bc) bl bl w3 hown3.rd (Rd.below HB.out HB3.out)
        rw [decide_eq_true rfl] at hsb
        clear hown3 hb3 x0 y0 y1 y2 q0 r0 r1 r2
        have HCR3 : Hid _ := C3.below HCR.out HB3.out
        obtain ⟨q0, r0, r1, r2, -⟩ := HCR3.out
        go_wp2_with fail
        refine hsb.mono ?_
        clear hsb
        rintro e w4 ⟨rfl, rfl⟩
        have hbr := HBR.out w4 HB3.out
        rw [HDR.out] at hbr
        go_wp2_with fail
        refine hbr.mono ?_
        clear hbr
        rintro e w5 ⟨v5, rfl, hown5, hb5⟩
        have HB5 : Hid (Below W.heap.size W w5) := below_call HB3.out hb5
        have hbo := HBO.out w5 HB5.out
        rw [HDO.out] at hbo
        have HCO5 : Hid _ := C3.below HCO.out HB5.out
        have HO5 : Hid _ := hown5
        have HRO5 : Hid _ := hown5.rd
        obtain ⟨a5, p5, hv5, -⟩ := id hown5.rd
        have hz5 : (([] : List UInt8).length) = 0 := rfl
        rw [hz5] at hv5
        subst hv5
        clear hown5 hb5
        clear q0 r0 r1 r2
        obtain ⟨t0, s0, s1, s2, -⟩ := HCO5.out
        go_wp2_with fail
        refine hbo.mono ?_
        clear hbo
        rintro e w6 ⟨v6, rfl, hown6, hb6⟩
        have HB6 : Hid (Below W.heap.size W w6) := below_call HB5.out hb6
        have HO6 : Hid _ := Own.below HO5.out hb6
        have HP6 : Hid _ := hown6
        obtain ⟨a6, p6, hv6, -⟩ := id hown6.rd
        have hz6 : (([] : List UInt8).length) = 0 := rfl
        rw [hz6] at hv6
        subst hv6
        clear hown6 hb6 t0 s0 s1 s2
        have HCR6 : Hid _ := C3.below HCR.out HB6.out
        have HCO6 : Hid _ := C3.below HCO.out HB6.out
        obtain ⟨q0, r0, r1, r2, -⟩ := HCR6.out
        obtain ⟨t0, s0, s1, s2, -⟩ := HCO6.out
        go_wp2_with fail
        refine (HAW.out w6 HB6.out).mono ?_
        rintro e w7 ⟨rfl, hb7⟩
        go_wp2_with fail
        go_ret
        exact ⟨rfl, hb7⟩
      | true =>
        rw [hr2, if_pos rfl] at HDO
        go_enter Tryd.func9, Tryd.ntmps9
        go_wp2_with fail
        rw [← HW.out]
        refine hpa.mono ?_
        rintro e w1 ⟨v1, rfl, hown1, hb1⟩
        obtain ⟨a1, p1, hv1, -⟩ := id hown1.rd
        obtain ⟨k1, HK1⟩ := named zl.length
        rw [← HK1.out] at hv1
        subst hv1
        obtain ⟨X, HX⟩ := named (w1.alloc (Obj.cells #[.int .i64 zs, .int .i64 zb, .slice a1 k1 p1] 24))
        have HBX : Hid (Below w1.heap.size w1 X) := by show Below _ _ _; rw [HX.out]; exact (Below.refl _ _).alloc (Nat.le_refl _) _
        have HCX : Hid (C3 X w1.heap.size (.int .i64 zs) (.int .i64 zb) (.slice a1 k1 p1)) := by show C3 _ _ _ _ _; rw [HX.out]; exact C3.new _ _ _ _ _
        have HB2 : Hid (Below W.heap.size W X) := below_call hb1 HBX.out
        have HO2 : Hid _ := Own.below hown1 HBX.out
        clear hown1 hb1 hpa q0 r0 r1 r2 t0 s0 s1 s2
        obtain ⟨x0, y0, y1, y2, -⟩ := HCX.out
        have HCR2 : Hid _ := C3.below HCR.out HB2.out
        obtain ⟨q0, r0, r1, r2, -⟩ := HCR2.out
        have hby := bytes_any zs zb (.slice a1 k1 p1) zl X (Own.rd HO2.out) (by have := HZL.out; omega)
        rw [HBZ.out] at hby
        go_wp2_with (rw [← HX.out])
        refine hby.mono ?_
        clear hby
        rintro e w3 ⟨v3, rfl, hown3, hb3⟩
        have HB3 : Hid (Below W.heap.size W w3) := below_call HB2.out hb3
        obtain ⟨a3, p3, hv3, -⟩ := id hown3.rd
        rw [← HBN.out] at hv3
        subst hv3
        have hsb := same_any (.slice a3 bn p3) (.slice ba bn bc) bl bl w3 hown3.rd (Rd.below HB.out HB3.out)
        rw [decide_eq_true rfl] at hsb
        clear hown3 hb3 x0 y0 y1 y2 q0 r0 r1 r2
        have HCR3 : Hid _ := C3.below HCR.out HB3.out
        obtain ⟨q0, r0, r1, r2, -⟩ := HCR3.out
        go_wp2_with fail
        refine hsb.mono ?_
        clear hsb
        rintro e w4 ⟨rfl, rfl⟩
        have hbr := HBR.out w4 HB3.out
        rw [HDR.out] at hbr
        go_wp2_with fail
        refine hbr.mono ?_
        clear hbr
        rintro e w5 ⟨v5, rfl, hown5, hb5⟩
        have HB5 : Hid (Below W.heap.size W w5) := below_call HB3.out hb5
        have hbo := HBO.out w5 HB5.out
        rw [HDO.out] at hbo
        have HCO5 : Hid _ := C3.below HCO.out HB5.out
        have HO5 : Hid _ := hown5
        have HRO5 : Hid _ := hown5.rd
        obtain ⟨a5, p5, hv5, -⟩ := id hown5.rd
        have hz5 : (([] : List UInt8).length) = 0 := rfl
        rw [hz5] at hv5
        subst hv5
        clear hown5 hb5
        clear q0 r0 r1 r2
        obtain ⟨t0, s0, s1, s2, -⟩ := HCO5.out
        go_wp2_with fail
        refine hbo.mono ?_
        clear hbo
        rintro e w6 ⟨v6, rfl, hown6, hb6⟩
        have HB6 : Hid (Below W.heap.size W w6) := below_call HB5.out hb6
        have HO6 : Hid _ := Own.below HO5.out hb6
        have HP6 : Hid _ := hown6
        obtain ⟨a6, p6, hv6, -⟩ := id hown6.rd
        obtain ⟨k6, HKK6⟩ := named (frameL (bodyR ⟨os, ob, ol⟩)).length
        rw [← HKK6.out] at hv6
        subst hv6
        clear hown6 hb6 t0 s0 s1 s2
        have HCR6 : Hid _ := C3.below HCR.out HB6.out
        have HCO6 : Hid _ := C3.below HCO.out HB6.out
        obtain ⟨q0, r0, r1, r2, -⟩ := HCR6.out
        obtain ⟨t0, s0, s1, s2, -⟩ := HCO6.out
        go_wp2_with fail
        refine (HAW.out w6 HB6.out).mono ?_
        rintro e w7 ⟨rfl, hb7⟩
        go_wp2_with fail
        go_ret
        exact ⟨rfl, hb7⟩
    | true =>
      rw [hr1, if_pos rfl] at HDR
      cases hr2 : isR ⟨os, ob, ol⟩ with
      | false =>
        rw [hr2, if_neg (by simp)] at HDO
        go_enter Tryd.func9, Tryd.ntmps9
        go_wp2_with fail
        rw [← HW.out]
        refine hpa.mono ?_
        rintro e w1 ⟨v1, rfl, hown1, hb1⟩
        obtain ⟨a1, p1, hv1, -⟩ := id hown1.rd
        obtain ⟨k1, HK1⟩ := named zl.length
        rw [← HK1.out] at hv1
        subst hv1
        obtain ⟨X, HX⟩ := named (w1.alloc (Obj.cells #[.int .i64 zs, .int .i64 zb, .slice a1 k1 p1] 24))
        have HBX : Hid (Below w1.heap.size w1 X) := by show Below _ _ _; rw [HX.out]; exact (Below.refl _ _).alloc (Nat.le_refl _) _
        have HCX : Hid (C3 X w1.heap.size (.int .i64 zs) (.int .i64 zb) (.slice a1 k1 p1)) := by show C3 _ _ _ _ _; rw [HX.out]; exact C3.new _ _ _ _ _
        have HB2 : Hid (Below W.heap.size W X) := below_call hb1 HBX.out
        have HO2 : Hid _ := Own.below hown1 HBX.out
        clear hown1 hb1 hpa q0 r0 r1 r2 t0 s0 s1 s2
        obtain ⟨x0, y0, y1, y2, -⟩ := HCX.out
        have HCR2 : Hid _ := C3.below HCR.out HB2.out
        obtain ⟨q0, r0, r1, r2, -⟩ := HCR2.out
        have hby := bytes_any zs zb (.slice a1 k1 p1) zl X (Own.rd HO2.out) (by have := HZL.out; omega)
        rw [HBZ.out] at hby
        go_wp2_with (rw [← HX.out])
        refine hby.mono ?_
        clear hby
        rintro e w3 ⟨v3, rfl, hown3, hb3⟩
        have HB3 : Hid (Below W.heap.size W w3) := below_call HB2.out hb3
        obtain ⟨a3, p3, hv3, -⟩ := id hown3.rd
        rw [← HBN.out] at hv3
        subst hv3
        have hsb := same_any (.slice a3 bn p3) (.slice ba bn bc) bl bl w3 hown3.rd (Rd.below HB.out HB3.out)
        rw [decide_eq_true rfl] at hsb
        clear hown3 hb3 x0 y0 y1 y2 q0 r0 r1 r2
        have HCR3 : Hid _ := C3.below HCR.out HB3.out
        obtain ⟨q0, r0, r1, r2, -⟩ := HCR3.out
        go_wp2_with fail
        refine hsb.mono ?_
        clear hsb
        rintro e w4 ⟨rfl, rfl⟩
        have hbr := HBR.out w4 HB3.out
        rw [HDR.out] at hbr
        go_wp2_with fail
        refine hbr.mono ?_
        clear hbr
        rintro e w5 ⟨v5, rfl, hown5, hb5⟩
        have HB5 : Hid (Below W.heap.size W w5) := below_call HB3.out hb5
        have hbo := HBO.out w5 HB5.out
        rw [HDO.out] at hbo
        have HCO5 : Hid _ := C3.below HCO.out HB5.out
        have HO5 : Hid _ := hown5
        have HRO5 : Hid _ := hown5.rd
        obtain ⟨a5, p5, hv5, -⟩ := id hown5.rd
        obtain ⟨k5, HKK5⟩ := named (frameL (bodyR ⟨rs, rb, rl⟩)).length
        rw [← HKK5.out] at hv5
        subst hv5
        clear hown5 hb5
        clear q0 r0 r1 r2
        obtain ⟨t0, s0, s1, s2, -⟩ := HCO5.out
        go_wp2_with fail
        refine hbo.mono ?_
        clear hbo
        rintro e w6 ⟨v6, rfl, hown6, hb6⟩
        have HB6 : Hid (Below W.heap.size W w6) := below_call HB5.out hb6
        have HO6 : Hid _ := Own.below HO5.out hb6
        have HP6 : Hid _ := hown6
        obtain ⟨a6, p6, hv6, -⟩ := id hown6.rd
        have hz6 : (([] : List UInt8).length) = 0 := rfl
        rw [hz6] at hv6
        subst hv6
        clear hown6 hb6 t0 s0 s1 s2
        have HCR6 : Hid _ := C3.below HCR.out HB6.out
        have HCO6 : Hid _ := C3.below HCO.out HB6.out
        obtain ⟨q0, r0, r1, r2, -⟩ := HCR6.out
        obtain ⟨t0, s0, s1, s2, -⟩ := HCO6.out
        have HB7 : Hid (Below W.heap.size W w6) := HB6.out
        have hpb := parse_any (.slice a5 k5 p5) (frameL (bodyR ⟨rs, rb, rl⟩)) w6 (Own.rd HO6.out) (by have := HLR.out; omega)
        rw [parse_back _ hr1] at hpb
        go_wp2_with fail
        refine hpb.mono ?_
        clear hpb
        rintro e w8 ⟨v8, rfl, hown8, hb8⟩
        obtain ⟨a8, p8, hv8, -⟩ := id hown8.rd
        have hv8' : v8 = .slice a8 rn p8 := by rw [hv8, HRN.out]
        clear hv8
        subst hv8'
        have HB8 : Hid (Below W.heap.size W w8) := below_call HB7.out hb8
        obtain ⟨Y, HY⟩ := named (w8.alloc (Obj.cells #[.int .i64 rs, .int .i64 rb, .slice a8 rn p8] 24))
        have HBY : Hid (Below w8.heap.size w8 Y) := by show Below _ _ _; rw [HY.out]; exact (Below.refl _ _).alloc (Nat.le_refl _) _
        have HCY : Hid (C3 Y w8.heap.size (.int .i64 rs) (.int .i64 rb) (.slice a8 rn p8)) := by show C3 _ _ _ _ _; rw [HY.out]; exact C3.new _ _ _ _ _
        have HB9 : Hid (Below W.heap.size W Y) := below_call HB8.out HBY.out
        have hsr := sameRoot_any ⟨rs, rb, rl⟩ ⟨rs, rb, rl⟩ (.slice a8 rn p8) (.slice ra rn rc) Y (Rd.below (Own.rd hown8) HBY.out) (Rd.below HR.out HB9.out)
        rw [sameR_self] at hsr
        clear hown8 hb8 q0 r0 r1 r2
        have HCR9 : Hid _ := C3.below HCR.out HB9.out
        obtain ⟨q0, r0, r1, r2, -⟩ := HCR9.out
        obtain ⟨x0, y0, y1, y2, -⟩ := HCY.out
        go_wp2_with (rw [← HY.out])
        refine hsr.mono ?_
        clear hsr
        rintro e w10 ⟨rfl, hb10⟩
        go_wp2_with fail
        refine (HAW.out w10 (below_call HB9.out hb10)).mono ?_
        rintro e w11 ⟨rfl, hb11⟩
        go_wp2_with fail
        go_ret
        exact ⟨rfl, hb11⟩
      | true =>
        rw [hr2, if_pos rfl] at HDO
        go_enter Tryd.func9, Tryd.ntmps9
        go_wp2_with fail
        rw [← HW.out]
        refine hpa.mono ?_
        rintro e w1 ⟨v1, rfl, hown1, hb1⟩
        obtain ⟨a1, p1, hv1, -⟩ := id hown1.rd
        obtain ⟨k1, HK1⟩ := named zl.length
        rw [← HK1.out] at hv1
        subst hv1
        obtain ⟨X, HX⟩ := named (w1.alloc (Obj.cells #[.int .i64 zs, .int .i64 zb, .slice a1 k1 p1] 24))
        have HBX : Hid (Below w1.heap.size w1 X) := by show Below _ _ _; rw [HX.out]; exact (Below.refl _ _).alloc (Nat.le_refl _) _
        have HCX : Hid (C3 X w1.heap.size (.int .i64 zs) (.int .i64 zb) (.slice a1 k1 p1)) := by show C3 _ _ _ _ _; rw [HX.out]; exact C3.new _ _ _ _ _
        have HB2 : Hid (Below W.heap.size W X) := below_call hb1 HBX.out
        have HO2 : Hid _ := Own.below hown1 HBX.out
        clear hown1 hb1 hpa q0 r0 r1 r2 t0 s0 s1 s2
        obtain ⟨x0, y0, y1, y2, -⟩ := HCX.out
        have HCR2 : Hid _ := C3.below HCR.out HB2.out
        obtain ⟨q0, r0, r1, r2, -⟩ := HCR2.out
        have hby := bytes_any zs zb (.slice a1 k1 p1) zl X (Own.rd HO2.out) (by have := HZL.out; omega)
        rw [HBZ.out] at hby
        go_wp2_with (rw [← HX.out])
        refine hby.mono ?_
        clear hby
        rintro e w3 ⟨v3, rfl, hown3, hb3⟩
        have HB3 : Hid (Below W.heap.size W w3) := below_call HB2.out hb3
        obtain ⟨a3, p3, hv3, -⟩ := id hown3.rd
        rw [← HBN.out] at hv3
        subst hv3
        have hsb := same_any (.slice a3 bn p3) (.slice ba bn bc) bl bl w3 hown3.rd (Rd.below HB.out HB3.out)
        rw [decide_eq_true rfl] at hsb
        clear hown3 hb3 x0 y0 y1 y2 q0 r0 r1 r2
        have HCR3 : Hid _ := C3.below HCR.out HB3.out
        obtain ⟨q0, r0, r1, r2, -⟩ := HCR3.out
        go_wp2_with fail
        refine hsb.mono ?_
        clear hsb
        rintro e w4 ⟨rfl, rfl⟩
        have hbr := HBR.out w4 HB3.out
        rw [HDR.out] at hbr
        go_wp2_with fail
        refine hbr.mono ?_
        clear hbr
        rintro e w5 ⟨v5, rfl, hown5, hb5⟩
        have HB5 : Hid (Below W.heap.size W w5) := below_call HB3.out hb5
        have hbo := HBO.out w5 HB5.out
        rw [HDO.out] at hbo
        have HCO5 : Hid _ := C3.below HCO.out HB5.out
        have HO5 : Hid _ := hown5
        have HRO5 : Hid _ := hown5.rd
        obtain ⟨a5, p5, hv5, -⟩ := id hown5.rd
        obtain ⟨k5, HKK5⟩ := named (frameL (bodyR ⟨rs, rb, rl⟩)).length
        rw [← HKK5.out] at hv5
        subst hv5
        clear hown5 hb5
        clear q0 r0 r1 r2
        obtain ⟨t0, s0, s1, s2, -⟩ := HCO5.out
        go_wp2_with fail
        refine hbo.mono ?_
        clear hbo
        rintro e w6 ⟨v6, rfl, hown6, hb6⟩
        have HB6 : Hid (Below W.heap.size W w6) := below_call HB5.out hb6
        have HO6 : Hid _ := Own.below HO5.out hb6
        have HP6 : Hid _ := hown6
        obtain ⟨a6, p6, hv6, -⟩ := id hown6.rd
        obtain ⟨k6, HKK6⟩ := named (frameL (bodyR ⟨os, ob, ol⟩)).length
        rw [← HKK6.out] at hv6
        subst hv6
        clear hown6 hb6 t0 s0 s1 s2
        have HCR6 : Hid _ := C3.below HCR.out HB6.out
        have HCO6 : Hid _ := C3.below HCO.out HB6.out
        obtain ⟨q0, r0, r1, r2, -⟩ := HCR6.out
        obtain ⟨t0, s0, s1, s2, -⟩ := HCO6.out
        have hsq := sameRoot_any ⟨rs, rb, rl⟩ ⟨os, ob, ol⟩ (.slice ra rn rc) (.slice oa on oc) w6 (Rd.below HR.out HB6.out) (Rd.below HO.out HB6.out)
        rw [← back_same _ _ hr1 hr2] at hsq
        go_wp2_with fail
        refine hsq.mono ?_
        clear hsq
        rintro e w7 ⟨rfl, hb7⟩
        have HB7 : Hid (Below W.heap.size W w7) := below_call HB6.out hb7
        have hsb := same_any (.slice a5 k5 p5) (.slice a6 k6 p6) _ _ w7 (Rd.below (Own.rd HO6.out) hb7) (Rd.below (Own.rd HP6.out) hb7)
        have hpb := parse_any (.slice a5 k5 p5) (frameL (bodyR ⟨rs, rb, rl⟩)) w7 (Rd.below (Own.rd HO6.out) hb7) (by have := HLR.out; omega)
        rw [parse_back _ hr1] at hpb
        clear hb7
        obtain ⟨bq, HBQ⟩ := named (decide (frameL (bodyR ⟨rs, rb, rl⟩) = frameL (bodyR ⟨os, ob, ol⟩)))
        rw [← HBQ.out] at hsb
        rw [← HBQ.out]
        go_wp2_with fail
        refine hsb.mono ?_
        clear hsb
        rintro e w8' ⟨rfl, rfl⟩
        clear q0 r0 r1 r2 t0 s0 s1 s2
        have HCR7 : Hid _ := C3.below HCR.out HB7.out
        obtain ⟨q0, r0, r1, r2, -⟩ := HCR7.out
        have hbq : (bq != bq) = false := by simp
        go_wp2_with fail
        refine hpb.mono ?_
        clear hpb
        rintro e w8 ⟨v8, rfl, hown8, hb8⟩
        obtain ⟨a8, p8, hv8, -⟩ := id hown8.rd
        have hv8' : v8 = .slice a8 rn p8 := by rw [hv8, HRN.out]
        clear hv8
        subst hv8'
        have HB8 : Hid (Below W.heap.size W w8) := below_call HB7.out hb8
        obtain ⟨Y, HY⟩ := named (w8.alloc (Obj.cells #[.int .i64 rs, .int .i64 rb, .slice a8 rn p8] 24))
        have HBY : Hid (Below w8.heap.size w8 Y) := by show Below _ _ _; rw [HY.out]; exact (Below.refl _ _).alloc (Nat.le_refl _) _
        have HCY : Hid (C3 Y w8.heap.size (.int .i64 rs) (.int .i64 rb) (.slice a8 rn p8)) := by show C3 _ _ _ _ _; rw [HY.out]; exact C3.new _ _ _ _ _
        have HB9 : Hid (Below W.heap.size W Y) := below_call HB8.out HBY.out
        have hsr := sameRoot_any ⟨rs, rb, rl⟩ ⟨rs, rb, rl⟩ (.slice a8 rn p8) (.slice ra rn rc) Y (Rd.below (Own.rd hown8) HBY.out) (Rd.below HR.out HB9.out)
        rw [sameR_self] at hsr
        clear hown8 hb8 q0 r0 r1 r2
        have HCR9 : Hid _ := C3.below HCR.out HB9.out
        obtain ⟨q0, r0, r1, r2, -⟩ := HCR9.out
        obtain ⟨x0, y0, y1, y2, -⟩ := HCY.out
        go_wp2_with (rw [← HY.out])
        refine hsr.mono ?_
        clear hsr
        rintro e w10 ⟨rfl, hb10⟩
        go_wp2_with fail
        refine (HAW.out w10 (below_call HB9.out hb10)).mono ?_
        rintro e w11 ⟨rfl, hb11⟩
        go_wp2_with fail
        go_ret
        exact ⟨rfl, hb11⟩
  · have hzx : ((zx : Int) == 0) = false := by simp only [beq_eq_false_iff_ne]; omega
    cases hr1 : isR ⟨rs, rb, rl⟩ with
    | false =>
      rw [hr1, if_neg (by simp)] at HDR
      cases hr2 : isR ⟨os, ob, ol⟩ with
      | false =>
        rw [hr2, if_neg (by simp)] at HDO
        go_enter Tryd.func9, Tryd.ntmps9
        go_wp2_with fail
        rw [← HW.out]
        refine hpa.mono ?_
        rintro e w1 ⟨v1, rfl, hown1, hb1⟩
        obtain ⟨a1, p1, hv1, -⟩ := id hown1.rd
        obtain ⟨k1, HK1⟩ := named zl.length
        rw [← HK1.out] at hv1
        subst hv1
        obtain ⟨X, HX⟩ := named (w1.alloc (Obj.cells #[.int .i64 zs, .int .i64 zb, .slice a1 k1 p1] 24))
        have HBX : Hid (Below w1.heap.size w1 X) := by show Below _ _ _; rw [HX.out]; exact (Below.refl _ _).alloc (Nat.le_refl _) _
        have HCX : Hid (C3 X w1.heap.size (.int .i64 zs) (.int .i64 zb) (.slice a1 k1 p1)) := by show C3 _ _ _ _ _; rw [HX.out]; exact C3.new _ _ _ _ _
        have HB2 : Hid (Below W.heap.size W X) := below_call hb1 HBX.out
        have HO2 : Hid _ := Own.below hown1 HBX.out
        clear hown1 hb1 hpa q0 r0 r1 r2 t0 s0 s1 s2
        obtain ⟨x0, y0, y1, y2, -⟩ := HCX.out
        have HCR2 : Hid _ := C3.below HCR.out HB2.out
        obtain ⟨q0, r0, r1, r2, -⟩ := HCR2.out
        have HB3 : Hid (Below W.heap.size W X) := HB2.out
        have hbr := HBR.out X HB3.out
        rw [HDR.out] at hbr
        go_wp2_with (rw [← HX.out])
        refine hbr.mono ?_
        clear hbr
        rintro e w5 ⟨v5, rfl, hown5, hb5⟩
        have HB5 : Hid (Below W.heap.size W w5) := below_call HB3.out hb5
        have hbo := HBO.out w5 HB5.out
        rw [HDO.out] at hbo
        have HCO5 : Hid _ := C3.below HCO.out HB5.out
        have HO5 : Hid _ := hown5
        have HRO5 : Hid _ := hown5.rd
        obtain ⟨a5, p5, hv5, -⟩ := id hown5.rd
        have hz5 : (([] : List UInt8).length) = 0 := rfl
        rw [hz5] at hv5
        subst hv5
        clear hown5 hb5
        clear q0 r0 r1 r2
        obtain ⟨t0, s0, s1, s2, -⟩ := HCO5.out
        go_wp2_with fail
        refine hbo.mono ?_
        clear hbo
        rintro e w6 ⟨v6, rfl, hown6, hb6⟩
        have HB6 : Hid (Below W.heap.size W w6) := below_call HB5.out hb6
        have HO6 : Hid _ := Own.below HO5.out hb6
        have HP6 : Hid _ := hown6
        obtain ⟨a6, p6, hv6, -⟩ := id hown6.rd
        have hz6 : (([] : List UInt8).length) = 0 := rfl
        rw [hz6] at hv6
        subst hv6
        clear hown6 hb6 t0 s0 s1 s2
        have HCR6 : Hid _ := C3.below HCR.out HB6.out
        have HCO6 : Hid _ := C3.below HCO.out HB6.out
        obtain ⟨q0, r0, r1, r2, -⟩ := HCR6.out
        obtain ⟨t0, s0, s1, s2, -⟩ := HCO6.out
        go_wp2_with fail
        refine (HAW.out w6 HB6.out).mono ?_
        rintro e w7 ⟨rfl, hb7⟩
        go_wp2_with fail
        go_ret
        exact ⟨rfl, hb7⟩
      | true =>
        rw [hr2, if_pos rfl] at HDO
        go_enter Tryd.func9, Tryd.ntmps9
        go_wp2_with fail
        rw [← HW.out]
        refine hpa.mono ?_
        rintro e w1 ⟨v1, rfl, hown1, hb1⟩
        obtain ⟨a1, p1, hv1, -⟩ := id hown1.rd
        obtain ⟨k1, HK1⟩ := named zl.length
        rw [← HK1.out] at hv1
        subst hv1
        obtain ⟨X, HX⟩ := named (w1.alloc (Obj.cells #[.int .i64 zs, .int .i64 zb, .slice a1 k1 p1] 24))
        have HBX : Hid (Below w1.heap.size w1 X) := by show Below _ _ _; rw [HX.out]; exact (Below.refl _ _).alloc (Nat.le_refl _) _
        have HCX : Hid (C3 X w1.heap.size (.int .i64 zs) (.int .i64 zb) (.slice a1 k1 p1)) := by show C3 _ _ _ _ _; rw [HX.out]; exact C3.new _ _ _ _ _
        have HB2 : Hid (Below W.heap.size W X) := below_call hb1 HBX.out
        have HO2 : Hid _ := Own.below hown1 HBX.out
        clear hown1 hb1 hpa q0 r0 r1 r2 t0 s0 s1 s2
        obtain ⟨x0, y0, y1, y2, -⟩ := HCX.out
        have HCR2 : Hid _ := C3.below HCR.out HB2.out
        obtain ⟨q0, r0, r1, r2, -⟩ := HCR2.out
        have HB3 : Hid (Below W.heap.size W X) := HB2.out
        have hbr := HBR.out X HB3.out
        rw [HDR.out] at hbr
        go_wp2_with (rw [← HX.out])
        refine hbr.mono ?_
        clear hbr
        rintro e w5 ⟨v5, rfl, hown5, hb5⟩
        have HB5 : Hid (Below W.heap.size W w5) := below_call HB3.out hb5
        have hbo := HBO.out w5 HB5.out
        rw [HDO.out] at hbo
        have HCO5 : Hid _ := C3.below HCO.out HB5.out
        have HO5 : Hid _ := hown5
        have HRO5 : Hid _ := hown5.rd
        obtain ⟨a5, p5, hv5, -⟩ := id hown5.rd
        have hz5 : (([] : List UInt8).length) = 0 := rfl
        rw [hz5] at hv5
        subst hv5
        clear hown5 hb5
        clear q0 r0 r1 r2
        obtain ⟨t0, s0, s1, s2, -⟩ := HCO5.out
        go_wp2_with fail
        refine hbo.mono ?_
        clear hbo
        rintro e w6 ⟨v6, rfl, hown6, hb6⟩
        have HB6 : Hid (Below W.heap.size W w6) := below_call HB5.out hb6
        have HO6 : Hid _ := Own.below HO5.out hb6
        have HP6 : Hid _ := hown6
        obtain ⟨a6, p6, hv6, -⟩ := id hown6.rd
        obtain ⟨k6, HKK6⟩ := named (frameL (bodyR ⟨os, ob, ol⟩)).length
        rw [← HKK6.out] at hv6
        subst hv6
        clear hown6 hb6 t0 s0 s1 s2
        have HCR6 : Hid _ := C3.below HCR.out HB6.out
        have HCO6 : Hid _ := C3.below HCO.out HB6.out
        obtain ⟨q0, r0, r1, r2, -⟩ := HCR6.out
        obtain ⟨t0, s0, s1, s2, -⟩ := HCO6.out
        go_wp2_with fail
        refine (HAW.out w6 HB6.out).mono ?_
        rintro e w7 ⟨rfl, hb7⟩
        go_wp2_with fail
        go_ret
        exact ⟨rfl, hb7⟩
    | true =>
      rw [hr1, if_pos rfl] at HDR
      cases hr2 : isR ⟨os, ob, ol⟩ with
      | false =>
        rw [hr2, if_neg (by simp)] at HDO
        go_enter Tryd.func9, Tryd.ntmps9
        go_wp2_with fail
        rw [← HW.out]
        refine hpa.mono ?_
        rintro e w1 ⟨v1, rfl, hown1, hb1⟩
        obtain ⟨a1, p1, hv1, -⟩ := id hown1.rd
        obtain ⟨k1, HK1⟩ := named zl.length
        rw [← HK1.out] at hv1
        subst hv1
        obtain ⟨X, HX⟩ := named (w1.alloc (Obj.cells #[.int .i64 zs, .int .i64 zb, .slice a1 k1 p1] 24))
        have HBX : Hid (Below w1.heap.size w1 X) := by show Below _ _ _; rw [HX.out]; exact (Below.refl _ _).alloc (Nat.le_refl _) _
        have HCX : Hid (C3 X w1.heap.size (.int .i64 zs) (.int .i64 zb) (.slice a1 k1 p1)) := by show C3 _ _ _ _ _; rw [HX.out]; exact C3.new _ _ _ _ _
        have HB2 : Hid (Below W.heap.size W X) := below_call hb1 HBX.out
        have HO2 : Hid _ := Own.below hown1 HBX.out
        clear hown1 hb1 hpa q0 r0 r1 r2 t0 s0 s1 s2
        obtain ⟨x0, y0, y1, y2, -⟩ := HCX.out
        have HCR2 : Hid _ := C3.below HCR.out HB2.out
        obtain ⟨q0, r0, r1, r2, -⟩ := HCR2.out
        have HB3 : Hid (Below W.heap.size W X) := HB2.out
        have hbr := HBR.out X HB3.out
        rw [HDR.out] at hbr
        go_wp2_with (rw [← HX.out])
        refine hbr.mono ?_
        clear hbr
        rintro e w5 ⟨v5, rfl, hown5, hb5⟩
        have HB5 : Hid (Below W.heap.size W w5) := below_call HB3.out hb5
        have hbo := HBO.out w5 HB5.out
        rw [HDO.out] at hbo
        have HCO5 : Hid _ := C3.below HCO.out HB5.out
        have HO5 : Hid _ := hown5
        have HRO5 : Hid _ := hown5.rd
        obtain ⟨a5, p5, hv5, -⟩ := id hown5.rd
        obtain ⟨k5, HKK5⟩ := named (frameL (bodyR ⟨rs, rb, rl⟩)).length
        rw [← HKK5.out] at hv5
        subst hv5
        clear hown5 hb5
        clear q0 r0 r1 r2
        obtain ⟨t0, s0, s1, s2, -⟩ := HCO5.out
        go_wp2_with fail
        refine hbo.mono ?_
        clear hbo
        rintro e w6 ⟨v6, rfl, hown6, hb6⟩
        have HB6 : Hid (Below W.heap.size W w6) := below_call HB5.out hb6
        have HO6 : Hid _ := Own.below HO5.out hb6
        have HP6 : Hid _ := hown6
        obtain ⟨a6, p6, hv6, -⟩ := id hown6.rd
        have hz6 : (([] : List UInt8).length) = 0 := rfl
        rw [hz6] at hv6
        subst hv6
        clear hown6 hb6 t0 s0 s1 s2
        have HCR6 : Hid _ := C3.below HCR.out HB6.out
        have HCO6 : Hid _ := C3.below HCO.out HB6.out
        obtain ⟨q0, r0, r1, r2, -⟩ := HCR6.out
        obtain ⟨t0, s0, s1, s2, -⟩ := HCO6.out
        have HB7 : Hid (Below W.heap.size W w6) := HB6.out
        have hpb := parse_any (.slice a5 k5 p5) (frameL (bodyR ⟨rs, rb, rl⟩)) w6 (Own.rd HO6.out) (by have := HLR.out; omega)
        rw [parse_back _ hr1] at hpb
        go_wp2_with fail
        refine hpb.mono ?_
        clear hpb
        rintro e w8 ⟨v8, rfl, hown8, hb8⟩
        obtain ⟨a8, p8, hv8, -⟩ := id hown8.rd
        have hv8' : v8 = .slice a8 rn p8 := by rw [hv8, HRN.out]
        clear hv8
        subst hv8'
        have HB8 : Hid (Below W.heap.size W w8) := below_call HB7.out hb8
        obtain ⟨Y, HY⟩ := named (w8.alloc (Obj.cells #[.int .i64 rs, .int .i64 rb, .slice a8 rn p8] 24))
        have HBY : Hid (Below w8.heap.size w8 Y) := by show Below _ _ _; rw [HY.out]; exact (Below.refl _ _).alloc (Nat.le_refl _) _
        have HCY : Hid (C3 Y w8.heap.size (.int .i64 rs) (.int .i64 rb) (.slice a8 rn p8)) := by show C3 _ _ _ _ _; rw [HY.out]; exact C3.new _ _ _ _ _
        have HB9 : Hid (Below W.heap.size W Y) := below_call HB8.out HBY.out
        have hsr := sameRoot_any ⟨rs, rb, rl⟩ ⟨rs, rb, rl⟩ (.slice a8 rn p8) (.slice ra rn rc) Y (Rd.below (Own.rd hown8) HBY.out) (Rd.below HR.out HB9.out)
        rw [sameR_self] at hsr
        clear hown8 hb8 q0 r0 r1 r2
        have HCR9 : Hid _ := C3.below HCR.out HB9.out
        obtain ⟨q0, r0, r1, r2, -⟩ := HCR9.out
        obtain ⟨x0, y0, y1, y2, -⟩ := HCY.out
        go_wp2_with (rw [← HY.out])
        refine hsr.mono ?_
        clear hsr
        rintro e w10 ⟨rfl, hb10⟩
        go_wp2_with fail
        refine (HAW.out w10 (below_call HB9.out hb10)).mono ?_
        rintro e w11 ⟨rfl, hb11⟩
        go_wp2_with fail
        go_ret
        exact ⟨rfl, hb11⟩
      | true =>
        rw [hr2, if_pos rfl] at HDO
        go_enter Tryd.func9, Tryd.ntmps9
        go_wp2_with fail
        rw [← HW.out]
        refine hpa.mono ?_
        rintro e w1 ⟨v1, rfl, hown1, hb1⟩
        obtain ⟨a1, p1, hv1, -⟩ := id hown1.rd
        obtain ⟨k1, HK1⟩ := named zl.length
        rw [← HK1.out] at hv1
        subst hv1
        obtain ⟨X, HX⟩ := named (w1.alloc (Obj.cells #[.int .i64 zs, .int .i64 zb, .slice a1 k1 p1] 24))
        have HBX : Hid (Below w1.heap.size w1 X) := by show Below _ _ _; rw [HX.out]; exact (Below.refl _ _).alloc (Nat.le_refl _) _
        have HCX : Hid (C3 X w1.heap.size (.int .i64 zs) (.int .i64 zb) (.slice a1 k1 p1)) := by show C3 _ _ _ _ _; rw [HX.out]; exact C3.new _ _ _ _ _
        have HB2 : Hid (Below W.heap.size W X) := below_call hb1 HBX.out
        have HO2 : Hid _ := Own.below hown1 HBX.out
        clear hown1 hb1 hpa q0 r0 r1 r2 t0 s0 s1 s2
        obtain ⟨x0, y0, y1, y2, -⟩ := HCX.out
        have HCR2 : Hid _ := C3.below HCR.out HB2.out
        obtain ⟨q0, r0, r1, r2, -⟩ := HCR2.out
        have HB3 : Hid (Below W.heap.size W X) := HB2.out
        have hbr := HBR.out X HB3.out
        rw [HDR.out] at hbr
        go_wp2_with (rw [← HX.out])
        refine hbr.mono ?_
        clear hbr
        rintro e w5 ⟨v5, rfl, hown5, hb5⟩
        have HB5 : Hid (Below W.heap.size W w5) := below_call HB3.out hb5
        have hbo := HBO.out w5 HB5.out
        rw [HDO.out] at hbo
        have HCO5 : Hid _ := C3.below HCO.out HB5.out
        have HO5 : Hid _ := hown5
        have HRO5 : Hid _ := hown5.rd
        obtain ⟨a5, p5, hv5, -⟩ := id hown5.rd
        obtain ⟨k5, HKK5⟩ := named (frameL (bodyR ⟨rs, rb, rl⟩)).length
        rw [← HKK5.out] at hv5
        subst hv5
        clear hown5 hb5
        clear q0 r0 r1 r2
        obtain ⟨t0, s0, s1, s2, -⟩ := HCO5.out
        go_wp2_with fail
        refine hbo.mono ?_
        clear hbo
        rintro e w6 ⟨v6, rfl, hown6, hb6⟩
        have HB6 : Hid (Below W.heap.size W w6) := below_call HB5.out hb6
        have HO6 : Hid _ := Own.below HO5.out hb6
        have HP6 : Hid _ := hown6
        obtain ⟨a6, p6, hv6, -⟩ := id hown6.rd
        obtain ⟨k6, HKK6⟩ := named (frameL (bodyR ⟨os, ob, ol⟩)).length
        rw [← HKK6.out] at hv6
        subst hv6
        clear hown6 hb6 t0 s0 s1 s2
        have HCR6 : Hid _ := C3.below HCR.out HB6.out
        have HCO6 : Hid _ := C3.below HCO.out HB6.out
        obtain ⟨q0, r0, r1, r2, -⟩ := HCR6.out
        obtain ⟨t0, s0, s1, s2, -⟩ := HCO6.out
        have hsq := sameRoot_any ⟨rs, rb, rl⟩ ⟨os, ob, ol⟩ (.slice ra rn rc) (.slice oa on oc) w6 (Rd.below HR.out HB6.out) (Rd.below HO.out HB6.out)
        rw [← back_same _ _ hr1 hr2] at hsq
        go_wp2_with fail
        refine hsq.mono ?_
        clear hsq
        rintro e w7 ⟨rfl, hb7⟩
        have HB7 : Hid (Below W.heap.size W w7) := below_call HB6.out hb7
        have hsb := same_any (.slice a5 k5 p5) (.slice a6 k6 p6) _ _ w7 (Rd.below (Own.rd HO6.out) hb7) (Rd.below (Own.rd HP6.out) hb7)
        have hpb := parse_any (.slice a5 k5 p5) (frameL (bodyR ⟨rs, rb, rl⟩)) w7 (Rd.below (Own.rd HO6.out) hb7) (by have := HLR.out; omega)
        rw [parse_back _ hr1] at hpb
        clear hb7
        obtain ⟨bq, HBQ⟩ := named (decide (frameL (bodyR ⟨rs, rb, rl⟩) = frameL (bodyR ⟨os, ob, ol⟩)))
        rw [← HBQ.out] at hsb
        rw [← HBQ.out]
        go_wp2_with fail
        refine hsb.mono ?_
        clear hsb
        rintro e w8' ⟨rfl, rfl⟩
        clear q0 r0 r1 r2 t0 s0 s1 s2
        have HCR7 : Hid _ := C3.below HCR.out HB7.out
        obtain ⟨q0, r0, r1, r2, -⟩ := HCR7.out
        have hbq : (bq != bq) = false := by simp
        go_wp2_with fail
        refine hpb.mono ?_
        clear hpb
        rintro e w8 ⟨v8, rfl, hown8, hb8⟩
        obtain ⟨a8, p8, hv8, -⟩ := id hown8.rd
        have hv8' : v8 = .slice a8 rn p8 := by rw [hv8, HRN.out]
        clear hv8
        subst hv8'
        have HB8 : Hid (Below W.heap.size W w8) := below_call HB7.out hb8
        obtain ⟨Y, HY⟩ := named (w8.alloc (Obj.cells #[.int .i64 rs, .int .i64 rb, .slice a8 rn p8] 24))
        have HBY : Hid (Below w8.heap.size w8 Y) := by show Below _ _ _; rw [HY.out]; exact (Below.refl _ _).alloc (Nat.le_refl _) _
        have HCY : Hid (C3 Y w8.heap.size (.int .i64 rs) (.int .i64 rb) (.slice a8 rn p8)) := by show C3 _ _ _ _ _; rw [HY.out]; exact C3.new _ _ _ _ _
        have HB9 : Hid (Below W.heap.size W Y) := below_call HB8.out HBY.out
        have hsr := sameRoot_any ⟨rs, rb, rl⟩ ⟨rs, rb, rl⟩ (.slice a8 rn p8) (.slice ra rn rc) Y (Rd.below (Own.rd hown8) HBY.out) (Rd.below HR.out HB9.out)
        rw [sameR_self] at hsr
        clear hown8 hb8 q0 r0 r1 r2
        have HCR9 : Hid _ := C3.below HCR.out HB9.out
        obtain ⟨q0, r0, r1, r2, -⟩ := HCR9.out
        obtain ⟨x0, y0, y1, y2, -⟩ := HCY.out
        go_wp2_with (rw [← HY.out])
        refine hsr.mono ?_
        clear hsr
        rintro e w10 ⟨rfl, hb10⟩
        go_wp2_with fail
        refine (HAW.out w10 (below_call HB9.out hb10)).mono ?_
        rintro e w11 ⟨rfl, hb11⟩
        go_wp2_with fail
        go_ret
        exact ⟨rfl, hb11⟩
end Go.Proofs.YtffgbjojngnebaaDoor
