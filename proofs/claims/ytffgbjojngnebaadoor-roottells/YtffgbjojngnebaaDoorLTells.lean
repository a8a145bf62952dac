/-
  RootTells answers true, whatever is handed in. Own work.
-/
import Derived.Test.YtffgbjojngnebaaDoorKn
import Derived.Test.YtffgbjojngnebaaDoorKs
namespace Go.Proofs.YtffgbjojngnebaaDoor
open Go.RowKit

set_option maxRecDepth 100000 in
set_option maxHeartbeats 4000000 in
theorem tells_walk (w : World) (hL : Laid w) (rs rb : Int) (rv bv : Value) (rl bl : List UInt8) (hr : Rd w rv rl) (hb : Rd w bv bl) :
    Calls Tryd.prog 4 #[.agg #[.int .i64 rs, .int .i64 rb, rv], bv] w fun e w' => e = .returned (.bool true) ∧ Below w.heap.size w w' := by
  obtain ⟨ra, rc, hrv, -⟩ := id hr
  obtain ⟨rn, HRN⟩ := named rl.length
  rw [← HRN.out] at hrv
  subst hrv
  obtain ⟨ba, bc, hbv, -⟩ := id hb
  obtain ⟨bn, HBN⟩ := named bl.length
  rw [← HBN.out] at hbv
  subst hbv
  obtain ⟨W, HW⟩ := named (w.alloc (Obj.cells #[.int .i64 rs, .int .i64 rb, .slice ra rn rc] 24))
  have HBW : Hid (Below w.heap.size w W) := by show Below _ _ _; rw [HW.out]; exact (Below.refl _ _).alloc (Nat.le_refl _) _
  have HCR : Hid (C3 W w.heap.size (.int .i64 rs) (.int .i64 rb) (.slice ra rn rc)) := by show C3 _ _ _ _ _; rw [HW.out]; exact C3.new _ _ _ _ _
  have HR : Hid (Rd W (.slice ra rn rc) rl) := hr.below HBW.out
  have HB : Hid (Rd W (.slice ba bn bc) bl) := hb.below HBW.out
  have HLW : Hid (Laid W) := hL.below HBW.out
  have HAW : Hid (∀ x, Below W.heap.size W x → Calls Tryd.prog 21 #[] x fun e w' => e = .returned (.bool true) ∧ Below w.heap.size w w') := fun x hx => (awake_true x (HLW.out.below hx)).mono (fun e w' ⟨h1, h2⟩ => ⟨h1, below_call (below_call HBW.out hx) h2⟩)
  clear hr hb hL
  obtain ⟨q0, r0, r1, r2, -⟩ := HCR.out
  by_cases h1 : 500 < rn
  · have h1' : (500 : Int) < rn := by omega
    go_enter Tryd.func4, Tryd.ntmps4
    go_wp2_with fail
    rw [← HW.out]
    refine (HAW.out W (Below.refl _ _)).mono ?_
    rintro e w1 ⟨rfl, hb1⟩
    go_wp2_with fail
    go_ret
    exact ⟨rfl, hb1⟩
  have h1' : ¬ (500 : Int) < rn := by omega
  by_cases h2 : 1000 < bn
  · have h2' : (1000 : Int) < bn := by omega
    go_enter Tryd.func4, Tryd.ntmps4
    go_wp2_with fail
    rw [← HW.out]
    refine (HAW.out W (Below.refl _ _)).mono ?_
    rintro e w1 ⟨rfl, hb1⟩
    go_wp2_with fail
    go_ret
    exact ⟨rfl, hb1⟩
  have h2' : ¬ (1000 : Int) < bn := by omega
  have hby := bytes_any rs rb (.slice ra rn rc) rl W HR.out (by rw [← HRN.out]; omega)
  have HRB : Hid (∀ x, Below W.heap.size W x → Calls Tryd.prog 22 #[.agg #[.int .i64 rs, .int .i64 rb, .slice ra rn rc]] x fun e w' => ∃ v', e = .returned (.tuple #[v', .int .i64 (bytesR ⟨rs, rb, rl⟩).2]) ∧ Own w' x.heap.size v' (bytesR ⟨rs, rb, rl⟩).1 ∧ Below x.heap.size x w') := fun x hx => refBytes_any rs rb (.slice ra rn rc) rl x (Rd.below HR.out hx) (by rw [← HRN.out]; omega)
  have HPA : Hid (∀ x, Below W.heap.size W x → Calls Tryd.prog 11 #[.slice ba bn bc] x fun e w' => ∃ v', e = .returned (.tuple #[.agg #[.int .i64 (parseR bl).1.serial, .int .i64 (parseR bl).1.batch, v'], .int .i64 (parseR bl).2]) ∧ Own w' x.heap.size v' (parseR bl).1.blob ∧ Below x.heap.size x w') := fun x hx => parse_any _ bl x (Rd.below HB.out hx) (by rw [← HBN.out]; omega)
  have HPR : Hid (∀ x, Below W.heap.size W x → Calls Tryd.prog 23 #[.slice ba bn bc] x fun e w' => ∃ v', e = .returned (.tuple #[.agg #[.int .i64 (parseR bl).1.serial, .int .i64 (parseR bl).1.batch, v'], .int .i64 (parseR bl).2]) ∧ Own w' x.heap.size v' (parseR bl).1.blob ∧ Below x.heap.size x w') := fun x hx => refParse_any _ bl x (Rd.below HB.out hx) (by rw [← HBN.out]; omega)
  obtain ⟨Y, HY⟩ := named (bytesR ⟨rs, rb, rl⟩)
  rw [← HY.out] at hby HRB
  obtain ⟨yl, yx⟩ := Y
  obtain ⟨Z, HZ⟩ := named (parseR bl)
  rw [← HZ.out] at HPA HPR
  obtain ⟨⟨zs, zb, zl⟩, zx⟩ := Z
  simp only at hby HRB HPA HPR
  go_enter Tryd.func4, Tryd.ntmps4
  go_wp2_with fail
  rw [← HW.out]
  refine hby.mono ?_
  clear hby
  rintro e w1 ⟨v1, rfl, ho1, hb1⟩
  have HB1 : Hid (Below W.heap.size W w1) := hb1
  have hrb := HRB.out w1 hb1
  have HO1 : Hid _ := ho1
  have HCR1 : Hid _ := C3.below HCR.out hb1
  obtain ⟨a1, p1, hv1, -⟩ := id ho1.rd
  obtain ⟨k1, HK1⟩ := named yl.length
  rw [← HK1.out] at hv1
  subst hv1
  clear ho1 hb1 q0 r0 r1 r2
  obtain ⟨q0, r0, r1, r2, -⟩ := HCR1.out
  go_wp2_with fail
  refine hrb.mono ?_
  clear hrb
  rintro e w2 ⟨v2, rfl, ho2, hb2⟩
  have HB2 : Hid (Below W.heap.size W w2) := below_call HB1.out hb2
  have HO2 : Hid _ := ho2
  have HO12 : Hid _ := Own.below HO1.out hb2
  have hpa := HPA.out w2 HB2.out
  obtain ⟨a2, p2, hv2, -⟩ := id ho2.rd
  rw [← HK1.out] at hv2
  subst hv2
  clear ho2 hb2 q0 r0 r1 r2
  go_wp2_with fail
  refine hpa.mono ?_
  clear hpa
  rintro e w3 ⟨v3, rfl, ho3, hb3⟩
  obtain ⟨a3, p3, hv3, -⟩ := id ho3.rd
  obtain ⟨k3, HK3⟩ := named zl.length
  rw [← HK3.out] at hv3
  subst hv3
  obtain ⟨X, HX⟩ := named (w3.alloc (Obj.cells #[.int .i64 zs, .int .i64 zb, .slice a3 k3 p3] 24))
  have HBX : Hid (Below w3.heap.size w3 X) := by show Below _ _ _; rw [HX.out]; exact (Below.refl _ _).alloc (Nat.le_refl _) _
  have HCX : Hid (C3 X w3.heap.size (.int .i64 zs) (.int .i64 zb) (.slice a3 k3 p3)) := by show C3 _ _ _ _ _; rw [HX.out]; exact C3.new _ _ _ _ _
  have HB2X : Hid (Below w2.heap.size w2 X) := below_call hb3 HBX.out
  have HB3 : Hid (Below W.heap.size W X) := below_call HB2.out HB2X.out
  have HO3 : Hid _ := Own.below ho3 HBX.out
  have hpr := HPR.out X HB3.out
  clear ho3 hb3
  go_wp2_with (rw [← HX.out])
  refine hpr.mono ?_
  clear hpr
  rintro e w4 ⟨v4, rfl, ho4, hb4⟩
  obtain ⟨a4, p4, hv4, -⟩ := id ho4.rd
  rw [← HK3.out] at hv4
  subst hv4
  obtain ⟨V, HV⟩ := named (w4.alloc (Obj.cells #[.int .i64 zs, .int .i64 zb, .slice a4 k3 p4] 24))
  have HBV : Hid (Below w4.heap.size w4 V) := by show Below _ _ _; rw [HV.out]; exact (Below.refl _ _).alloc (Nat.le_refl _) _
  have HCV : Hid (C3 V w4.heap.size (.int .i64 zs) (.int .i64 zb) (.slice a4 k3 p4)) := by show C3 _ _ _ _ _; rw [HV.out]; exact C3.new _ _ _ _ _
  have HXV : Hid (Below X.heap.size X V) := below_call hb4 HBV.out
  have HB4 : Hid (Below W.heap.size W V) := below_call HB3.out HXV.out
  have HCX4 : Hid _ := C3.below HCX.out HXV.out
  have HO4 : Hid _ := Own.below ho4 HBV.out
  have HO34 : Hid _ := Own.below HO3.out HXV.out
  have hsb := same_any (.slice a1 k1 p1) (.slice a2 k1 p2) yl yl V (Rd.below (Own.rd HO12.out) (below_call HB2X.out HXV.out)) (Rd.below (Own.rd HO2.out) (below_call HB2X.out HXV.out))
  rw [decide_eq_true rfl] at hsb
  have hsr := sameRoot_any ⟨zs, zb, zl⟩ ⟨zs, zb, zl⟩ (.slice a3 k3 p3) (.slice a4 k3 p4) V (Own.rd HO34.out) (Own.rd HO4.out)
  rw [sameR_self] at hsr
  simp only at hsr
  clear ho4 hb4
  obtain ⟨x0, y0, y1, y2, -⟩ := HCX4.out
  obtain ⟨g0, c0, c1, c2, -⟩ := HCV.out
  go_wp2_with (rw [← HV.out])
  refine hsb.mono ?_
  clear hsb
  rintro e V' ⟨rfl, rfl⟩
  go_wp2_with fail
  refine hsr.mono ?_
  clear hsr
  rintro e w6 ⟨rfl, hb6⟩
  go_wp2_with fail
  refine (HAW.out w6 (below_call HB4.out hb6)).mono ?_
  rintro e w7 ⟨rfl, hb7⟩
  go_wp2_with fail
  go_ret
  exact ⟨rfl, hb7⟩
end Go.Proofs.YtffgbjojngnebaaDoor
