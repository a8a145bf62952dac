/-
  The contracts of root's Parse, and of SameRoot. Own work.
-/
import Derived.Test.YtffgbjojngnebaaDoorKd
import Derived.Test.YtffgbjojngnebaaDoorQg
namespace Go.Proofs.YtffgbjojngnebaaDoor
open Go.RowKit

set_option maxRecDepth 100000 in
set_option maxHeartbeats 800000 in
theorem parse_any (v : Value) (l : List UInt8) (w : World) (hrd : Rd w v l) (hl : l.length ≤ 140737488355000) :
    Calls Tryd.prog 11 #[v] w fun e w' => ∃ v', e = .returned (.tuple #[.agg #[.int .i64 (parseR l).1.serial, .int .i64 (parseR l).1.batch, v'], .int .i64 (parseR l).2]) ∧ Own w' w.heap.size v' (parseR l).1.blob ∧ Below w.heap.size w w' := by
  obtain ⟨W, HW⟩ := named (w.alloc (Obj.cells #[.int .i64 0, .int .i64 0, .slice none 0 0] 24))
  have HBW : Hid (Below w.heap.size w W) := by show Below _ _ _; rw [HW.out]; exact (Below.refl _ _).alloc (Nat.le_refl _) _
  have HC : Hid (C3 W w.heap.size (.int .i64 0) (.int .i64 0) (.slice none 0 0)) := by show C3 _ _ _ _ _; rw [HW.out]; exact C3.new _ _ _ _ _
  have hrW := hrd.below HBW.out
  have HG : Hid (Calls Tryd.prog 39 #[v, .int .i64 0] W fun e w' => ∃ v, e = .returned (.tuple #[v, .int .i64 (getF l 0).2.1, .int .i64 (getF l 0).2.2]) ∧ Own w' W.heap.size v (getF l 0).1 ∧ Below W.heap.size W w') := get_any v l 0 W hrW hl
  have HR : Hid (parseR l = if (getF l 0).2.2 ≠ 0 ∨ (getF l 0).2.1 ≠ l.length then (noR, 10)
    else if (rootOfL (getF l 0).1).2.2 ≠ 0 ∨ (rootOfL (getF l 0).1).2.1 ≠ (getF l 0).1.length ∨ isR (rootOfL (getF l 0).1).1 = false then (noR, 10)
    else ((rootOfL (getF l 0).1).1, 0)) := rfl
  have HGL : Hid ((getF l 0).2.2 = 0 → (getF l 0).1.length ≤ 1048576) := fun h => (getF_inv l h).2.1
  obtain ⟨G, HGG⟩ := named (getF l 0)
  rw [← HGG.out] at HG HR HGL
  obtain ⟨gl, gp, gx⟩ := G
  simp only at HG HR HGL
  obtain ⟨Z, HZZ⟩ := named (rootOfL gl)
  rw [← HZZ.out] at HR
  have HRO : Hid (∀ (u : Value) (x : World), Rd x u gl → gl.length ≤ 1048576 → Calls Tryd.prog 40 #[u] x fun e w' => ∃ v', e = .returned (.tuple #[.agg #[.int .i64 Z.1.serial, .int .i64 Z.1.batch, v'], .int .i64 Z.2.1, .int .i64 Z.2.2]) ∧ Own w' x.heap.size v' Z.1.blob ∧ Below x.heap.size x w') := by
    intro u x hu hul
    rw [HZZ.out]
    exact rootOf_any u gl x hu (by omega)
  obtain ⟨⟨zs, zb, zl⟩, zp, zx⟩ := Z
  simp only at HRO HR
  obtain ⟨ao, cap, hv, -⟩ := id hrd
  obtain ⟨n, HN⟩ := named l.length
  rw [← HN.out] at hv
  rw [← HN.out] at HR
  subst hv
  clear hrd hrW hl
  obtain ⟨g0, c0, c1, c2, f0, f1, f2⟩ := HC.out
  by_cases hx : gx = 0
  · subst hx
    have HL : Hid _ := HGL.out rfl
    by_cases hp : gp = n
    · have hp1 : ((gp : Int) == n) = true := by simp only [beq_iff_eq]; omega
      have hp2 : ((gp : Int) != n) = false := by simp only [bne_eq_false_iff_eq]; omega
      rw [if_neg (by simp [hp])] at HR
      obtain ⟨k, HK⟩ := named gl.length
      rw [← HK.out] at HR
      by_cases hzx : zx = 0
      · subst hzx
        by_cases hzp : zp = k
        · have hz1 : ((zp : Int) == k) = true := by simp only [beq_iff_eq]; omega
          have hz2 : ((zp : Int) != k) = false := by simp only [bne_eq_false_iff_eq]; omega
          cases hr : isRt zs zb zl.length with
          | true =>
            rw [if_neg (by simp [hzp, isR, hr])] at HR
            go_enter Tryd.func11, Tryd.ntmps11
            go_wp2_with fail
            rw [← HW.out]
            refine Calls.mono HG.out ?_
            rintro e w1 ⟨v1, rfl, ho, hb⟩
            obtain ⟨a1, p1, hv1, -⟩ := id ho.rd
            rw [← HK.out] at hv1
            subst hv1
            have hro := HRO.out _ w1 ho.rd HL.out
            have HB : Hid _ := below_call HBW.out hb
            have HC1 : Hid _ := C3.below HC.out hb
            clear c0 c1 c2 f0 f1 f2 g0 ho hb
            go_wp2_with fail
            refine hro.mono ?_
            clear hro
            rintro e w2 ⟨v2, rfl, ho2, hb2⟩
            obtain ⟨a2, p2, hv2, -⟩ := id ho2.rd
            obtain ⟨k2, HK2⟩ := named zl.length
            rw [← HK2.out] at hv2 hr
            subst hv2
            obtain ⟨X, HX⟩ := named (w2.alloc (Obj.cells #[.int .i64 zs, .int .i64 zb, .slice a2 k2 p2] 24))
            have HBX : Hid (Below w2.heap.size w2 X) := by show Below _ _ _; rw [HX.out]; exact (Below.refl _ _).alloc (Nat.le_refl _) _
            have HCX : Hid (C3 X w2.heap.size (.int .i64 zs) (.int .i64 zb) (.slice a2 k2 p2)) := by show C3 _ _ _ _ _; rw [HX.out]; exact C3.new _ _ _ _ _
            have hir := isRight_any zs zb a2 k2 p2 X
            rw [hr] at hir
            have HB2 : Hid _ := below_call (below_call HB.out hb2) HBX.out
            have HC2 : Hid _ := C3.below (C3.below HC1.out hb2) HBX.out
            obtain ⟨x0, y0, y1, y2, -⟩ := HCX.out
            have HO2 : Hid _ := Own.below ho2 HBX.out
            clear ho2 hb2
            go_wp2_with fail
            rw [← HX.out]
            refine hir.mono ?_
            clear hir
            rintro e w3 ⟨rfl, hb3⟩
            have HCX3 : Hid _ := C3.below HCX.out hb3
            clear x0 y0 y1 y2
            obtain ⟨x0, y0, y1, y2, -⟩ := HCX3.out
            have HB3 : Hid _ := below_call HB2.out hb3
            have HC3 : Hid _ := C3.below HC2.out hb3
            have HO3 : Hid _ := Own.below HO2.out hb3
            have HLT : Hid (w.heap.size < w1.heap.size) := HC1.out.1
            clear hb3
            obtain ⟨g0, c0, c1, c2, f0, f1, f2⟩ := HC3.out
            go_wp2_with fail
            refine bodyPost_ret (v := .tuple #[.agg #[.int .i64 zs, .int .i64 zb, .slice a2 k2 p2], .int .i64 0]) (by simp [results, Tryd.results11, go_sem, c0, c1, c2]) rfl ?_
            rw [HR.out]
            exact ⟨_, rfl, (Own.set3 _ _ _ HO3.out HLT.out).mono (Nat.le_of_lt HLT.out), below_set3 HB3.out _ _ _ (Nat.le_refl _)⟩
          | false =>
            rw [if_pos (by simp [isR, hr])] at HR
            go_enter Tryd.func11, Tryd.ntmps11
            go_wp2_with fail
            rw [← HW.out]
            refine Calls.mono HG.out ?_
            rintro e w1 ⟨v1, rfl, ho, hb⟩
            obtain ⟨a1, p1, hv1, -⟩ := id ho.rd
            rw [← HK.out] at hv1
            subst hv1
            have hro := HRO.out _ w1 ho.rd HL.out
            have HB : Hid _ := below_call HBW.out hb
            have HC1 : Hid _ := C3.below HC.out hb
            clear c0 c1 c2 f0 f1 f2 g0 ho hb
            go_wp2_with fail
            refine hro.mono ?_
            clear hro
            rintro e w2 ⟨v2, rfl, ho2, hb2⟩
            obtain ⟨a2, p2, hv2, -⟩ := id ho2.rd
            obtain ⟨k2, HK2⟩ := named zl.length
            rw [← HK2.out] at hv2 hr
            subst hv2
            obtain ⟨X, HX⟩ := named (w2.alloc (Obj.cells #[.int .i64 zs, .int .i64 zb, .slice a2 k2 p2] 24))
            have HBX : Hid (Below w2.heap.size w2 X) := by show Below _ _ _; rw [HX.out]; exact (Below.refl _ _).alloc (Nat.le_refl _) _
            have HCX : Hid (C3 X w2.heap.size (.int .i64 zs) (.int .i64 zb) (.slice a2 k2 p2)) := by show C3 _ _ _ _ _; rw [HX.out]; exact C3.new _ _ _ _ _
            have hir := isRight_any zs zb a2 k2 p2 X
            rw [hr] at hir
            have HB2 : Hid _ := below_call (below_call HB.out hb2) HBX.out
            have HC2 : Hid _ := C3.below (C3.below HC1.out hb2) HBX.out
            obtain ⟨x0, y0, y1, y2, -⟩ := HCX.out
            clear ho2 hb2
            go_wp2_with fail
            rw [← HX.out]
            refine hir.mono ?_
            clear hir
            rintro e w3 ⟨rfl, hb3⟩
            have HCX3 : Hid _ := C3.below HCX.out hb3
            clear x0 y0 y1 y2
            obtain ⟨x0, y0, y1, y2, -⟩ := HCX3.out
            have HB3 : Hid _ := below_call HB2.out hb3
            have HC3 : Hid _ := C3.below HC2.out hb3
            clear hb3
            obtain ⟨g0, c0, c1, c2, f0, f1, f2⟩ := HC3.out
            go_wp2_with fail
            refine bodyPost_ret (v := .tuple #[.agg #[.int .i64 0, .int .i64 0, .slice none 0 0], .int .i64 10]) (by simp [results, Tryd.results11, go_sem, c0, c1, c2]) rfl ?_
            rw [HR.out]
            exact ⟨_, rfl, Own.nil _ _, by first | exact HB3.out | exact below_set3 HB3.out _ _ _ (Nat.le_refl _)⟩
        · have hz1 : ((zp : Int) == k) = false := by simp only [beq_eq_false_iff_ne]; omega
          have hz2 : ((zp : Int) != k) = true := by simp only [bne_iff_ne]; omega
          rw [if_pos (by simp [hzp])] at HR
          go_enter Tryd.func11, Tryd.ntmps11
          go_wp2_with fail
          rw [← HW.out]
          refine Calls.mono HG.out ?_
          rintro e w1 ⟨v1, rfl, ho, hb⟩
          obtain ⟨a1, p1, hv1, -⟩ := id ho.rd
          rw [← HK.out] at hv1
          subst hv1
          have hro := HRO.out _ w1 ho.rd HL.out
          have HB : Hid _ := below_call HBW.out hb
          have HC1 : Hid _ := C3.below HC.out hb
          clear c0 c1 c2 f0 f1 f2 g0 ho hb
          go_wp2_with fail
          refine hro.mono ?_
          clear hro
          rintro e w2 ⟨v2, rfl, ho2, hb2⟩
          obtain ⟨a2, p2, hv2, -⟩ := id ho2.rd
          obtain ⟨k2, HK2⟩ := named zl.length
          rw [← HK2.out] at hv2
          subst hv2
          have HBX : Hid (Below w2.heap.size w2 (w2.alloc (Obj.cells #[.int .i64 zs, .int .i64 zb, .slice a2 k2 p2] 24))) := (Below.refl _ _).alloc (Nat.le_refl _) _
          have HB3 : Hid _ := below_call (below_call HB.out hb2) HBX.out
          have HC3 : Hid _ := C3.below (C3.below HC1.out hb2) HBX.out
          clear ho2 hb2
          obtain ⟨g0, c0, c1, c2, f0, f1, f2⟩ := HC3.out
          go_wp2_with fail
          refine bodyPost_ret (v := .tuple #[.agg #[.int .i64 0, .int .i64 0, .slice none 0 0], .int .i64 10]) (by simp [results, Tryd.results11, go_sem, c0, c1, c2]) rfl ?_
          rw [HR.out]
          exact ⟨_, rfl, Own.nil _ _, by first | exact HB3.out | exact below_set3 HB3.out _ _ _ (Nat.le_refl _)⟩
      · have hz1 : ((zx : Int) == 0) = false := by simp only [beq_eq_false_iff_ne]; omega
        rw [if_pos (by simp [hzx])] at HR
        go_enter Tryd.func11, Tryd.ntmps11
        go_wp2_with fail
        rw [← HW.out]
        refine Calls.mono HG.out ?_
        rintro e w1 ⟨v1, rfl, ho, hb⟩
        obtain ⟨a1, p1, hv1, -⟩ := id ho.rd
        rw [← HK.out] at hv1
        subst hv1
        have hro := HRO.out _ w1 ho.rd HL.out
        have HB : Hid _ := below_call HBW.out hb
        have HC1 : Hid _ := C3.below HC.out hb
        clear c0 c1 c2 f0 f1 f2 g0 ho hb
        go_wp2_with fail
        refine hro.mono ?_
        clear hro
        rintro e w2 ⟨v2, rfl, ho2, hb2⟩
        obtain ⟨a2, p2, hv2, -⟩ := id ho2.rd
        obtain ⟨k2, HK2⟩ := named zl.length
        rw [← HK2.out] at hv2
        subst hv2
        have HBX : Hid (Below w2.heap.size w2 (w2.alloc (Obj.cells #[.int .i64 zs, .int .i64 zb, .slice a2 k2 p2] 24))) := (Below.refl _ _).alloc (Nat.le_refl _) _
        have HB3 : Hid _ := below_call (below_call HB.out hb2) HBX.out
        have HC3 : Hid _ := C3.below (C3.below HC1.out hb2) HBX.out
        clear ho2 hb2
        obtain ⟨g0, c0, c1, c2, f0, f1, f2⟩ := HC3.out
        go_wp2_with fail
        refine bodyPost_ret (v := .tuple #[.agg #[.int .i64 0, .int .i64 0, .slice none 0 0], .int .i64 10]) (by simp [results, Tryd.results11, go_sem, c0, c1, c2]) rfl ?_
        rw [HR.out]
        exact ⟨_, rfl, Own.nil _ _, by first | exact HB3.out | exact below_set3 HB3.out _ _ _ (Nat.le_refl _)⟩
    · have hp1 : ((gp : Int) == n) = false := by simp only [beq_eq_false_iff_ne]; omega
      have hp2 : ((gp : Int) != n) = true := by simp only [bne_iff_ne]; omega
      rw [if_pos (by simp [hp])] at HR
      go_enter Tryd.func11, Tryd.ntmps11
      go_wp2_with fail
      rw [← HW.out]
      refine Calls.mono HG.out ?_
      rintro e w1 ⟨v1, rfl, ho, hb⟩
      have HB3 : Hid _ := below_call HBW.out hb
      have HC3 : Hid _ := C3.below HC.out hb
      clear c0 c1 c2 f0 f1 f2 g0 ho hb
      obtain ⟨g0, c0, c1, c2, f0, f1, f2⟩ := HC3.out
      go_wp2_with fail
      refine bodyPost_ret (v := .tuple #[.agg #[.int .i64 0, .int .i64 0, .slice none 0 0], .int .i64 10]) (by simp [results, Tryd.results11, go_sem, c0, c1, c2]) rfl ?_
      rw [HR.out]
      exact ⟨_, rfl, Own.nil _ _, by first | exact HB3.out | exact below_set3 HB3.out _ _ _ (Nat.le_refl _)⟩
  · have hx1 : ((gx : Int) == 0) = false := by simp only [beq_eq_false_iff_ne]; omega
    rw [if_pos (by simp [hx])] at HR
    go_enter Tryd.func11, Tryd.ntmps11
    go_wp2_with fail
    rw [← HW.out]
    refine Calls.mono HG.out ?_
    rintro e w1 ⟨v1, rfl, ho, hb⟩
    have HB3 : Hid _ := below_call HBW.out hb
    have HC3 : Hid _ := C3.below HC.out hb
    clear c0 c1 c2 f0 f1 f2 g0 ho hb
    obtain ⟨g0, c0, c1, c2, f0, f1, f2⟩ := HC3.out
    go_wp2_with fail
    refine bodyPost_ret (v := .tuple #[.agg #[.int .i64 0, .int .i64 0, .slice none 0 0], .int .i64 10]) (by simp [results, Tryd.results11, go_sem, c0, c1, c2]) rfl ?_
    rw [HR.out]
    exact ⟨_, rfl, Own.nil _ _, by first | exact HB3.out | exact below_set3 HB3.out _ _ _ (Nat.le_refl _)⟩
end Go.Proofs.YtffgbjojngnebaaDoor
