/-
  The contracts of root's rootOf and Parse. Own work.
-/
import Derived.Test.YtffgbjojngnebaaDoorKc
namespace Go.Proofs.YtffgbjojngnebaaDoor
open Go.RowKit

theorem wrap_is64 (n : Int) : IntKind.i64.wrap n = wrap64 n := by
  rw [IntKind.wrap_i64]
  unfold wrap64
  first | rfl | omega
/-- three cells written -/
def set3 (w : World) (g : Nat) (a b c : Value) : World := ((w.setCell ⟨g, 0, none⟩ a).setCell ⟨g, 1, none⟩ b).setCell ⟨g, 2, none⟩ c
theorem set3_grown (w : World) (g : Nat) (a b c : Value) : w.grownBy (set3 w g a b c) (some g) := by
  refine ⟨rfl, rfl, rfl, by simp [set3, World.setCell], fun k hk hr => ?_⟩
  have hne : k ≠ g := fun e => hr (by rw [e])
  unfold set3
  rw [Below.heap_setCell _ _ _ _ hne, Below.heap_setCell _ _ _ _ hne, Below.heap_setCell _ _ _ _ hne]
theorem Own.set3 {w : World} {g base : Nat} {v : Value} {l : List UInt8} (a b c : Value) (h : Own w base v l) (hg : g < base) : Own (set3 w g a b c) base v l := by
  refine World.ownsRow.kept h (set3_grown w g a b c) ?_
  cases hob : v.ownBlock with
  | none => exact .inl rfl
  | some x =>
    right
    intro he
    have := (World.ownsRow.lt h x hob).1
    cases he
    omega
theorem below_set3 {B g : Nat} {w w' : World} (h : Below B w w') (a b c : Value) (hg : B ≤ g) : Below B w (set3 w' g a b c) := ((h.setCell hg _).setCell hg _).setCell hg _
set_option maxRecDepth 100000 in
set_option maxHeartbeats 800000 in
theorem rootOf_any (v : Value) (l : List UInt8) (w : World) (hrd : Rd w v l) (hl : l.length ≤ 140737488355000) :
    Calls Tryd.prog 40 #[v] w fun e w' => ∃ v', e = .returned (.tuple #[.agg #[.int .i64 (rootOfL l).1.serial, .int .i64 (rootOfL l).1.batch, v'], .int .i64 (rootOfL l).2.1, .int .i64 (rootOfL l).2.2]) ∧ Own w' w.heap.size v' (rootOfL l).1.blob ∧ Below w.heap.size w w' := by
  obtain ⟨W, HW⟩ := named (w.alloc (Obj.cells #[.int .i64 0, .int .i64 0, .slice none 0 0] 24))
  have HBW : Hid (Below w.heap.size w W) := by show Below _ _ _; rw [HW.out]; exact (Below.refl _ _).alloc (Nat.le_refl _) _
  have HC : Hid (C3 W w.heap.size (.int .i64 0) (.int .i64 0) (.slice none 0 0)) := by show C3 _ _ _ _ _; rw [HW.out]; exact C3.new _ _ _ _ _
  have hrW := hrd.below HBW.out
  have HG : Hid (Calls Tryd.prog 77 #[v, .int .i64 0] W fun e w' => e = .returned (.tuple #[.int .u64 (getU l 0).1, .int .i64 (getU l 0).2.1, .int .i64 (getU l 0).2.2]) ∧ W = w') := getUint_any v l 0 W hrW (by omega)
  have HG2 : Hid (∀ p : Int, Calls Tryd.prog 77 #[v, .int .i64 p] W fun e w' => e = .returned (.tuple #[.int .u64 (getU l p).1, .int .i64 (getU l p).2.1, .int .i64 (getU l p).2.2]) ∧ W = w') := fun p => getUint_any v l p W hrW (by omega)
  have HG3 : Hid (∀ p : Int, Calls Tryd.prog 78 #[v, .int .i64 p, .int .i64 524288] W fun e w' => ∃ v', e = .returned (.tuple #[v', .int .i64 (getB l p 524288).2.1, .int .i64 (getB l p 524288).2.2]) ∧ Own w' W.heap.size v' (getB l p 524288).1 ∧ Below W.heap.size W w') := fun p => getBlob_any v l p 524288 W hrW hl (by omega)
  have HR : Hid (rootOfL l = if (getU l 0).2.2 ≠ 0 then (noR, 0, (getU l 0).2.2)
    else if (getU l (getU l 0).2.1).2.2 ≠ 0 then (noR, 0, (getU l (getU l 0).2.1).2.2)
    else if (getB l (getU l (getU l 0).2.1).2.1 524288).2.2 ≠ 0 then (noR, 0, (getB l (getU l (getU l 0).2.1).2.1 524288).2.2)
    else (⟨IntKind.i64.wrap (getU l 0).1, IntKind.i64.wrap (getU l (getU l 0).2.1).1, (getB l (getU l (getU l 0).2.1).2.1 524288).1⟩, (getB l (getU l (getU l 0).2.1).2.1 524288).2.1, 0)) := rfl
  obtain ⟨G, HGG⟩ := named (getU l 0)
  rw [← HGG.out] at HG HR
  obtain ⟨gn, gp, gx⟩ := G
  simp only at HG HR
  have HG2' : Hid _ := HG2.out gp
  obtain ⟨C, HCC⟩ := named (getU l gp)
  rw [← HCC.out] at HG2' HR
  obtain ⟨cn, cp, cx⟩ := C
  simp only at HG2' HR
  have HG3' : Hid _ := HG3.out cp
  obtain ⟨Z, HZZ⟩ := named (getB l cp 524288)
  rw [← HZZ.out] at HG3' HR
  obtain ⟨zl, zp, zx⟩ := Z
  simp only at HG3' HR
  obtain ⟨ao, cap, hv, -⟩ := id hrd
  obtain ⟨n, HN⟩ := named l.length
  rw [← HN.out] at hv
  subst hv
  clear HG2 HG3 hrd hrW hl
  obtain ⟨g0, c0, c1, c2, f0, f1, f2⟩ := HC.out
  by_cases hx : gx = 0
  · subst hx
    by_cases hcx : cx = 0
    · subst hcx
      by_cases hzx : zx = 0
      · subst hzx
        obtain ⟨I, HI⟩ := named (IntKind.i64.wrap (gn : Int))
        obtain ⟨J, HJ⟩ := named (IntKind.i64.wrap (cn : Int))
        rw [if_neg (by simp), if_neg (by simp), if_neg (by simp), ← HI.out, ← HJ.out] at HR
        have hI1 : IntKind.i64.wrap (gn : Int) = I := HI.out.symm
        have hI2 : wrap64 (gn : Int) = I := by rw [HI.out, wrap_is64]
        have hJ1 : IntKind.i64.wrap (cn : Int) = J := HJ.out.symm
        have hJ2 : wrap64 (cn : Int) = J := by rw [HJ.out, wrap_is64]
        go_enter Tryd.func40, Tryd.ntmps40
        go_wp2_with fail
        rw [← HW.out]
        refine Calls.mono HG.out ?_
        rintro e w1 ⟨rfl, rfl⟩
        go_wp2_with fail
        refine Calls.mono HG2'.out ?_
        rintro e w1 ⟨rfl, rfl⟩
        go_wp2_with fail
        refine Calls.mono HG3'.out ?_
        rintro e w1 ⟨v1, rfl, ho, hb⟩
        obtain ⟨a1, p1, hv1, -⟩ := id ho.rd
        obtain ⟨k1, HK1⟩ := named zl.length
        rw [← HK1.out] at hv1
        subst hv1
        have HO : Hid _ := ho
        have HB : Hid _ := hb
        have HC1 : Hid _ := C3.below HC.out hb
        clear c0 c1 c2 f0 f1 f2 g0 ho hb
        obtain ⟨g0, c0, c1, c2, f0, f1, f2⟩ := HC1.out
        go_wp2_with fail
        refine bodyPost_ret (v := .tuple #[.agg #[.int .i64 I, .int .i64 J, .slice a1 k1 p1], .int .i64 zp, .int .i64 0]) (by simp [results, Tryd.results40, go_sem, c0, c1, c2]) rfl ?_
        rw [HR.out]
        exact ⟨_, rfl, (Own.set3 _ _ _ HO.out HC.out.1).mono HBW.out.size, below_set3 (below_call HBW.out HB.out) _ _ _ (Nat.le_refl _)⟩
      · have hx' : ((zx : Int) == 0) = false := by simp only [beq_eq_false_iff_ne]; omega
        rw [if_neg (by simp), if_neg (by simp), if_pos hzx] at HR
        go_enter Tryd.func40, Tryd.ntmps40
        go_wp2_with fail
        rw [← HW.out]
        refine Calls.mono HG.out ?_
        rintro e w1 ⟨rfl, rfl⟩
        go_wp2_with fail
        refine Calls.mono HG2'.out ?_
        rintro e w1 ⟨rfl, rfl⟩
        go_wp2_with fail
        refine Calls.mono HG3'.out ?_
        rintro e w1 ⟨v1, rfl, ho, hb⟩
        have HB : Hid _ := hb
        have HC1 : Hid _ := C3.below HC.out hb
        clear c0 c1 c2 f0 f1 f2 g0 ho hb
        obtain ⟨g0, c0, c1, c2, f0, f1, f2⟩ := HC1.out
        go_wp2_with fail
        refine bodyPost_ret (v := .tuple #[.agg #[.int .i64 0, .int .i64 0, .slice none 0 0], .int .i64 0, .int .i64 zx]) (by simp [results, Tryd.results40, go_sem, c0, c1, c2]) rfl ?_
        rw [HR.out]
        exact ⟨_, rfl, Own.nil _ _, by first | exact below_call HBW.out HB.out | exact below_set3 (below_call HBW.out HB.out) _ _ _ (Nat.le_refl _)⟩
    · have hx' : ((cx : Int) == 0) = false := by simp only [beq_eq_false_iff_ne]; omega
      rw [if_neg (by simp), if_pos hcx] at HR
      go_enter Tryd.func40, Tryd.ntmps40
      go_wp2_with fail
      rw [← HW.out]
      refine Calls.mono HG.out ?_
      rintro e w1 ⟨rfl, rfl⟩
      go_wp2_with fail
      refine Calls.mono HG2'.out ?_
      rintro e w1 ⟨rfl, rfl⟩
      go_wp2_with fail
      refine bodyPost_ret (v := .tuple #[.agg #[.int .i64 0, .int .i64 0, .slice none 0 0], .int .i64 0, .int .i64 cx]) (by simp [results, Tryd.results40, go_sem, c0, c1, c2]) rfl ?_
      rw [HR.out]
      exact ⟨_, rfl, Own.nil _ _, by first | exact HBW.out | exact below_set3 HBW.out _ _ _ (Nat.le_refl _)⟩
  · have hx' : ((gx : Int) == 0) = false := by simp only [beq_eq_false_iff_ne]; omega
    rw [if_pos hx] at HR
    go_enter Tryd.func40, Tryd.ntmps40
    go_wp2_with fail
    rw [← HW.out]
    refine Calls.mono HG.out ?_
    rintro e w1 ⟨rfl, rfl⟩
    go_wp2_with fail
    refine bodyPost_ret (v := .tuple #[.agg #[.int .i64 0, .int .i64 0, .slice none 0 0], .int .i64 0, .int .i64 gx]) (by simp [results, Tryd.results40, go_sem, c0, c1, c2]) rfl ?_
    rw [HR.out]
    exact ⟨_, rfl, Own.nil _ _, by first | exact HBW.out | exact below_set3 HBW.out _ _ _ (Nat.le_refl _)⟩
end Go.Proofs.YtffgbjojngnebaaDoor
