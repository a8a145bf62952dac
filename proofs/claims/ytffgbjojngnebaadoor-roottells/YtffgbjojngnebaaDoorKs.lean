/-
  The document's Parse of a root. Own work.
-/
import Derived.Test.YtffgbjojngnebaaDoorKr
import Derived.Test.YtffgbjojngnebaaDoorRm
namespace Go.Proofs.YtffgbjojngnebaaDoor
open Go.RowKit

theorem rp_bad1 (b : List UInt8) (h : (getF b 0).2.2 ≠ 0) : parseR b = (noR, 10) := by
  unfold parseR
  rw [if_pos (.inl h)]
theorem rp_bad2 (b : List UInt8) (h : (rootOfL (getF b 0).1).2.2 ≠ 0) : parseR b = (noR, 10) := by
  unfold parseR
  split
  · rfl
  · rw [if_pos (.inl h)]
theorem rp_bad3 (b : List UInt8) (h : isR (rootOfL (getF b 0).1).1 = false) : parseR b = (noR, 10) := by
  unfold parseR
  split
  · rfl
  · rw [if_pos (.inr (.inr h))]
theorem rp_root (b : List UInt8) (h : (parseR b).2 = 0) : (parseR b).1 = (rootOfL (getF b 0).1).1 := by
  unfold parseR at h ⊢
  split at h
  · simp at h
  · rename_i h1
    split at h
    · simp at h
    · rename_i h2
      rw [if_neg h1, if_neg h2]
theorem rp_bad4 (b : List UInt8) (h : frameL (bodyR (rootOfL (getF b 0).1).1) ≠ b) : parseR b = (noR, 10) := by
  rcases parse_err b with h1 | h1
  · have h2 := (parse_inv b h1).2
    rw [rp_root b h1] at h2
    exact absurd h2 h
  · exact h1
theorem rp_ok (b : List UInt8) (hr : isR (rootOfL (getF b 0).1).1 = true) (h : frameL (bodyR (rootOfL (getF b 0).1).1) = b) : parseR b = ((rootOfL (getF b 0).1).1, 0) := by
  have := parse_back _ hr
  rw [h] at this
  exact this
theorem wrap_any (n : Nat) (hn : n < 18446744073709551616) : IntKind.i64.wrap (n : Int) = n ∨ IntKind.i64.wrap (n : Int) < 0 := by
  rcases Nat.lt_or_ge n 9223372036854775808 with h1 | h1
  · exact .inl (IntWalk.i64_in _ (by omega))
  · have e : IntKind.i64.wrap (n : Int) = (n : Int) - 18446744073709551616 := Go.PlainAid.i64_high (by omega) (by omega)
    right
    omega
theorem isR_one (n : Nat) (y : Int) (l : List UInt8) (hn : n < 18446744073709551616) (h : 1099511627776 < n) : isR ⟨IntKind.i64.wrap (n : Int), y, l⟩ = false := by
  unfold isR
  simp only
  rcases wrap_any n hn with e | e
  · exact isRt_no2 (by omega)
  · exact isRt_no1 (by omega)
theorem isR_big2 (n : Int) (m : Nat) (l : List UInt8) (hm : m < 18446744073709551616) (h : 576460752303423488 < m) : isR ⟨n, IntKind.i64.wrap (m : Int), l⟩ = false := by
  unfold isR
  simp only
  rcases wrap_any m hm with e | e
  · exact isRt_no4 (by omega)
  · exact isRt_no3 (by omega)

set_option maxRecDepth 100000 in
set_option maxHeartbeats 1600000 in
theorem refParse_any (v : Value) (l : List UInt8) (w : World) (hrd : Rd w v l) (hl : l.length ≤ 800000) :
    Calls Tryd.prog 23 #[v] w fun e w' => ∃ v', e = .returned (.tuple #[.agg #[.int .i64 (parseR l).1.serial, .int .i64 (parseR l).1.batch, v'], .int .i64 (parseR l).2]) ∧ Own w' w.heap.size v' (parseR l).1.blob ∧ Below w.heap.size w w' := by
  obtain ⟨W, HW⟩ := named (w.alloc (Obj.cells #[.int .i64 0, .int .i64 0, .slice none 0 0] 24))
  have HBW : Hid (Below w.heap.size w W) := by show Below _ _ _; rw [HW.out]; exact (Below.refl _ _).alloc (Nat.le_refl _) _
  have HC : Hid (C3 W w.heap.size (.int .i64 0) (.int .i64 0) (.slice none 0 0)) := by show C3 _ _ _ _ _; rw [HW.out]; exact C3.new _ _ _ _ _
  have HRW : Hid _ := hrd.below HBW.out
  have HG : Hid (Calls Tryd.prog 59 #[v, .int .i64 0] W fun e w' => ∃ v, e = .returned (.tuple #[v, .int .i64 (getF l 0).2.1, .int .i64 (getF l 0).2.2]) ∧ Own w' W.heap.size v (getF l 0).1 ∧ Below W.heap.size W w') := refGet_any v l 0 W HRW.out (by omega)
  have HGL : Hid ((getF l 0).2.2 = 0 → (getF l 0).1.length ≤ l.length) := fun h => by
    obtain ⟨h1, h2, h3, h4⟩ := getF_inv l h
    have h5 := congrArg List.length h4
    rw [List.length_take, frameL_length] at h5
    omega
  have B1 : Hid _ := rp_bad1 l
  have B2 : Hid _ := rp_bad2 l
  have B3 : Hid _ := rp_bad3 l
  have B4 : Hid _ := rp_bad4 l
  have BO : Hid _ := rp_ok l
  obtain ⟨G, HGG⟩ := named (getF l 0)
  rw [← HGG.out] at HG HGL B1 B2 B3 B4 BO
  obtain ⟨gl, gp, gx⟩ := G
  simp only at HG HGL B1 B2 B3 B4 BO
  have HRO : Hid (rootOfL gl = if (getU gl 0).2.2 ≠ 0 then (noR, 0, (getU gl 0).2.2)
    else if (getU gl (getU gl 0).2.1).2.2 ≠ 0 then (noR, 0, (getU gl (getU gl 0).2.1).2.2)
    else if (getB gl (getU gl (getU gl 0).2.1).2.1 524288).2.2 ≠ 0 then (noR, 0, (getB gl (getU gl (getU gl 0).2.1).2.1 524288).2.2)
    else (⟨IntKind.i64.wrap (getU gl 0).1, IntKind.i64.wrap (getU gl (getU gl 0).2.1).1, (getB gl (getU gl (getU gl 0).2.1).2.1 524288).1⟩, (getB gl (getU gl (getU gl 0).2.1).2.1 524288).2.1, 0)) := rfl
  have hlt0 := getU_lt gl 0
  have HU0 : Hid (∀ (u : Value) (x : World), Rd x u gl → gl.length ≤ 800000 → Calls Tryd.prog 60 #[u, .int .i64 0] x fun e w' => e = .returned (.tuple #[.int .u64 (getU gl 0).1, .int .i64 (getU gl 0).2.1, .int .i64 (getU gl 0).2.2]) ∧ x = w') := fun u x hu hul => refGetUint_any u gl 0 x hu (by omega)
  obtain ⟨U0, HUU⟩ := named (getU gl 0)
  rw [← HUU.out] at HU0 HRO hlt0
  obtain ⟨n, p1, x0⟩ := U0
  simp only at HU0 HRO hlt0
  have hlt1 := getU_lt gl p1
  have HU1 : Hid (∀ (u : Value) (x : World), Rd x u gl → gl.length ≤ 800000 → Calls Tryd.prog 61 #[u, .int .i64 p1, .int .i64 x0] x fun e w' => e = .returned (.tuple #[.int .u64 (if x0 = 0 then (getU gl p1).1 else 0), .int .i64 (if x0 = 0 then (getU gl p1).2.1 else 0), .int .i64 (if x0 = 0 then (getU gl p1).2.2 else x0)]) ∧ x = w') := fun u x hu hul => next_any u gl p1 x0 x hu (by omega)
  obtain ⟨U1, HUV⟩ := named (getU gl p1)
  rw [← HUV.out] at HU1 HRO hlt1
  obtain ⟨m, p2, x1⟩ := U1
  simp only at HU1 HRO hlt1
  have HZ : Hid (∀ (u : Value) (x : World), Rd x u gl → gl.length ≤ 800000 → Calls Tryd.prog 62 #[u, .int .i64 p2, .int .i64 524288] x fun e w' => ∃ v', e = .returned (.tuple #[v', .int .i64 (getB gl p2 524288).2.1, .int .i64 (getB gl p2 524288).2.2]) ∧ Own w' x.heap.size v' (getB gl p2 524288).1 ∧ Below x.heap.size x w') := fun u x hu hul => refGetBlob_any u gl p2 524288 x hu (by omega) (by omega)
  have HZL : Hid ((getB gl p2 524288).2.2 = 0 → (getB gl p2 524288).1.length ≤ 524288) := fun h => by
    have := (getB_at gl p2 524288 h).2
    omega
  obtain ⟨Z, HZZ⟩ := named (getB gl p2 524288)
  rw [← HZZ.out] at HZ HRO HZL
  obtain ⟨zl, zp, zx⟩ := Z
  simp only at HZ HRO HZL
  obtain ⟨ao, cap, hv, -⟩ := id hrd
  obtain ⟨ln, HN⟩ := named l.length
  rw [← HN.out] at hv hl HGL
  subst hv
  obtain ⟨g0, c0, c1, c2, f0, f1, f2⟩ := HC.out
  have HB1 : Hid (∀ x, Below W.heap.size W x → Below w.heap.size w x) := fun x hx => below_call HBW.out hx
  clear hrd
  by_cases hgx : gx = 0
  · subst hgx
    have HLG : Hid (gl.length ≤ 800000) := by have := HGL.out rfl; show _ ≤ _; omega
    by_cases hx0 : x0 = 0
    · subst hx0
      simp only [if_true] at HU1
      by_cases hx1 : x1 = 0
      · subst hx1
        rw [if_neg (by simp), if_neg (by simp)] at HRO
        by_cases hn : 1099511627776 < n
        · have HE : Hid (parseR l = (noR, 10)) := by
            by_cases hz : zx = 0
            · rw [if_neg (by simp [hz])] at HRO
              refine B3.out ?_
              rw [HRO.out]
              exact isR_one n _ zl hlt0 hn
            · rw [if_pos hz] at HRO
              refine B2.out ?_
              rw [HRO.out]
              exact hz
          have hn' : (1099511627776 : Int) < n := by omega
          go_enter Tryd.func23, Tryd.ntmps23
          go_wp2_with fail
          rw [← HW.out]
          refine Calls.mono HG.out ?_
          rintro e w1 ⟨v1, rfl, ho1, hb1⟩
          have HC1 : Hid _ := C3.below HC.out hb1
          have HBL1 : Hid _ := HB1.out w1 hb1
          obtain ⟨a1, q1, hv1, -⟩ := id ho1.rd
          obtain ⟨k1, HK1⟩ := named gl.length
          rw [← HK1.out] at hv1
          subst hv1
          have HR1 : Hid _ := ho1.rd
          have hu0 := HU0.out _ w1 HR1.out HLG.out
          have hu1 := HU1.out _ w1 HR1.out HLG.out
          have HHZ : Hid _ := HZ.out _ w1 HR1.out HLG.out
          clear c0 c1 c2 f0 f1 f2 g0 ho1 hb1
          go_wp2_with fail
          refine hu0.mono ?_
          rintro e w1' ⟨rfl, rfl⟩
          go_wp2_with fail
          refine hu1.mono ?_
          rintro e w1' ⟨rfl, rfl⟩
          clear hu0 hu1
          obtain ⟨g0, c0, c1, c2, f0, f1, f2⟩ := HC1.out
          go_wp2_with fail
          refine bodyPost_ret (v := .tuple #[.agg #[.int .i64 0, .int .i64 0, .slice none 0 0], .int .i64 10]) (by simp [results, Tryd.results23, go_sem, c0, c1, c2]) rfl ?_
          rw [HE.out]
          exact ⟨_, rfl, Own.nil _ _, by first | exact HBL1.out | exact below_set3 HBL1.out _ _ _ (Nat.le_refl _)⟩
        have hn' : ¬ (1099511627776 : Int) < n := by omega
        by_cases hm : 576460752303423488 < m
        · have HE : Hid (parseR l = (noR, 10)) := by
            by_cases hz : zx = 0
            · rw [if_neg (by simp [hz])] at HRO
              refine B3.out ?_
              rw [HRO.out]
              exact isR_big2 _ m zl hlt1 hm
            · rw [if_pos hz] at HRO
              refine B2.out ?_
              rw [HRO.out]
              exact hz
          have hm' : (576460752303423488 : Int) < m := by omega
          go_enter Tryd.func23, Tryd.ntmps23
          go_wp2_with fail
          rw [← HW.out]
          refine Calls.mono HG.out ?_
          rintro e w1 ⟨v1, rfl, ho1, hb1⟩
          have HC1 : Hid _ := C3.below HC.out hb1
          have HBL1 : Hid _ := HB1.out w1 hb1
          obtain ⟨a1, q1, hv1, -⟩ := id ho1.rd
          obtain ⟨k1, HK1⟩ := named gl.length
          rw [← HK1.out] at hv1
          subst hv1
          have HR1 : Hid _ := ho1.rd
          have hu0 := HU0.out _ w1 HR1.out HLG.out
          have hu1 := HU1.out _ w1 HR1.out HLG.out
          have HHZ : Hid _ := HZ.out _ w1 HR1.out HLG.out
          clear c0 c1 c2 f0 f1 f2 g0 ho1 hb1
          go_wp2_with fail
          refine hu0.mono ?_
          rintro e w1' ⟨rfl, rfl⟩
          go_wp2_with fail
          refine hu1.mono ?_
          rintro e w1' ⟨rfl, rfl⟩
          clear hu0 hu1
          obtain ⟨g0, c0, c1, c2, f0, f1, f2⟩ := HC1.out
          go_wp2_with fail
          refine bodyPost_ret (v := .tuple #[.agg #[.int .i64 0, .int .i64 0, .slice none 0 0], .int .i64 10]) (by simp [results, Tryd.results23, go_sem, c0, c1, c2]) rfl ?_
          rw [HE.out]
          exact ⟨_, rfl, Own.nil _ _, by first | exact HBL1.out | exact below_set3 HBL1.out _ _ _ (Nat.le_refl _)⟩
        have hm' : ¬ (576460752303423488 : Int) < m := by omega
        by_cases hz : zx = 0
        · subst hz
          rw [if_neg (by simp)] at HRO
          have w1 : IntKind.i64.wrap (n : Int) = n := IntWalk.i64_in _ (by omega)
          have w2 : IntKind.i64.wrap (m : Int) = m := IntWalk.i64_in _ (by omega)
          rw [w1, w2] at HRO
          rw [HRO.out] at B2 B3 B4 BO
          simp only at B2 B3 B4 BO
          have w1' : wrap64 (n : Int) = n := by rw [← wrap_is64]; exact w1
          have w2' : wrap64 (m : Int) = m := by rw [← wrap_is64]; exact w2
          have HZL' : Hid (zl.length ≤ 524288) := HZL.out rfl
          have HDR : Hid (bytesR ⟨n, m, zl⟩ = if isR ⟨n, m, zl⟩ = true then (frameL (bodyR ⟨n, m, zl⟩), 0) else ([], 2)) := rfl
          cases hr : isR ⟨n, m, zl⟩ with
          | false =>
            rw [hr, if_neg (by simp)] at HDR
            have HE : Hid (parseR l = (noR, 10)) := B3.out hr
            go_enter Tryd.func23, Tryd.ntmps23
            go_wp2_with fail
            rw [← HW.out]
            refine Calls.mono HG.out ?_
            rintro e w1 ⟨v1, rfl, ho1, hb1⟩
            have HC1 : Hid _ := C3.below HC.out hb1
            have HBL1 : Hid _ := HB1.out w1 hb1
            obtain ⟨a1, q1, hv1, -⟩ := id ho1.rd
            obtain ⟨k1, HK1⟩ := named gl.length
            rw [← HK1.out] at hv1
            subst hv1
            have HR1 : Hid _ := ho1.rd
            have hu0 := HU0.out _ w1 HR1.out HLG.out
            have hu1 := HU1.out _ w1 HR1.out HLG.out
            have HHZ : Hid _ := HZ.out _ w1 HR1.out HLG.out
            clear c0 c1 c2 f0 f1 f2 g0 ho1 hb1
            go_wp2_with fail
            refine hu0.mono ?_
            rintro e w1' ⟨rfl, rfl⟩
            go_wp2_with fail
            refine hu1.mono ?_
            rintro e w1' ⟨rfl, rfl⟩
            clear hu0 hu1
            go_wp2_with fail
            refine Calls.mono HHZ.out ?_
            rintro e w2 ⟨v2, rfl, ho2, hb2⟩
            have HC2 : Hid _ := C3.below HC1.out hb2
            have HBL2 : Hid _ := below_call HBL1.out hb2
            obtain ⟨a2, q2, hv2, -⟩ := id ho2.rd
            obtain ⟨k2, HK2⟩ := named zl.length
            rw [← HK2.out] at hv2
            subst hv2
            obtain ⟨X, HX⟩ := named (w2.alloc (Obj.cells #[.int .i64 n, .int .i64 m, .slice a2 k2 q2] 24))
            have HBX : Hid (Below w2.heap.size w2 X) := by show Below _ _ _; rw [HX.out]; exact (Below.refl _ _).alloc (Nat.le_refl _) _
            have HCX : Hid (C3 X w2.heap.size (.int .i64 n) (.int .i64 m) (.slice a2 k2 q2)) := by show C3 _ _ _ _ _; rw [HX.out]; exact C3.new _ _ _ _ _
            have HC3 : Hid _ := C3.below HC2.out HBX.out
            have HBL3 : Hid _ := below_call HBL2.out HBX.out
            have HO3 : Hid _ := Own.below ho2 HBX.out
            have HLT : Hid (w.heap.size < w1.heap.size) := HC1.out.1
            have hby := refBytes_any n m (.slice a2 k2 q2) zl X (Own.rd HO3.out) (by have := HZL'.out; omega)
            rw [HDR.out] at hby
            clear ho2 hb2
            obtain ⟨x0, y0, y1, y2, -⟩ := HCX.out
            go_wp2_with (rw [← HX.out])
            refine hby.mono ?_
            clear hby
            rintro e w4 ⟨v4, rfl, ho4, hb4⟩
            have HC4 : Hid _ := C3.below HC3.out hb4
            have HBL4 : Hid _ := below_call HBL3.out hb4
            clear x0 y0 y1 y2 ho4 hb4
            obtain ⟨g0, c0, c1, c2, f0, f1, f2⟩ := HC4.out
            go_wp2_with fail
            refine bodyPost_ret (v := .tuple #[.agg #[.int .i64 0, .int .i64 0, .slice none 0 0], .int .i64 10]) (by simp [results, Tryd.results23, go_sem, c0, c1, c2]) rfl ?_
            rw [HE.out]
            exact ⟨_, rfl, Own.nil _ _, by first | exact HBL4.out | exact below_set3 HBL4.out _ _ _ (Nat.le_refl _)⟩
          | true =>
            rw [hr, if_pos rfl] at HDR
            cases heq : decide (frameL (bodyR ⟨n, m, zl⟩) = l) with
            | false =>
              have HE : Hid (parseR l = (noR, 10)) := B4.out (of_decide_eq_false heq)
              go_enter Tryd.func23, Tryd.ntmps23
              go_wp2_with fail
              rw [← HW.out]
              refine Calls.mono HG.out ?_
              rintro e w1 ⟨v1, rfl, ho1, hb1⟩
              have HC1 : Hid _ := C3.below HC.out hb1
              have HBL1 : Hid _ := HB1.out w1 hb1
              have HB1' : Hid _ := hb1
              obtain ⟨a1, q1, hv1, -⟩ := id ho1.rd
              obtain ⟨k1, HK1⟩ := named gl.length
              rw [← HK1.out] at hv1
              subst hv1
              have HR1 : Hid _ := ho1.rd
              have hu0 := HU0.out _ w1 HR1.out HLG.out
              have hu1 := HU1.out _ w1 HR1.out HLG.out
              have HHZ : Hid _ := HZ.out _ w1 HR1.out HLG.out
              clear c0 c1 c2 f0 f1 f2 g0 ho1 hb1
              go_wp2_with fail
              refine hu0.mono ?_
              rintro e w1' ⟨rfl, rfl⟩
              go_wp2_with fail
              refine hu1.mono ?_
              rintro e w1' ⟨rfl, rfl⟩
              clear hu0 hu1
              go_wp2_with fail
              refine Calls.mono HHZ.out ?_
              rintro e w2 ⟨v2, rfl, ho2, hb2⟩
              have HC2 : Hid _ := C3.below HC1.out hb2
              have HBL2 : Hid _ := below_call HBL1.out hb2
              have HB2' : Hid _ := hb2
              obtain ⟨a2, q2, hv2, -⟩ := id ho2.rd
              obtain ⟨k2, HK2⟩ := named zl.length
              rw [← HK2.out] at hv2
              subst hv2
              obtain ⟨X, HX⟩ := named (w2.alloc (Obj.cells #[.int .i64 n, .int .i64 m, .slice a2 k2 q2] 24))
              have HBX : Hid (Below w2.heap.size w2 X) := by show Below _ _ _; rw [HX.out]; exact (Below.refl _ _).alloc (Nat.le_refl _) _
              have HCX : Hid (C3 X w2.heap.size (.int .i64 n) (.int .i64 m) (.slice a2 k2 q2)) := by show C3 _ _ _ _ _; rw [HX.out]; exact C3.new _ _ _ _ _
              have HC3 : Hid _ := C3.below HC2.out HBX.out
              have HBL3 : Hid _ := below_call HBL2.out HBX.out
              have HO3 : Hid _ := Own.below ho2 HBX.out
              have HLT : Hid (w.heap.size < w1.heap.size) := HC1.out.1
              have hby := refBytes_any n m (.slice a2 k2 q2) zl X (Own.rd HO3.out) (by have := HZL'.out; omega)
              rw [HDR.out] at hby
              clear ho2 hb2
              obtain ⟨x0, y0, y1, y2, -⟩ := HCX.out
              go_wp2_with (rw [← HX.out])
              refine hby.mono ?_
              clear hby
              rintro e w4 ⟨v4, rfl, ho4, hb4⟩
              have HC4 : Hid _ := C3.below HC3.out hb4
              have HBL4 : Hid _ := below_call HBL3.out hb4
              obtain ⟨a4, q4, hv4, -⟩ := id ho4.rd
              obtain ⟨k4, HK4⟩ := named (frameL (bodyR ⟨n, m, zl⟩)).length
              rw [← HK4.out] at hv4
              subst hv4
              have hsa := sameRef_any (.slice a4 k4 q4) (.slice ao ln cap) (frameL (bodyR ⟨n, m, zl⟩)) l w4 ho4.rd (Rd.below HRW.out (below_call (below_call (below_call HB1'.out HB2'.out) HBX.out) hb4))
              rw [heq] at hsa
              have HO4 : Hid _ := Own.below HO3.out hb4
              have HCX4 : Hid _ := C3.below HCX.out hb4
              clear x0 y0 y1 y2 ho4 hb4
              go_wp2_with fail
              refine hsa.mono ?_
              clear hsa
              rintro e w5 ⟨rfl, hb5⟩
              have HC5 : Hid _ := C3.below HC4.out hb5
              have HBL5 : Hid _ := below_call HBL4.out hb5
              clear hb5
              obtain ⟨g0, c0, c1, c2, f0, f1, f2⟩ := HC5.out
              go_wp2_with fail
              refine bodyPost_ret (v := .tuple #[.agg #[.int .i64 0, .int .i64 0, .slice none 0 0], .int .i64 10]) (by simp [results, Tryd.results23, go_sem, c0, c1, c2]) rfl ?_
              rw [HE.out]
              exact ⟨_, rfl, Own.nil _ _, by first | exact HBL5.out | exact below_set3 HBL5.out _ _ _ (Nat.le_refl _)⟩
            | true =>
              have HE : Hid (parseR l = (⟨n, m, zl⟩, 0)) := BO.out hr (of_decide_eq_true heq)
              go_enter Tryd.func23, Tryd.ntmps23
              go_wp2_with fail
              rw [← HW.out]
              refine Calls.mono HG.out ?_
              rintro e w1 ⟨v1, rfl, ho1, hb1⟩
              have HC1 : Hid _ := C3.below HC.out hb1
              have HBL1 : Hid _ := HB1.out w1 hb1
              have HB1' : Hid _ := hb1
              obtain ⟨a1, q1, hv1, -⟩ := id ho1.rd
              obtain ⟨k1, HK1⟩ := named gl.length
              rw [← HK1.out] at hv1
              subst hv1
              have HR1 : Hid _ := ho1.rd
              have hu0 := HU0.out _ w1 HR1.out HLG.out
              have hu1 := HU1.out _ w1 HR1.out HLG.out
              have HHZ : Hid _ := HZ.out _ w1 HR1.out HLG.out
              clear c0 c1 c2 f0 f1 f2 g0 ho1 hb1
              go_wp2_with fail
              refine hu0.mono ?_
              rintro e w1' ⟨rfl, rfl⟩
              go_wp2_with fail
              refine hu1.mono ?_
              rintro e w1' ⟨rfl, rfl⟩
              clear hu0 hu1
              go_wp2_with fail
              refine Calls.mono HHZ.out ?_
              rintro e w2 ⟨v2, rfl, ho2, hb2⟩
              have HC2 : Hid _ := C3.below HC1.out hb2
              have HBL2 : Hid _ := below_call HBL1.out hb2
              have HB2' : Hid _ := hb2
              obtain ⟨a2, q2, hv2, -⟩ := id ho2.rd
              obtain ⟨k2, HK2⟩ := named zl.length
              rw [← HK2.out] at hv2
              subst hv2
              obtain ⟨X, HX⟩ := named (w2.alloc (Obj.cells #[.int .i64 n, .int .i64 m, .slice a2 k2 q2] 24))
              have HBX : Hid (Below w2.heap.size w2 X) := by show Below _ _ _; rw [HX.out]; exact (Below.refl _ _).alloc (Nat.le_refl _) _
              have HCX : Hid (C3 X w2.heap.size (.int .i64 n) (.int .i64 m) (.slice a2 k2 q2)) := by show C3 _ _ _ _ _; rw [HX.out]; exact C3.new _ _ _ _ _
              have HC3 : Hid _ := C3.below HC2.out HBX.out
              have HBL3 : Hid _ := below_call HBL2.out HBX.out
              have HO3 : Hid _ := Own.below ho2 HBX.out
              have HLT : Hid (w.heap.size < w1.heap.size) := HC1.out.1
              have hby := refBytes_any n m (.slice a2 k2 q2) zl X (Own.rd HO3.out) (by have := HZL'.out; omega)
              rw [HDR.out] at hby
              clear ho2 hb2
              obtain ⟨x0, y0, y1, y2, -⟩ := HCX.out
              go_wp2_with (rw [← HX.out])
              refine hby.mono ?_
              clear hby
              rintro e w4 ⟨v4, rfl, ho4, hb4⟩
              have HC4 : Hid _ := C3.below HC3.out hb4
              have HBL4 : Hid _ := below_call HBL3.out hb4
              obtain ⟨a4, q4, hv4, -⟩ := id ho4.rd
              obtain ⟨k4, HK4⟩ := named (frameL (bodyR ⟨n, m, zl⟩)).length
              rw [← HK4.out] at hv4
              subst hv4
              have hsa := sameRef_any (.slice a4 k4 q4) (.slice ao ln cap) (frameL (bodyR ⟨n, m, zl⟩)) l w4 ho4.rd (Rd.below HRW.out (below_call (below_call (below_call HB1'.out HB2'.out) HBX.out) hb4))
              rw [heq] at hsa
              have HO4 : Hid _ := Own.below HO3.out hb4
              have HCX4 : Hid _ := C3.below HCX.out hb4
              clear x0 y0 y1 y2 ho4 hb4
              go_wp2_with fail
              refine hsa.mono ?_
              clear hsa
              rintro e w5 ⟨rfl, hb5⟩
              have HC5 : Hid _ := C3.below HC4.out hb5
              have HBL5 : Hid _ := below_call HBL4.out hb5
              have HCX5 : Hid _ := C3.below HCX4.out hb5
              have HO5 : Hid _ := Own.below HO4.out hb5
              clear hb5
              obtain ⟨x0, y0, y1, y2, -⟩ := HCX5.out
              obtain ⟨g0, c0, c1, c2, f0, f1, f2⟩ := HC5.out
              go_wp2_with fail
              refine bodyPost_ret (v := .tuple #[.agg #[.int .i64 n, .int .i64 m, .slice a2 k2 q2], .int .i64 0]) (by simp [results, Tryd.results23, go_sem, c0, c1, c2]) rfl ?_
              rw [HE.out]
              exact ⟨_, rfl, (Own.set3 _ _ _ HO5.out HLT.out).mono (Nat.le_of_lt HLT.out), below_set3 HBL5.out _ _ _ (Nat.le_refl _)⟩
        · have hz' : ((zx : Int) == 0) = false := by simp only [beq_eq_false_iff_ne]; omega
          rw [if_pos hz] at HRO
          have HE : Hid (parseR l = (noR, 10)) := by
            refine B2.out ?_
            rw [HRO.out]
            exact hz
          go_enter Tryd.func23, Tryd.ntmps23
          go_wp2_with fail
          rw [← HW.out]
          refine Calls.mono HG.out ?_
          rintro e w1 ⟨v1, rfl, ho1, hb1⟩
          have HC1 : Hid _ := C3.below HC.out hb1
          have HBL1 : Hid _ := HB1.out w1 hb1
          obtain ⟨a1, q1, hv1, -⟩ := id ho1.rd
          obtain ⟨k1, HK1⟩ := named gl.length
          rw [← HK1.out] at hv1
          subst hv1
          have HR1 : Hid _ := ho1.rd
          have hu0 := HU0.out _ w1 HR1.out HLG.out
          have hu1 := HU1.out _ w1 HR1.out HLG.out
          have HHZ : Hid _ := HZ.out _ w1 HR1.out HLG.out
          clear c0 c1 c2 f0 f1 f2 g0 ho1 hb1
          go_wp2_with fail
          refine hu0.mono ?_
          rintro e w1' ⟨rfl, rfl⟩
          go_wp2_with fail
          refine hu1.mono ?_
          rintro e w1' ⟨rfl, rfl⟩
          clear hu0 hu1
          go_wp2_with fail
          refine Calls.mono HHZ.out ?_
          rintro e w2 ⟨v2, rfl, ho2, hb2⟩
          have HC2 : Hid _ := C3.below HC1.out hb2
          have HBL2 : Hid _ := below_call HBL1.out hb2
          clear ho2 hb2
          obtain ⟨g0, c0, c1, c2, f0, f1, f2⟩ := HC2.out
          go_wp2_with fail
          refine bodyPost_ret (v := .tuple #[.agg #[.int .i64 0, .int .i64 0, .slice none 0 0], .int .i64 10]) (by simp [results, Tryd.results23, go_sem, c0, c1, c2]) rfl ?_
          rw [HE.out]
          exact ⟨_, rfl, Own.nil _ _, by first | exact HBL2.out | exact below_set3 HBL2.out _ _ _ (Nat.le_refl _)⟩
      · have hx1' : ((x1 : Int) == 0) = false := by simp only [beq_eq_false_iff_ne]; omega
        rw [if_neg (by simp), if_pos hx1] at HRO
        have HE : Hid (parseR l = (noR, 10)) := by
          refine B2.out ?_
          rw [HRO.out]
          exact hx1
        go_enter Tryd.func23, Tryd.ntmps23
        go_wp2_with fail
        rw [← HW.out]
        refine Calls.mono HG.out ?_
        rintro e w1 ⟨v1, rfl, ho1, hb1⟩
        have HC1 : Hid _ := C3.below HC.out hb1
        have HBL1 : Hid _ := HB1.out w1 hb1
        obtain ⟨a1, q1, hv1, -⟩ := id ho1.rd
        obtain ⟨k1, HK1⟩ := named gl.length
        rw [← HK1.out] at hv1
        subst hv1
        have HR1 : Hid _ := ho1.rd
        have hu0 := HU0.out _ w1 HR1.out HLG.out
        have hu1 := HU1.out _ w1 HR1.out HLG.out
        have HHZ : Hid _ := HZ.out _ w1 HR1.out HLG.out
        clear c0 c1 c2 f0 f1 f2 g0 ho1 hb1
        go_wp2_with fail
        refine hu0.mono ?_
        rintro e w1' ⟨rfl, rfl⟩
        go_wp2_with fail
        refine hu1.mono ?_
        rintro e w1' ⟨rfl, rfl⟩
        clear hu0 hu1
        obtain ⟨g0, c0, c1, c2, f0, f1, f2⟩ := HC1.out
        go_wp2_with fail
        refine bodyPost_ret (v := .tuple #[.agg #[.int .i64 0, .int .i64 0, .slice none 0 0], .int .i64 10]) (by simp [results, Tryd.results23, go_sem, c0, c1, c2]) rfl ?_
        rw [HE.out]
        exact ⟨_, rfl, Own.nil _ _, by first | exact HBL1.out | exact below_set3 HBL1.out _ _ _ (Nat.le_refl _)⟩
    · have hx0' : ((x0 : Int) == 0) = false := by simp only [beq_eq_false_iff_ne]; omega
      rw [if_pos hx0] at HRO
      simp only [hx0, if_false] at HU1
      have HE : Hid (parseR l = (noR, 10)) := by
        refine B2.out ?_
        rw [HRO.out]
        exact hx0
      go_enter Tryd.func23, Tryd.ntmps23
      go_wp2_with fail
      rw [← HW.out]
      refine Calls.mono HG.out ?_
      rintro e w1 ⟨v1, rfl, ho1, hb1⟩
      have HC1 : Hid _ := C3.below HC.out hb1
      have HBL1 : Hid _ := HB1.out w1 hb1
      obtain ⟨a1, q1, hv1, -⟩ := id ho1.rd
      obtain ⟨k1, HK1⟩ := named gl.length
      rw [← HK1.out] at hv1
      subst hv1
      have HR1 : Hid _ := ho1.rd
      have hu0 := HU0.out _ w1 HR1.out HLG.out
      have hu1 := HU1.out _ w1 HR1.out HLG.out
      have HHZ : Hid _ := HZ.out _ w1 HR1.out HLG.out
      clear c0 c1 c2 f0 f1 f2 g0 ho1 hb1
      go_wp2_with fail
      refine hu0.mono ?_
      rintro e w1' ⟨rfl, rfl⟩
      go_wp2_with fail
      refine hu1.mono ?_
      rintro e w1' ⟨rfl, rfl⟩
      clear hu0 hu1
      obtain ⟨g0, c0, c1, c2, f0, f1, f2⟩ := HC1.out
      go_wp2_with fail
      refine bodyPost_ret (v := .tuple #[.agg #[.int .i64 0, .int .i64 0, .slice none 0 0], .int .i64 10]) (by simp [results, Tryd.results23, go_sem, c0, c1, c2]) rfl ?_
      rw [HE.out]
      exact ⟨_, rfl, Own.nil _ _, by first | exact HBL1.out | exact below_set3 HBL1.out _ _ _ (Nat.le_refl _)⟩
  · have hgx' : ((gx : Int) == 0) = false := by simp only [beq_eq_false_iff_ne]; omega
    have HE : Hid (parseR l = (noR, 10)) := B1.out hgx
    go_enter Tryd.func23, Tryd.ntmps23
    go_wp2_with fail
    rw [← HW.out]
    refine Calls.mono HG.out ?_
    rintro e w1 ⟨v1, rfl, ho1, hb1⟩
    have HC1 : Hid _ := C3.below HC.out hb1
    have HBL1 : Hid _ := HB1.out w1 hb1
    clear c0 c1 c2 f0 f1 f2 g0 ho1 hb1
    obtain ⟨g0, c0, c1, c2, f0, f1, f2⟩ := HC1.out
    go_wp2_with fail
    refine bodyPost_ret (v := .tuple #[.agg #[.int .i64 0, .int .i64 0, .slice none 0 0], .int .i64 10]) (by simp [results, Tryd.results23, go_sem, c0, c1, c2]) rfl ?_
    rw [HE.out]
    exact ⟨_, rfl, Own.nil _ _, by first | exact HBL1.out | exact below_set3 HBL1.out _ _ _ (Nat.le_refl _)⟩
end Go.Proofs.YtffgbjojngnebaaDoor
