/-
  The contract of root's Write. Own work.
-/
import Derived.Test.YtffgbjojngnebaaDoorKj
namespace Go.Proofs.YtffgbjojngnebaaDoor
open Go.RowKit

theorem Ap.out {B : Nat} {w0 w w' : World} {d : Value} {D : AD} {F P : Nat → Prop} (h : Ap B w0 w d D F) (hc : Chg P w w') (hP : ∀ b, P b → ¬ F b ∧ B ≤ b) : Ap B w0 w' d D F :=
  ⟨h.dk.chg hc fun b hF hPb => (hP b hPb).1 hF, fun b hF => ⟨(h.sub b hF).1, Nat.lt_of_lt_of_le (h.sub b hF).2 hc.size⟩, h.bel.trans (hc.below B (fun k hk => (hP k hk).2) h.le), Nat.le_trans h.le hc.size⟩
theorem C3.one {w : World} {g g' o : Nat} {a b c : Value} (x : Value) (h : C3 w g a b c) (hg : g ≠ g') : C3 (w.setCell ⟨g', o, none⟩ x) g a b c := by
  obtain ⟨h0, h1, h2, h3, h4, h5, h6⟩ := h
  exact ⟨by simpa [World.setCell] using h0, (cell_other _ _ _ _ _ _ (.inl hg)).trans h1, (cell_other _ _ _ _ _ _ (.inl hg)).trans h2, (cell_other _ _ _ _ _ _ (.inl hg)).trans h3, by simpa using h4, by simpa using h5, by simpa using h6⟩
theorem C3.first {w : World} {g : Nat} {a b c : Value} (x : Value) (h : C3 w g a b c) : C3 (w.setCell ⟨g, 0, none⟩ x) g x b c := by
  obtain ⟨h0, h1, h2, h3, h4, h5, h6⟩ := h
  exact ⟨by simpa [World.setCell] using h0, World.cell?_setCell_same _ _ _ h1, (cell_other _ _ _ _ _ _ (.inr (by omega))).trans h2, (cell_other _ _ _ _ _ _ (.inr (by omega))).trans h3, by simpa using h4, by simpa using h5, by simpa using h6⟩
theorem C3.third {w : World} {g : Nat} {a b c : Value} (x : Value) (h : C3 w g a b c) : C3 (w.setCell ⟨g, 2, none⟩ x) g a b x := by
  obtain ⟨h0, h1, h2, h3, h4, h5, h6⟩ := h
  exact ⟨by simpa [World.setCell] using h0, (cell_other _ _ _ _ _ _ (.inr (by omega))).trans h1, (cell_other _ _ _ _ _ _ (.inr (by omega))).trans h2, World.cell?_setCell_same _ _ _ h3, by simpa using h4, by simpa using h5, by simpa using h6⟩
theorem nameR_k (s : Int) (k : Nat) (hk : s % 2 = k) (h2 : k < 2) : nameR s = nmI k := by
  unfold nameR nmI
  rw [hk]
  match k, h2 with
  | 0, _ => rfl
  | 1, _ => rfl

set_option maxRecDepth 100000 in
set_option maxHeartbeats 1600000 in
theorem Ap.write {B : Nat} {w0 w : World} {d : Value} {D : AD} {F : Nat → Prop} (h : Ap B w0 w d D F) (hL : Laid w0) (hB : 0 < B) (rs rb : Int) (rv : Value) (rl : List UInt8) (hr : RdK w F rv rl) (hl : rl.length ≤ 140737488355000) :
    Calls Tryd.prog 15 #[d, .agg #[.int .i64 rs, .int .i64 rb, rv]] w fun e w' => ∃ v, e = .returned (.tuple #[.agg #[.int .i64 (writeR D rb rl).2.1.serial, .int .i64 (writeR D rb rl).2.1.batch, v], .int .i64 (writeR D rb rl).2.2]) ∧ ∃ G, Ap B w0 w' d (writeR D rb rl).1 G ∧ Step F w w' G ∧ RdK w' G v (writeR D rb rl).2.1.blob := by
  obtain ⟨ao, cap, hv, -⟩ := id hr.1
  obtain ⟨n, HN⟩ := named rl.length
  rw [← HN.out] at hv hl
  subst hv
  obtain ⟨W, HW⟩ := named ((w.alloc (Obj.cells #[.int .i64 rs, .int .i64 rb, .slice ao n cap] 24)).alloc (Obj.cells #[.int .i64 0, .int .i64 0, .slice none 0 0] 24))
  obtain ⟨T1, T2, T3, -⟩ := two_new' w (Obj.cells #[.int .i64 rs, .int .i64 rb, .slice ao n cap] 24) (Obj.cells #[.int .i64 0, .int .i64 0, .slice none 0 0] 24)
  have HSZ : Hid (W.heap.size = w.heap.size + 2) := by show W.heap.size = _; rw [HW.out]; simp
  rw [← HW.out] at T1 T2 T3
  have HBW : Hid (Below w.heap.size w W) := T3
  have HCR : Hid (C3 W w.heap.size (.int .i64 rs) (.int .i64 rb) (.slice ao n cap)) := C3.of T1
  have HC : Hid (C3 W (w.heap.size + 1) (.int .i64 0) (.int .i64 0) (.slice none 0 0)) := C3.of T2
  have HA : Hid _ := h
  have HR : Hid _ := hr
  have hrd := read_root (h.below HBW.out).dk ((h.below HBW.out).laid hL hB)
  have HLW : Hid (∀ x G D', Ap B w0 x d D' G → Laid x) := fun x G D' hx => hx.laid hL hB
  have HRR : Hid (readR D = if D.dark = true then (noR, false, 15) else (rootD D, decide (0 < (rootD D).serial), 0)) := rfl
  have HWR : Hid (writeR D rb rl = if D.dark = true then (D, noR, 15)
    else if isR (nextR D rb rl) = false then (D, noR, 2)
    else if (placeR D (nameR (nextR D rb rl).serial) (frameL (bodyR (nextR D rb rl)))).2 ≠ 0 then ((placeR D (nameR (nextR D rb rl).serial) (frameL (bodyR (nextR D rb rl)))).1, noR, (placeR D (nameR (nextR D rb rl).serial) (frameL (bodyR (nextR D rb rl)))).2)
    else ((placeR D (nameR (nextR D rb rl).serial) (frameL (bodyR (nextR D rb rl)))).1, nextR D rb rl, 0)) := rfl
  clear T1 T2 T3 h hr
  cases hd : D.dark with
  | true =>
    rw [HRR.out, hd, if_pos rfl] at hrd
    rw [hd, if_pos rfl] at HWR
    go_enter Tryd.func15, Tryd.ntmps15
    go_wp2_with fail
    rw [← HW.out]
    refine hrd.mono ?_
    clear hrd
    rintro e w1 ⟨v1, rfl, ho1, hb1⟩
    obtain ⟨a1, p1, hv1, -⟩ := id ho1.rd
    have hz : (noR.blob.length : Nat) = 0 := rfl
    rw [hz] at hv1
    subst hv1
    have HBX : Hid (Below w1.heap.size w1 (w1.alloc (Obj.cells #[.int .i64 noR.serial, .int .i64 noR.batch, .slice a1 0 p1] 24))) := (Below.refl _ _).alloc (Nat.le_refl _) _
    have HB3 : Hid _ := below_call (below_call HBW.out hb1) HBX.out
    have HC3 : Hid _ := C3.below (C3.below HC.out hb1) HBX.out
    clear ho1 hb1
    obtain ⟨g0, c0, c1, c2, f0, f1, f2⟩ := HC3.out
    go_wp2_with fail
    refine bodyPost_ret (v := .tuple #[.agg #[.int .i64 0, .int .i64 0, .slice none 0 0], .int .i64 15]) (by simp [results, Tryd.results15, go_sem, c0, c1, c2]) rfl ?_
    rw [HWR.out]
    have hbl : ∀ a b c, Below w.heap.size w (set3 (w1.alloc (Obj.cells #[.int .i64 noR.serial, .int .i64 noR.batch, .slice a1 0 p1] 24)) (w.heap.size + 1) a b c) := fun a b c => below_set3 HB3.out _ _ _ (by omega)
    exact ⟨_, rfl, F, by first | exact HA.out.below HB3.out | exact HA.out.below (hbl _ _ _), by first | exact Step.below HB3.out | exact Step.below (hbl _ _ _), RdK.nil _ _⟩
  | false =>
    rw [HRR.out, hd, if_neg (by simp)] at hrd
    rw [hd, if_neg (by simp)] at HWR
    have HRG : Hid _ := rootD_range D
    have HNX : Hid (nextR D rb rl = ⟨(rootD D).serial + 1, rb, rl⟩) := rfl
    obtain ⟨O, HO⟩ := named (rootD D)
    rw [← HO.out] at hrd HRG HNX
    obtain ⟨os, ob, ol⟩ := O
    simp only at hrd HRG HNX
    rw [HNX.out] at HWR
    obtain ⟨ho1, ho2⟩ := HRG.out
    obtain ⟨k, hk⟩ : ∃ k : Nat, (os + 1) % 2 = k := ⟨((os + 1) % 2).toNat, by omega⟩
    have hk2 : k < 2 := by omega
    have hkm : (os + 1).tmod 2 = k := by rw [Int.tmod_eq_emod_of_nonneg (by omega)]; exact hk
    have HNM : Hid _ := nameR_k _ k hk hk2
    have HLR : Hid (∀ x, Below w.heap.size w x → Rd x (.slice ao n cap) rl) := fun x hx => HR.out.1.below hx
    have HBY : Hid (∀ x, Rd x (.slice ao n cap) rl → Calls Tryd.prog 10 #[.agg #[.int .i64 (os + 1), .int .i64 rb, .slice ao n cap]] x fun e w' => ∃ v', e = .returned (.tuple #[v', .int .i64 (bytesR ⟨os + 1, rb, rl⟩).2]) ∧ Own w' x.heap.size v' (bytesR ⟨os + 1, rb, rl⟩).1 ∧ Below x.heap.size x w') := fun x hx => bytes_any _ _ _ rl x hx (by rw [← HN.out]; omega)
    have HBR : Hid (bytesR ⟨os + 1, rb, rl⟩ = if isR ⟨os + 1, rb, rl⟩ = true then (frameL (bodyR ⟨os + 1, rb, rl⟩), 0) else ([], 2)) := rfl
    obtain ⟨N, HNN⟩ := named (⟨os + 1, rb, rl⟩ : AR)
    rw [← HNN.out] at HBY HBR HWR
    have HNF : Hid (N.serial = os + 1 ∧ N.batch = rb ∧ N.blob = rl) := by show _ ∧ _; rw [HNN.out]; exact ⟨rfl, rfl, rfl⟩
    rw [HNF.out.1, HNM.out] at HWR
    cases hri : isR N with
    | false =>
      rw [hri, if_neg (by simp)] at HBR
      rw [hri, if_pos rfl] at HWR
      rw [HBR.out] at HBY
      go_enter Tryd.func15, Tryd.ntmps15
      go_wp2_with fail
      rw [← HW.out]
      refine hrd.mono ?_
      clear hrd
      rintro e w1 ⟨v1, rfl, hown1, hb1⟩
      obtain ⟨a1, p1, hv1, -⟩ := id hown1.rd
      obtain ⟨k1, HK1⟩ := named ol.length
      rw [← HK1.out] at hv1
      subst hv1
      obtain ⟨X, HX⟩ := named (w1.alloc (Obj.cells #[.int .i64 os, .int .i64 ob, .slice a1 k1 p1] 24))
      have HBX : Hid (Below w1.heap.size w1 X) := by show Below _ _ _; rw [HX.out]; exact (Below.refl _ _).alloc (Nat.le_refl _) _
      have HCX : Hid (C3 X w1.heap.size (.int .i64 os) (.int .i64 ob) (.slice a1 k1 p1)) := by show C3 _ _ _ _ _; rw [HX.out]; exact C3.new _ _ _ _ _
      have HBWX : Hid _ := below_call (below_call HBW.out hb1) HBX.out
      have HCR1 : Hid _ := C3.below (C3.below HCR.out hb1) HBX.out
      have HC1 : Hid _ := C3.below (C3.below HC.out hb1) HBX.out
      clear hown1 hb1
      obtain ⟨x0, y0, y1, y2, -⟩ := HCX.out
      obtain ⟨q0, r0, r1, r2, s0, s1, s2⟩ := HCR1.out
      have HBY1 : Hid (Below w.heap.size w (X.setCell ⟨w.heap.size, 0, none⟩ (.int .i64 (os + 1)))) := Below.setCell HBWX.out (Nat.le_refl _) _
      have hby := HBY.out _ (HLR.out _ HBY1.out)
      go_wp2_with (rw [← HX.out])
      refine hby.mono ?_
      clear hby
      rintro e w2 ⟨v2, rfl, hown2, hb2⟩
      have HC2 : Hid _ := C3.below (C3.one (g' := w.heap.size) (o := 0) (.int .i64 (os + 1)) HC1.out (by omega)) hb2
      have HB2 : Hid _ := below_call HBY1.out hb2
      clear hown2 hb2 x0 y0 y1 y2 q0 r0 r1 r2 s0 s1 s2
      obtain ⟨g0, c0, c1, c2, f0, f1, f2⟩ := HC2.out
      go_wp2_with fail
      refine bodyPost_ret (v := .tuple #[.agg #[.int .i64 0, .int .i64 0, .slice none 0 0], .int .i64 2]) (by simp [results, Tryd.results15, go_sem, c0, c1, c2]) rfl ?_
      rw [HWR.out]
      have hbl : ∀ a b c, Below w.heap.size w (set3 w2 (w.heap.size + 1) a b c) := fun a b c => below_set3 HB2.out _ _ _ (by omega)
      exact ⟨_, rfl, F, by first | exact HA.out.below HB2.out | exact HA.out.below (hbl _ _ _), by first | exact Step.below HB2.out | exact Step.below (hbl _ _ _), RdK.nil _ _⟩
    | true =>
      rw [hri, if_pos rfl] at HBR
      rw [hri, if_neg (by simp)] at HWR
      rw [HBR.out] at HBY
      obtain ⟨bs, HBS⟩ := named (frameL (bodyR N))
      rw [← HBS.out] at HBY HWR
      have HPL : Hid (∀ x sb, Ap B w0 x d D F → RdK x F sb bs → Calls Tryd.prog 44 #[d, .string (nmI k), sb] x fun e w' => e = .returned (.int .i64 (placeR D (nmI k) bs).2) ∧ ∃ G, Ap B w0 w' d (placeR D (nmI k) bs).1 G ∧ Step F x w' G) := fun x sb hx hs => hx.place (nmI k) (by unfold nmI; split <;> decide) sb bs hs
      obtain ⟨P, HPP⟩ := named (placeR D (nmI k) bs)
      rw [← HPP.out] at HPL HWR
      obtain ⟨D', px⟩ := P
      simp only at HPL HWR
      obtain ⟨nm, HNMM⟩ := named (nmI k)
      have HLN : Hid (∀ x, Laid x → x.cell? ⟨0, k, none⟩ = some (.string nm)) := fun x hx => by rw [HNMM.out]; exact hx.at k hk2
      rw [← HNMM.out] at HPL
      have HSUB : Hid (∀ b, F b → b < w.heap.size) := fun b hF => (HA.out.sub b hF).2
      by_cases hpx : px = 0
      · subst hpx
        rw [if_neg (by simp)] at HWR
        go_enter Tryd.func15, Tryd.ntmps15
        go_wp2_with fail
        rw [← HW.out]
        refine hrd.mono ?_
        clear hrd
        rintro e w1 ⟨v1, rfl, hown1, hb1⟩
        obtain ⟨a1, p1, hv1, -⟩ := id hown1.rd
        obtain ⟨k1, HK1⟩ := named ol.length
        rw [← HK1.out] at hv1
        subst hv1
        obtain ⟨X, HX⟩ := named (w1.alloc (Obj.cells #[.int .i64 os, .int .i64 ob, .slice a1 k1 p1] 24))
        have HBX : Hid (Below w1.heap.size w1 X) := by show Below _ _ _; rw [HX.out]; exact (Below.refl _ _).alloc (Nat.le_refl _) _
        have HCX : Hid (C3 X w1.heap.size (.int .i64 os) (.int .i64 ob) (.slice a1 k1 p1)) := by show C3 _ _ _ _ _; rw [HX.out]; exact C3.new _ _ _ _ _
        have HBWX : Hid _ := below_call (below_call HBW.out hb1) HBX.out
        have HCR1 : Hid _ := C3.below (C3.below HCR.out hb1) HBX.out
        have HC1 : Hid _ := C3.below (C3.below HC.out hb1) HBX.out
        clear hown1 hb1
        obtain ⟨x0, y0, y1, y2, -⟩ := HCX.out
        obtain ⟨q0, r0, r1, r2, s0, s1, s2⟩ := HCR1.out
        have HBY1 : Hid (Below w.heap.size w (X.setCell ⟨w.heap.size, 0, none⟩ (.int .i64 (os + 1)))) := Below.setCell HBWX.out (Nat.le_refl _) _
        have hby := HBY.out _ (HLR.out _ HBY1.out)
        go_wp2_with (rw [← HX.out])
        refine hby.mono ?_
        clear hby
        rintro e w2 ⟨v2, rfl, hown2, hb2⟩
        have HC2 : Hid _ := C3.below (C3.one (g' := w.heap.size) (o := 0) (.int .i64 (os + 1)) HC1.out (by omega)) hb2
        have HCR2 : Hid _ := C3.below (C3.first (.int .i64 (os + 1)) HCR1.out) hb2
        have HB2 : Hid _ := below_call HBY1.out hb2
        have HA2 : Hid _ := Ap.below HA.out HB2.out
        have HR2 : Hid _ := RdK.below HR.out HB2.out
        have hpl := HPL.out w2 v2 HA2.out (RdK.own hown2 (fun b hF => Nat.lt_of_lt_of_le (HSUB.out b hF) HBY1.out.size))
        have hcn := HLN.out w2 (HLW.out _ _ _ HA2.out)
        clear hown2 hb2 x0 y0 y1 y2 q0 r0 r1 r2 s0 s1 s2
        obtain ⟨q0, r0, r1, r2, s0, s1, s2⟩ := HCR2.out
        go_wp2_with fail
        refine hpl.mono ?_
        clear hpl
        rintro e w3 ⟨rfl, G, hA3, hS3⟩
        obtain ⟨HCR3, -⟩ := C3.step HCR2.out (fun hF => Nat.lt_irrefl _ (HSUB.out _ hF)) hS3
        obtain ⟨HC3, -⟩ := C3.step HC2.out (fun hF => by have := HSUB.out _ hF; omega) hS3
        have HR3 : Hid _ := RdK.step HR2.out hS3
        have HA3 : Hid _ := hA3
        have HS3 : Hid _ := hS3
        have hcc := concat1 w3 (.slice ao n cap) rl HR3.out.1 (by rw [← HN.out]; omega)
        have HCR3' : Hid _ := HCR3
        have HC3' : Hid _ := HC3
        clear HCR3 HC3 hA3 hS3 q0 r0 r1 r2 s0 s1 s2 hcn
        obtain ⟨q0, r0, r1, r2, s0, s1, s2⟩ := HCR3'.out
        go_wp2_with fail
        refine hcc.mono ?_
        clear hcc
        rintro e w4 ⟨v4, rfl, hown4, hb4⟩
        obtain ⟨a4, p4, hv4, -⟩ := id hown4.rd
        rw [← HN.out] at hv4
        subst hv4
        have HO4 : Hid _ := hown4
        have HB4 : Hid _ := hb4
        have HCR4 : Hid _ := C3.below HCR3'.out hb4
        have HC4 : Hid _ := C3.below HC3'.out hb4
        clear hown4 hb4 q0 r0 r1 r2 s0 s1 s2
        obtain ⟨q0, r0, r1, r2, s0, s1, s2⟩ := HCR4.out
        obtain ⟨g0, c0, c1, c2, f0, f1, f2⟩ := HC4.out
        go_wp2_with fail
        refine bodyPost_ret (v := .tuple #[.agg #[.int .i64 (os + 1), .int .i64 rb, .slice a4 n p4], .int .i64 0]) (by simp [results, Tryd.results15, go_sem, c0, c1, c2]) rfl ?_
        rw [HWR.out]
        have hsz2 : w.heap.size + 2 ≤ w2.heap.size := by
          have := HC2.out.1
          omega
        have hsz3 := HS3.out.chg.size
        have hP : Chg (fun b => b = w.heap.size ∨ b = w.heap.size + 1) w4 (set3 (w4.setCell ⟨w.heap.size, 2, none⟩ (.slice a4 n p4)) (w.heap.size + 1) (.int .i64 (os + 1)) (.int .i64 rb) (.slice a4 n p4)) :=
          ((((Chg.refl _ w4).setCell (.inl (.inl rfl)) _).setCell (.inl (.inr rfl)) _).setCell (.inl (.inr rfl)) _).setCell (.inl (.inr rfl)) _
        have hnG : ∀ b, (b = w.heap.size ∨ b = w.heap.size + 1) → ¬ G b ∧ B ≤ b := fun b hb => by
          have hle := HA.out.le
          refine ⟨fun hG => ?_, by omega⟩
          rcases HS3.out.new b hG with h' | h'
          · have := HSUB.out b h'; omega
          · omega
        have hown : ∀ a, (Value.slice a4 n p4).ownBlock = some a → w3.heap.size ≤ a := fun a ha => (World.ownsRow.lt HO4.out a ha).1
        have hch : Chg F w w4 := ((Step.below HB2.out).trans HS3.out).chg.trans (Chg.ofBelow HB4.out G) (fun i hi hG => (((Step.below HB2.out).trans HS3.out).new i hG).elim id (fun h' => by omega))
        refine ⟨.slice a4 n p4, by rw [HNF.out.1, HNF.out.2.1]; rfl, G, (HA3.out.below HB4.out).out hP hnG, ⟨hch.trans hP (fun i hi hb => by rcases hb with rfl | rfl <;> omega), ((Step.below HB2.out).trans HS3.out).new⟩, ?_, ?_⟩
        · rw [HNF.out.2.2]
          exact (Own.rd HO4.out).chg hP (fun a ha _ hb => by have := hown a ha; omega)
        · intro a ha _ hG
          have := hown a ha
          have := (HA3.out.sub a hG).2
          omega
      · rw [if_pos hpx] at HWR
        have hpx' : ((px : Int) == 0) = false := by simp only [beq_eq_false_iff_ne]; omega
        go_enter Tryd.func15, Tryd.ntmps15
        go_wp2_with fail
        rw [← HW.out]
        refine hrd.mono ?_
        clear hrd
        rintro e w1 ⟨v1, rfl, hown1, hb1⟩
        obtain ⟨a1, p1, hv1, -⟩ := id hown1.rd
        obtain ⟨k1, HK1⟩ := named ol.length
        rw [← HK1.out] at hv1
        subst hv1
        obtain ⟨X, HX⟩ := named (w1.alloc (Obj.cells #[.int .i64 os, .int .i64 ob, .slice a1 k1 p1] 24))
        have HBX : Hid (Below w1.heap.size w1 X) := by show Below _ _ _; rw [HX.out]; exact (Below.refl _ _).alloc (Nat.le_refl _) _
        have HCX : Hid (C3 X w1.heap.size (.int .i64 os) (.int .i64 ob) (.slice a1 k1 p1)) := by show C3 _ _ _ _ _; rw [HX.out]; exact C3.new _ _ _ _ _
        have HBWX : Hid _ := below_call (below_call HBW.out hb1) HBX.out
        have HCR1 : Hid _ := C3.below (C3.below HCR.out hb1) HBX.out
        have HC1 : Hid _ := C3.below (C3.below HC.out hb1) HBX.out
        clear hown1 hb1
        obtain ⟨x0, y0, y1, y2, -⟩ := HCX.out
        obtain ⟨q0, r0, r1, r2, s0, s1, s2⟩ := HCR1.out
        have HBY1 : Hid (Below w.heap.size w (X.setCell ⟨w.heap.size, 0, none⟩ (.int .i64 (os + 1)))) := Below.setCell HBWX.out (Nat.le_refl _) _
        have hby := HBY.out _ (HLR.out _ HBY1.out)
        go_wp2_with (rw [← HX.out])
        refine hby.mono ?_
        clear hby
        rintro e w2 ⟨v2, rfl, hown2, hb2⟩
        have HC2 : Hid _ := C3.below (C3.one (g' := w.heap.size) (o := 0) (.int .i64 (os + 1)) HC1.out (by omega)) hb2
        have HCR2 : Hid _ := C3.below (C3.first (.int .i64 (os + 1)) HCR1.out) hb2
        have HB2 : Hid _ := below_call HBY1.out hb2
        have HA2 : Hid _ := Ap.below HA.out HB2.out
        have HR2 : Hid _ := RdK.below HR.out HB2.out
        have hpl := HPL.out w2 v2 HA2.out (RdK.own hown2 (fun b hF => Nat.lt_of_lt_of_le (HSUB.out b hF) HBY1.out.size))
        have hcn := HLN.out w2 (HLW.out _ _ _ HA2.out)
        clear hown2 hb2 x0 y0 y1 y2 q0 r0 r1 r2 s0 s1 s2
        obtain ⟨q0, r0, r1, r2, s0, s1, s2⟩ := HCR2.out
        go_wp2_with fail
        refine hpl.mono ?_
        clear hpl
        rintro e w3 ⟨rfl, G, hA3, hS3⟩
        obtain ⟨HC3, -⟩ := C3.step HC2.out (fun hF => by have := HSUB.out _ hF; omega) hS3
        have HA3 : Hid _ := hA3
        have HS3 : Hid _ := hS3
        have HC3' : Hid _ := HC3
        clear HC3 hA3 hS3 q0 r0 r1 r2 s0 s1 s2 hcn
        obtain ⟨g0, c0, c1, c2, f0, f1, f2⟩ := HC3'.out
        go_wp2_with fail
        refine bodyPost_ret (v := .tuple #[.agg #[.int .i64 0, .int .i64 0, .slice none 0 0], .int .i64 px]) (by simp [results, Tryd.results15, go_sem, c0, c1, c2]) rfl ?_
        rw [HWR.out]
        have hsz2 : w.heap.size + 2 ≤ w2.heap.size := by
          have := HC2.out.1
          omega
        have hP : Chg (fun b => b = w.heap.size ∨ b = w.heap.size + 1) w3 (set3 w3 (w.heap.size + 1) (.int .i64 0) (.int .i64 0) (.slice none 0 0)) :=
          (((Chg.refl _ w3).setCell (.inl (.inr rfl)) _).setCell (.inl (.inr rfl)) _).setCell (.inl (.inr rfl)) _
        have hnG : ∀ b, (b = w.heap.size ∨ b = w.heap.size + 1) → ¬ G b ∧ B ≤ b := fun b hb => by
          have hle := HA.out.le
          refine ⟨fun hG => ?_, by omega⟩
          rcases HS3.out.new b hG with h' | h'
          · have := HSUB.out b h'; omega
          · omega
        have hst := (Step.below HB2.out).trans HS3.out
        exact ⟨_, rfl, G, by first | exact HA3.out | exact HA3.out.out hP hnG, by first | exact hst | exact ⟨hst.chg.trans hP (fun i hi hb => by omega), hst.new⟩, RdK.nil _ _⟩
end Go.Proofs.YtffgbjojngnebaaDoor
