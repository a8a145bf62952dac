/-
  One of my texts, Ji. Own work.
-/
import Derived.Test.YtpiiehenmkinaaaDoorU8
/-
  The contract of the independent reading's Read. Own work.
-/
namespace Go.Proofs.YtpiiehenmkinaaaDoor
open Go.RowKit

theorem C3.first {w : World} {g : Nat} {a b c : Value} (x : Value) (h : C3 w g a b c) : C3 (w.setCell ⟨g, 0, none⟩ x) g x b c := by
  obtain ⟨h0, h1, h2, h3, h4, h5, h6⟩ := h
  exact ⟨by simpa [World.setCell] using h0, World.cell?_setCell_same _ _ _ h1, (cell_other _ _ _ _ _ _ (.inr (by omega))).trans h2, (cell_other _ _ _ _ _ _ (.inr (by omega))).trans h3, by simpa using h4, by simpa using h5, by simpa using h6⟩
theorem Rdr.far {w0 w : World} {rb pb o : Nat} {bv : Value} {l : List UInt8} {st : RS} (x : Value) (h : Rdr w0 w rb bv l st) (hp : pb ≠ rb) (hw : w0.heap.size ≤ pb) : Rdr w0 (w.setCell ⟨pb, o, none⟩ x) rb bv l st :=
  ⟨h.c.one _ (fun e => hp e.symm), h.lt, h.rd, h.bel.setCell (p := ⟨pb, o, none⟩) hw _⟩
theorem OwnC.farB {w : World} {base b o : Nat} {v : Value} {l : List Ins} (x : Value) (h : OwnC w base v l) (hb : b < base) : OwnC (w.setCell ⟨b, o, none⟩ x) base v l :=
  h.heap fun a ha => Below.heap_setCell _ _ _ _ (by have := (h.lt a ha).1; show a ≠ b; omega)
theorem OwnC.chg {w w' : World} {base b : Nat} {v : Value} {l : List Ins} (h : OwnC w base v l) (hc : ChgB b w w') (hb : b < base) : OwnC w' base v l :=
  h.heap fun a ha => hc.block a (h.lt a ha).2 (by have := (h.lt a ha).1; omega)
theorem C6.s1 {w : World} {g : Nat} {c0 c1 c2 c3 c4 c5 : Value} (x : Value) (h : C6 w g c0 c1 c2 c3 c4 c5) : C6 (w.setCell ⟨g, 1, none⟩ x) g c0 x c2 c3 c4 c5 := by
  obtain ⟨h0, ⟨a0, a1, a2, a3, a4, a5⟩, ⟨f0, f1, f2, f3, f4, f5⟩⟩ := h
  exact ⟨by simpa [World.setCell] using h0, ⟨(cell_other _ _ _ _ _ _ (.inr (by omega))).trans a0, World.cell?_setCell_same _ _ _ a1, (cell_other _ _ _ _ _ _ (.inr (by omega))).trans a2, (cell_other _ _ _ _ _ _ (.inr (by omega))).trans a3, (cell_other _ _ _ _ _ _ (.inr (by omega))).trans a4, (cell_other _ _ _ _ _ _ (.inr (by omega))).trans a5⟩, ⟨by simpa using f0, by simpa using f1, by simpa using f2, by simpa using f3, by simpa using f4, by simpa using f5⟩⟩
theorem C6.s2 {w : World} {g : Nat} {c0 c1 c2 c3 c4 c5 : Value} (x : Value) (h : C6 w g c0 c1 c2 c3 c4 c5) : C6 (w.setCell ⟨g, 2, none⟩ x) g c0 c1 x c3 c4 c5 := by
  obtain ⟨h0, ⟨a0, a1, a2, a3, a4, a5⟩, ⟨f0, f1, f2, f3, f4, f5⟩⟩ := h
  exact ⟨by simpa [World.setCell] using h0, ⟨(cell_other _ _ _ _ _ _ (.inr (by omega))).trans a0, (cell_other _ _ _ _ _ _ (.inr (by omega))).trans a1, World.cell?_setCell_same _ _ _ a2, (cell_other _ _ _ _ _ _ (.inr (by omega))).trans a3, (cell_other _ _ _ _ _ _ (.inr (by omega))).trans a4, (cell_other _ _ _ _ _ _ (.inr (by omega))).trans a5⟩, ⟨by simpa using f0, by simpa using f1, by simpa using f2, by simpa using f3, by simpa using f4, by simpa using f5⟩⟩
theorem C6.s3 {w : World} {g : Nat} {c0 c1 c2 c3 c4 c5 : Value} (x : Value) (h : C6 w g c0 c1 c2 c3 c4 c5) : C6 (w.setCell ⟨g, 3, none⟩ x) g c0 c1 c2 x c4 c5 := by
  obtain ⟨h0, ⟨a0, a1, a2, a3, a4, a5⟩, ⟨f0, f1, f2, f3, f4, f5⟩⟩ := h
  exact ⟨by simpa [World.setCell] using h0, ⟨(cell_other _ _ _ _ _ _ (.inr (by omega))).trans a0, (cell_other _ _ _ _ _ _ (.inr (by omega))).trans a1, (cell_other _ _ _ _ _ _ (.inr (by omega))).trans a2, World.cell?_setCell_same _ _ _ a3, (cell_other _ _ _ _ _ _ (.inr (by omega))).trans a4, (cell_other _ _ _ _ _ _ (.inr (by omega))).trans a5⟩, ⟨by simpa using f0, by simpa using f1, by simpa using f2, by simpa using f3, by simpa using f4, by simpa using f5⟩⟩
theorem C6.s4 {w : World} {g : Nat} {c0 c1 c2 c3 c4 c5 : Value} (x : Value) (h : C6 w g c0 c1 c2 c3 c4 c5) : C6 (w.setCell ⟨g, 4, none⟩ x) g c0 c1 c2 c3 x c5 := by
  obtain ⟨h0, ⟨a0, a1, a2, a3, a4, a5⟩, ⟨f0, f1, f2, f3, f4, f5⟩⟩ := h
  exact ⟨by simpa [World.setCell] using h0, ⟨(cell_other _ _ _ _ _ _ (.inr (by omega))).trans a0, (cell_other _ _ _ _ _ _ (.inr (by omega))).trans a1, (cell_other _ _ _ _ _ _ (.inr (by omega))).trans a2, (cell_other _ _ _ _ _ _ (.inr (by omega))).trans a3, World.cell?_setCell_same _ _ _ a4, (cell_other _ _ _ _ _ _ (.inr (by omega))).trans a5⟩, ⟨by simpa using f0, by simpa using f1, by simpa using f2, by simpa using f3, by simpa using f4, by simpa using f5⟩⟩
theorem C6.s5 {w : World} {g : Nat} {c0 c1 c2 c3 c4 c5 : Value} (x : Value) (h : C6 w g c0 c1 c2 c3 c4 c5) : C6 (w.setCell ⟨g, 5, none⟩ x) g c0 c1 c2 c3 c4 x := by
  obtain ⟨h0, ⟨a0, a1, a2, a3, a4, a5⟩, ⟨f0, f1, f2, f3, f4, f5⟩⟩ := h
  exact ⟨by simpa [World.setCell] using h0, ⟨(cell_other _ _ _ _ _ _ (.inr (by omega))).trans a0, (cell_other _ _ _ _ _ _ (.inr (by omega))).trans a1, (cell_other _ _ _ _ _ _ (.inr (by omega))).trans a2, (cell_other _ _ _ _ _ _ (.inr (by omega))).trans a3, (cell_other _ _ _ _ _ _ (.inr (by omega))).trans a4, World.cell?_setCell_same _ _ _ a5⟩, ⟨by simpa using f0, by simpa using f1, by simpa using f2, by simpa using f3, by simpa using f4, by simpa using f5⟩⟩
theorem noP_ret : prgV (noP, (100 : Nat)).1 (.slice none 0 0) = .agg #[.string ⟨#[]⟩, .int .i64 0, .slice none 0 0] := rfl

set_option maxRecDepth 100000 in
set_option maxHeartbeats 6400000 in
theorem refRead_any (v : Value) (l : List UInt8) (w : World) (hrd : Rd w v l) (hl : l.length ≤ 1000000) :
    Calls Tryd.prog 13 #[v] w fun e w' => ∃ cv, e = .returned (.tuple #[prgV (readR l).1 cv, .int .i64 ((readR l).2 : Int)]) ∧ RdC w' cv (readR l).1.code ∧ Below w.heap.size w w' := by
  obtain ⟨ao, cap, hv, -⟩ := id hrd
  subst hv
  obtain ⟨n, HN⟩ := named l.length
  have hl2 := hl
  rw [← HN.out] at hrd hl2 ⊢
  obtain ⟨W1, HW1⟩ := named (w.alloc (.cells #[.string ⟨#[]⟩, .int .i64 0, .slice none 0 0] 24))
  have hb1 : Below w.heap.size w W1 := by rw [HW1.out]; exact (Below.refl _ _).alloc (Nat.le_refl _) _
  have hz1 : W1.heap.size = w.heap.size + 1 := by rw [HW1.out]; simp
  obtain ⟨W2, HW2⟩ := named (W1.alloc (.cells #[.string ⟨#[]⟩, .int .i64 0, .slice none 0 0] 24))
  have hb2 : Below W1.heap.size W1 W2 := by rw [HW2.out]; exact (Below.refl _ _).alloc (Nat.le_refl _) _
  have hz2 : W2.heap.size = w.heap.size + 1 + 1 := by rw [HW2.out, ← hz1]; simp
  obtain ⟨W3, HW3⟩ := named (W2.alloc (.cells #[.slice ao n cap, .int .i64 0, .bool false] 67))
  have hb3 : Below W2.heap.size W2 W3 := by rw [HW3.out]; exact (Below.refl _ _).alloc (Nat.le_refl _) _
  have hz3 : W3.heap.size = w.heap.size + 3 := by rw [HW3.out]; simp; omega
  obtain ⟨sb, HSB⟩ := named w.heap.size
  have hs1 : C3 W1 sb (.string ⟨#[]⟩) (.int .i64 0) (.slice none 0 0) := by rw [HW1.out, HSB.out]; exact C3.new _ _ _ _ _
  obtain ⟨pb, HPB⟩ := named (w.heap.size + 1)
  have hp2 : C3 W2 pb (.string ⟨#[]⟩) (.int .i64 0) (.slice none 0 0) := by rw [HW2.out, HPB.out, ← hz1]; exact C3.new _ _ _ _ _
  obtain ⟨rb, HRB⟩ := named (w.heap.size + 1 + 1)
  have hr3 : C3 W3 rb (.slice ao n cap) (.int .i64 0) (.bool false) := by rw [HW3.out, HRB.out, ← hz2]; exact C3.new _ _ _ _ _
  have HR3 := hide (show Rdr w W3 rb (.slice ao n cap) l (0, false) from ⟨hr3, by rw [HRB.out]; omega, hrd, below_call hb1 (below_call hb2 hb3)⟩)
  have HS3 := hide ((hs1.below hb2).below hb3)
  have HP3 := hide (hp2.below hb3)
  have hsp : sb ≠ pb := by rw [HSB.out, HPB.out]; omega
  have hsr : sb ≠ rb := by rw [HSB.out, HRB.out]; omega
  have hpr : pb ≠ rb := by rw [HPB.out, HRB.out]; omega
  have hwp : w.heap.size ≤ pb := by rw [HPB.out]; omega
  have hws : w.heap.size ≤ sb := by rw [HSB.out]; exact Nat.le_refl _
  have hwr : w.heap.size ≤ rb := by rw [HRB.out]; omega
  obtain ⟨B, HB⟩ := named (w.heap.size + 3)
  have hpB : pb < B := by rw [HPB.out, HB.out]; omega
  have hsB : sb < B := by rw [HSB.out, HB.out]; omega
  have hrB : rb < B := by rw [HRB.out, HB.out]; omega
  have HZ3 := hide (show B ≤ W3.heap.size by rw [hz3, HB.out]; exact Nat.le_refl _)
  obtain ⟨T, HT⟩ := named (nameQ l)
  obtain ⟨M, HM⟩ := named (regsQ l)
  obtain ⟨C, HC⟩ := named (cntQ l)
  obtain ⟨D, HD⟩ := named (endQ l)
  have hcl : C.1 ≤ 1000 := by rw [HC.out]; exact numR_le _ _ _
  have hPQ : prgQ l = ⟨⟨T.1.toArray⟩, (M.1 : Nat), D.1⟩ := by rw [HT.out, HM.out, HD.out]; rfl
  have hDC : D = codeQ l C.1 C.2 [] := by rw [HD.out, HC.out]; rfl
  have hbad : D.2.2 = true → readR l = (noP, 100) := fun h => by
    rw [readQ_eq, if_neg]
    unfold goodQ
    rw [← HD.out, h]
    simp
  have hgood : D.2.2 = false → readR l = if (okP (prgQ l) 20 && decide (bytesP (prgQ l) = l)) = true then (prgQ l, 0) else (noP, 100) := fun h => by
    rw [readQ_eq]
    unfold goodQ
    rw [← HD.out, h]
    rfl
  have HWF := hide (prgQ_wf l)
  obtain ⟨PQ, HPQN⟩ := named (prgQ l)
  rw [← HPQN.out] at hgood hPQ HWF
  obtain ⟨Q, HQ⟩ := named (readR l)
  rw [← HQ.out] at hbad hgood ⊢
  have HBAD := hide hbad
  have HGOOD := hide hgood
  have HPQ := hide hPQ
  have HDC := hide hDC
  clear hrd hb1 hb2 hb3 hs1 hp2 hr3 hz1 hz2 hz3 hbad hgood hPQ hDC
  go_enter Tryd.func13, Tryd.ntmps13
  go_wp2_with fail
  rw [← HW1.out, ← HW2.out, ← HW3.out, ← HRB.out, ← HPB.out, ← HSB.out]
  have kc := eyeText_any HR3.out hl
  rw [show txtQ l (0, false) = T from HT.out.symm] at kc
  refine kc.mono ?_
  rintro e w4 ⟨rfl, hr4, hg4⟩
  have HP4 := hide (HP3.out.chg hg4 hpr)
  have HS4 := hide (HS3.out.chg hg4 hsr)
  have HZ4 := hide (show B ≤ w4.heap.size from Nat.le_trans HZ3.out hg4.size)
  obtain ⟨W5, HW5⟩ := named (w4.setCell ⟨pb, 0, none⟩ (.string ⟨T.1.toArray⟩))
  have HR5 := hide (show Rdr w W5 rb (.slice ao n cap) l T.2 by rw [HW5.out]; exact hr4.far _ hpr hwp)
  have HP5 := hide (show C3 W5 pb (.string ⟨T.1.toArray⟩) (.int .i64 0) (.slice none 0 0) by rw [HW5.out]; exact HP4.out.first _)
  have HS5 := hide (show C3 W5 sb (.string ⟨#[]⟩) (.int .i64 0) (.slice none 0 0) by rw [HW5.out]; exact HS4.out.one _ hsp)
  have HZ5 := hide (show B ≤ W5.heap.size by rw [HW5.out]; simpa [World.setCell] using HZ4.out)
  obtain ⟨-, x0, x1, x2, y0, y1, y2⟩ := id HP4.out
  clear kc hr4 hg4
  go_wp2_with fail
  rw [← HW5.out]
  have kc := eyeNum_any HR5.out hl
  rw [show numR l 1000 T.2 = M by rw [HM.out, HT.out]; rfl] at kc
  refine kc.mono ?_
  rintro e w6 ⟨rfl, hr6, hg6⟩
  have HP6 := hide (HP5.out.chg hg6 hpr)
  have HS6 := hide (HS5.out.chg hg6 hsr)
  have HZ6 := hide (show B ≤ w6.heap.size from Nat.le_trans HZ5.out hg6.size)
  obtain ⟨W7, HW7⟩ := named (w6.setCell ⟨pb, 1, none⟩ (.int .i64 (M.1 : Int)))
  have HR7 := hide (show Rdr w W7 rb (.slice ao n cap) l M.2 by rw [HW7.out]; exact hr6.far _ hpr hwp)
  have HP7 := hide (show C3 W7 pb (.string ⟨T.1.toArray⟩) (.int .i64 (M.1 : Int)) (.slice none 0 0) by rw [HW7.out]; exact HP6.out.second _)
  have HS7 := hide (show C3 W7 sb (.string ⟨#[]⟩) (.int .i64 0) (.slice none 0 0) by rw [HW7.out]; exact HS6.out.one _ hsp)
  have HZ7 := hide (show B ≤ W7.heap.size by rw [HW7.out]; simpa [World.setCell] using HZ6.out)
  clear x0 x1 x2 y0 y1 y2
  obtain ⟨-, x0, x1, x2, y0, y1, y2⟩ := id HP6.out
  clear kc hr6 hg6
  go_wp2_with fail
  rw [← HW7.out]
  have kc := eyeNum_any HR7.out hl
  rw [show numR l 1000 M.2 = C by rw [HC.out, HM.out]; rfl] at kc
  refine kc.mono ?_
  rintro e w8 ⟨rfl, hr8, hg8⟩
  have HR8 := hide hr8
  have HP8 := hide (HP7.out.chg hg8 hpr)
  have HS8 := hide (HS7.out.chg hg8 hsr)
  have HZ8 := hide (show B ≤ w8.heap.size from Nat.le_trans HZ7.out hg8.size)
  clear x0 x1 x2 y0 y1 y2 kc hr8 hg8
  obtain ⟨m, HMN⟩ := named C.1
  rw [← HMN.out] at hcl HDC ⊢
  go_wp2_with fail
  go_loopw [6] (fun iv wr => ∃ (r : Nat) (st : RS) (acc : List Ins) (cvv : Value), iv = .int .i64 r ∧ acc.length + r = m ∧ Hid (Rdr w wr rb (.slice ao n cap) l st) ∧ Hid (OwnC wr B cvv acc) ∧ Hid (C3 wr pb (.string ⟨T.1.toArray⟩) (.int .i64 (M.1 : Int)) cvv) ∧ Hid (C3 wr sb (.string ⟨#[]⟩) (.int .i64 0) (.slice none 0 0)) ∧ Hid (D = codeQ l r st acc) ∧ Hid (B ≤ wr.heap.size)) (fun iv _ => (intOf iv).toNat)
  case atStart => exact ⟨m, C.2, [], _, rfl, by simp, HR8.out, OwnC.nil _ _, HP8.out, HS8.out, HDC.out, HZ8.out⟩
  case round =>
    obtain ⟨r, st, acc, cvv, rfl, hal, HR, HO, HP, HS, HDR, HBZ⟩ := hrel
    obtain ⟨co, cc, hcv⟩ := HO.out.shape
    obtain ⟨k, HK⟩ := named acc.length
    rw [← HK.out] at hcv hal
    subst hcv
    obtain ⟨-, c0, c1, c2, f0, f1, f2⟩ := id HP.out
    obtain ⟨-, s0, s1, s2, t0, t1, t2⟩ := id HS.out
    obtain ⟨-, z0, z1, z2, g0, g1, g2⟩ := id HR.out.c
    have hbadend : ∀ V : World, Below w.heap.size w V → Below w.heap.size w (set3 V sb (.string ⟨#[]⟩) (.int .i64 0) (.slice none 0 0)) := fun V hV => below_set3 hV _ _ _ hws
    by_cases h0 : r = 0
    · subst h0
      have hD0 : D = (acc, st) := HDR.out
      cases hst : st.2 with
      | true =>
        rw [hst] at z2
        have hq := HBAD.out (by rw [hD0]; exact hst)
        subst hq
        go_wp2
        refine bodyPost_ret (v := .tuple #[.agg #[.string ⟨#[]⟩, .int .i64 0, .slice none 0 0], .int .i64 100]) (by simp [results, Tryd.results13, go_sem, s0, s1, s2]) rfl ?_
        exact ⟨.slice none 0 0, rfl, RdC.nil _, hbadend wr HR.out.bel⟩
      | false =>
        rw [hst] at z2
        have hPQ2 := HPQ.out
        rw [hD0] at hPQ2
        simp only at hPQ2
        have HCO := hide (show RdC wr (.slice co k cc) PQ.code by rw [hPQ2]; exact HO.out.rd)
        have kb := refBytes_any PQ (.slice co k cc) wr HCO.out HWF.out
        rw [show prgV PQ (.slice co k cc) = .agg #[.string ⟨T.1.toArray⟩, .int .i64 (M.1 : Int), .slice co k cc] by rw [hPQ2]; rfl] at kb
        have HPE := hide hPQ2
        have HD0 := hide hD0
        clear hPQ2 hD0
        go_wp2_with fail
        refine kb.mono ?_
        rintro e w9 ⟨v9, rfl, ho9, hb9⟩
        have HB9 := hide (show Below w.heap.size w w9 from below_call HR.out.bel hb9)
        have HS9 := hide (HS.out.below hb9)
        have HP9 := hide (HP.out.below hb9)
        have HO9 := hide (HO.out.below hb9)
        obtain ⟨-, u0, u1, u2, b0, b1, b2⟩ := id HS9.out
        obtain ⟨-, d0, d1, d2, -⟩ := id HP9.out
        clear s0 s1 s2 t0 t1 t2 c0 c1 c2 f0 f1 f2 z0 z1 z2 g0 g1 g2
        have hgood := HGOOD.out (by rw [HD0.out]; exact hst)
        cases hok : okP PQ 20 with
        | false =>
          rw [show errP PQ 20 = 100 by unfold errP; rw [hok]; rfl]
          have hq : Q = (noP, 100) := by rw [hgood, hok]; rfl
          subst hq
          clear hgood
          go_wp2
          refine bodyPost_ret (v := .tuple #[.agg #[.string ⟨#[]⟩, .int .i64 0, .slice none 0 0], .int .i64 100]) (by simp [results, Tryd.results13, go_sem, u0, u1, u2]) rfl ?_
          exact ⟨.slice none 0 0, rfl, RdC.nil _, hbadend w9 HB9.out⟩
        | true =>
          rw [show errP PQ 20 = 0 by unfold errP; rw [hok]; rfl]
          have hbr : bytesR PQ = bytesP PQ := by unfold bytesR; rw [hok]; rfl
          rw [hbr] at ho9
          have hr1 := run_str _ _ _ ho9.rd
          have hr2 := run_str _ _ _ ((HR.out.small).below hb9)
          have hts := run_toStr
          have hcmp : ((⟨(bytesP PQ).toArray⟩ : ByteArray).toList == (⟨l.toArray⟩ : ByteArray).toList) = decide (bytesP PQ = l) := by
            rw [ByteArray.toList_eq, ByteArray.toList_eq]
            show ((bytesP PQ) == l) = _
            rw [Bool.eq_iff_iff]
            simp
          obtain ⟨sx, HSX⟩ := named (⟨(bytesP PQ).toArray⟩ : ByteArray)
          obtain ⟨sy, HSY⟩ := named (⟨l.toArray⟩ : ByteArray)
          rw [← HSX.out] at hr1 hcmp
          rw [← HSY.out] at hr2 hcmp
          rw [hok, Bool.true_and] at hgood
          obtain ⟨vo9, vc9, hvo9⟩ : ∃ a c, v9 = .slice a (bytesP PQ).length c := by
            obtain ⟨a, c, h, -⟩ := id ho9.rd
            exact ⟨a, c, h⟩
          obtain ⟨n9, HN9⟩ := named (bytesP PQ).length
          rw [← HN9.out] at hvo9
          subst hvo9
          clear hb9 ho9 hbr
          cases heq : decide (bytesP PQ = l) with
          | false =>
            rw [heq] at hcmp hgood
            have hq : Q = (noP, 100) := hgood
            subst hq
            clear hgood
            go_wp2
            refine bodyPost_ret (v := .tuple #[.agg #[.string ⟨#[]⟩, .int .i64 0, .slice none 0 0], .int .i64 100]) (by simp [results, Tryd.results13, go_sem, u0, u1, u2]) rfl ?_
            exact ⟨.slice none 0 0, rfl, RdC.nil _, hbadend w9 HB9.out⟩
          | true =>
            rw [heq] at hcmp hgood
            have hq : Q = (PQ, 0) := hgood
            subst hq
            clear hgood
            go_wp2
            refine bodyPost_ret (v := .tuple #[.agg #[.string ⟨T.1.toArray⟩, .int .i64 (M.1 : Int), .slice co k cc], .int .i64 0]) (by simp [results, Tryd.results13, go_sem, u0, u1, u2]) rfl ?_
            refine ⟨.slice co k cc, by rw [HPE.out]; rfl, ?_, below_set3 HB9.out _ _ _ hws⟩
            have h6 := HO9.out
            show RdC (set3 w9 sb (.string ⟨T.1.toArray⟩) (.int .i64 (M.1 : Int)) (.slice co k cc)) (.slice co k cc) PQ.code
            rw [HPE.out]
            refine (OwnC.heap (w' := set3 w9 sb (.string ⟨T.1.toArray⟩) (.int .i64 (M.1 : Int)) (.slice co k cc)) h6 (fun a ha => ?_)).rd
            have := (h6.lt a ha).1
            unfold set3
            rw [Below.heap_setCell _ _ _ _ (by show a ≠ sb; omega), Below.heap_setCell _ _ _ _ (by show a ≠ sb; omega), Below.heap_setCell _ _ _ _ (by show a ≠ sb; omega)]
    · obtain ⟨r, rfl⟩ : ∃ r', r = r' + 1 := ⟨r - 1, by omega⟩
      have hrI : (0 : Int) < ((r + 1 : Nat) : Int) := by omega
      have hrJ : (0 : Int) < (r : Int) + 1 := by omega
      cases hst : st.2 with
      | true =>
        rw [hst] at z2
        have hq := HBAD.out (by rw [HDR.out, codeQ, if_pos hst]; exact hst)
        subst hq
        go_wp2
        refine bodyPost_ret (v := .tuple #[.agg #[.string ⟨#[]⟩, .int .i64 0, .slice none 0 0], .int .i64 100]) (by simp [results, Tryd.results13, go_sem, s0, s1, s2]) rfl ?_
        exact ⟨.slice none 0 0, rfl, RdC.nil _, hbadend wr HR.out.bel⟩
      | false =>
        rw [hst] at z2
        obtain ⟨o0, O0⟩ := named (q0 l st)
        obtain ⟨o1, O1⟩ := named (q1 l st)
        obtain ⟨o2, O2⟩ := named (q2 l st)
        obtain ⟨o3, O3⟩ := named (q3 l st)
        obtain ⟨o5, O5⟩ := named (q5 l st)
        obtain ⟨X, HX⟩ := named (insQ l st)
        obtain ⟨x0, HX0⟩ := named (o0.1 % 256)
        have hbrk : brkQ l st = (o3.2.2 || decide ((getU l o3.2.1).2.2 ≠ 0)) := by rw [O3.out]; rfl
        have hstep : codeQ l (r + 1) st acc = if brkQ l st = true then (acc, (o3.2.1, true)) else codeQ l r o5.2 (acc ++ [X]) := by rw [codeQ, if_neg (by rw [hst]; simp), O3.out, O5.out, HX.out]
        have hXe : X = ⟨x0, (o1.1 : Nat), (o2.1 : Nat), (o3.1 : Nat), unfoldI (getU l o3.2.1).1, ⟨o5.1.toArray⟩⟩ := by rw [HX.out, HX0.out, O0.out, O1.out, O2.out, O3.out, O5.out]; rfl
        have hO5 : txtQ l ((getU l o3.2.1).2.1, false) = o5 := by rw [O5.out, O3.out]; rfl
        have HBRK := hide hbrk
        have HSTEP := hide hstep
        have HXE := hide hXe
        have HO5 := hide hO5
        have hu8 : IntKind.u8.wrap (o0.1 : Int) = (x0 : Int) := by rw [HX0.out]; simp [IntKind.wrap, IntKind.bits, IntKind.signed]
        have hlo := numR_le l 1000 st
        rw [show numR l 1000 st = o0 from O0.out.symm] at hlo
        have kc := eyeNum_any HR.out hl
        rw [show numR l 1000 st = o0 from O0.out.symm] at kc
        clear s0 s1 s2 t0 t1 t2 c0 c1 c2 f0 f1 f2 hbrk hstep hXe hO5
        go_wp2_with fail
        refine kc.mono ?_
        rintro e v1 ⟨rfl, hr, hg⟩
        have HPa := hide (HP.out.chg hg hpr)
        have HSa := hide (HS.out.chg hg hsr)
        have HOa := hide (HO.out.chg hg hrB)
        have HBa := hide (show B ≤ v1.heap.size from Nat.le_trans HBZ.out hg.size)
        obtain ⟨V1, HV1⟩ := named (v1.alloc (.cells #[.int .u8 (x0 : Int), .int .i64 0, .int .i64 0, .int .i64 0, .int .i64 0, .string ⟨#[]⟩] 28))
        have hbv : Below v1.heap.size v1 V1 := by rw [HV1.out]; exact (Below.refl _ _).alloc (Nat.le_refl _) _
        obtain ⟨ib, HIB⟩ := named v1.heap.size
        have HI1 := hide (show C6 V1 ib (.int .u8 (x0 : Int)) (.int .i64 0) (.int .i64 0) (.int .i64 0) (.int .i64 0) (.string ⟨#[]⟩) by rw [HV1.out, HIB.out]; exact C6.new _ _ _ _ _ _ _ _)
        have HG1 := hide (ChgB.ofBelow (b := rb) hbv)
        have HR1 := hide (hr.below hbv)
        have hBi : B ≤ ib := by rw [HIB.out]; exact HBa.out
        have hir : ib ≠ rb := by omega
        have hip : ib ≠ pb := by omega
        have his : ib ≠ sb := by omega
        have hwi : w.heap.size ≤ ib := by omega
        have hvi : v1.heap.size ≤ ib := by rw [HIB.out]; exact Nat.le_refl _
        clear kc hr hg hbv z0 z1 z2 g0 g1 g2
        go_wp2_with fail
        rw [← HV1.out, ← HIB.out]
        have kc := eyeNum_any HR1.out hl
        rw [show numR l 1000 o0.2 = o1 by rw [O1.out, O0.out]; rfl] at kc
        refine kc.mono ?_
        rintro e u1 ⟨rfl, hr, hg⟩
        have HJ1 := hide (HI1.out.chg hg hir)
        have HGJ := hide (HG1.out.trans hg)
        obtain ⟨V2, HV2⟩ := named (u1.setCell ⟨ib, 1, none⟩ (.int .i64 (o1.1 : Int)))
        have HR2 := hide (show Rdr w V2 rb (.slice ao n cap) l o1.2 by rw [HV2.out]; exact hr.far _ hir hwi)
        have HI2 := hide (show C6 V2 ib (.int .u8 (x0 : Int)) (.int .i64 (o1.1 : Int)) (.int .i64 0) (.int .i64 0) (.int .i64 0) (.string ⟨#[]⟩) by rw [HV2.out]; exact HJ1.out.s1 _)
        have HG2 := hide (show ChgB rb v1 V2 by rw [HV2.out]; exact chg_new HGJ.out hvi _ _)
        obtain ⟨-, ⟨a0, a1, a2, a3, a4, a5⟩, ⟨f0, f1, f2, f3, f4, f5⟩⟩ := id HJ1.out
        clear kc hr hg HGJ
        go_wp2_with fail
        rw [← HV2.out]
        clear a0 a1 a2 a3 a4 a5 f0 f1 f2 f3 f4 f5
        have kc := eyeNum_any HR2.out hl
        rw [show numR l 1000 o1.2 = o2 by rw [O2.out, O1.out]; rfl] at kc
        refine kc.mono ?_
        rintro e u2 ⟨rfl, hr, hg⟩
        have HJ2 := hide (HI2.out.chg hg hir)
        have HGJ := hide (HG2.out.trans hg)
        obtain ⟨V3, HV3⟩ := named (u2.setCell ⟨ib, 2, none⟩ (.int .i64 (o2.1 : Int)))
        have HR3 := hide (show Rdr w V3 rb (.slice ao n cap) l o2.2 by rw [HV3.out]; exact hr.far _ hir hwi)
        have HI3 := hide (show C6 V3 ib (.int .u8 (x0 : Int)) (.int .i64 (o1.1 : Int)) (.int .i64 (o2.1 : Int)) (.int .i64 0) (.int .i64 0) (.string ⟨#[]⟩) by rw [HV3.out]; exact HJ2.out.s2 _)
        have HG3 := hide (show ChgB rb v1 V3 by rw [HV3.out]; exact chg_new HGJ.out hvi _ _)
        obtain ⟨-, ⟨a0, a1, a2, a3, a4, a5⟩, ⟨f0, f1, f2, f3, f4, f5⟩⟩ := id HJ2.out
        clear kc hr hg HGJ
        go_wp2_with fail
        rw [← HV3.out]
        clear a0 a1 a2 a3 a4 a5 f0 f1 f2 f3 f4 f5
        have kc := eyeNum_any HR3.out hl
        rw [show numR l 1000 o2.2 = o3 by rw [O3.out, O2.out]; rfl] at kc
        refine kc.mono ?_
        rintro e u3 ⟨rfl, hr, hg⟩
        have HJ3 := hide (HI3.out.chg hg hir)
        have HGJ := hide (HG3.out.trans hg)
        obtain ⟨V4, HV4⟩ := named (u3.setCell ⟨ib, 3, none⟩ (.int .i64 (o3.1 : Int)))
        have HR4 := hide (show Rdr w V4 rb (.slice ao n cap) l o3.2 by rw [HV4.out]; exact hr.far _ hir hwi)
        have HI4 := hide (show C6 V4 ib (.int .u8 (x0 : Int)) (.int .i64 (o1.1 : Int)) (.int .i64 (o2.1 : Int)) (.int .i64 (o3.1 : Int)) (.int .i64 0) (.string ⟨#[]⟩) by rw [HV4.out]; exact HJ3.out.s3 _)
        have HG4 := hide (show ChgB rb v1 V4 by rw [HV4.out]; exact chg_new HGJ.out hvi _ _)
        obtain ⟨-, ⟨a0, a1, a2, a3, a4, a5⟩, ⟨f0, f1, f2, f3, f4, f5⟩⟩ := id HJ3.out
        clear kc hr hg HGJ
        have kg := refGetInt_any (.slice ao n cap) l (o3.2.1 : Int) V4 HR4.out.small (by omega)
        obtain ⟨g1, G1⟩ := named (unfoldI (getU l o3.2.1).1)
        obtain ⟨g2, G2⟩ := named (getU l o3.2.1).2.1
        obtain ⟨g3, G3⟩ := named (getU l o3.2.1).2.2
        rw [← G1.out, ← G2.out, ← G3.out] at kg
        rw [← G1.out] at HXE
        rw [← G2.out] at HO5
        rw [← G3.out] at HBRK
        obtain ⟨-, z0, z1, z2, h0', h1', h2'⟩ := id HR4.out.c
        rw [HV4.out] at z0 z1 z2 h0' h1' h2'
        go_wp2_with fail
        rw [← HV4.out]
        refine kg.mono ?_
        rintro e w9 ⟨rfl, rfl⟩
        rw [← HV4.out] at z0 z1 z2 h0' h1' h2'
        clear a0 a1 a2 a3 a4 a5 f0 f1 f2 f3 f4 f5 kg
        have HSv := hide (HSa.out.chg HG4.out hsr)
        have hbrkend : brkQ l st = true → Q = (noP, 100) := fun h => HBAD.out (by rw [HDR.out, HSTEP.out, if_pos h])
        have HBE := hide hbrkend
        have hsb3 := HSv.out.one (g' := rb) (o := 2) (.bool true) hsr
        have HBX := hide (show Below w.heap.size w (V4.setCell ⟨rb, 2, none⟩ (.bool true)) from HR4.out.bel.setCell (p := ⟨rb, 2, none⟩) hwr _)
        have hx2 : (V4.setCell ⟨rb, 2, none⟩ (.bool true)).cell? ⟨rb, 2, none⟩ = some (.bool true) := World.cell?_setCell_same _ _ _ z2
        clear hbrkend
        cases hw3 : o3.2.2 with
        | true =>
          rw [hw3] at z2
          have hq := HBE.out (by rw [HBRK.out, hw3]; rfl)
          subst hq
          obtain ⟨-, s0, s1, s2, t0, t1, t2⟩ := hsb3
          go_wp2
          refine bodyPost_ret (v := .tuple #[.agg #[.string ⟨#[]⟩, .int .i64 0, .slice none 0 0], .int .i64 100]) (by simp [results, Tryd.results13, go_sem, s0, s1, s2]) rfl ?_
          exact ⟨.slice none 0 0, rfl, RdC.nil _, hbadend _ HBX.out⟩
        | false =>
          rw [hw3] at z2
          by_cases h3 : g3 = 0
          · subst h3
            have hnb : ¬ brkQ l st = true := by rw [HBRK.out, hw3]; simp
            clear hsb3 hx2
            have hbf : brkQ l st = false := by simpa using hnb
            have hD2 := HDR.out
            rw [HSTEP.out, if_neg hnb] at hD2
            have HD2 := hide hD2
            obtain ⟨-, ⟨a0, a1, a2, a3, a4, a5⟩, ⟨f0, f1, f2, f3, f4, f5⟩⟩ := id HI4.out
            obtain ⟨V5, HV5⟩ := named ((V4.setCell ⟨ib, 4, none⟩ (.int .i64 g1)).setCell ⟨rb, 1, none⟩ (.int .i64 (g2 : Int)))
            have hch1 : ChgB rb (V4.setCell ⟨ib, 4, none⟩ (.int .i64 g1)) V5 := by rw [HV5.out]; exact (ChgB.refl rb _).setCell _
            have hrc := HR4.out.c.one (o := 4) (.int .i64 g1) (fun e => hir e.symm)
            rw [hw3] at hrc
            have HR5 := hide (show Rdr w V5 rb (.slice ao n cap) l (g2, false) from ⟨by rw [HV5.out]; exact hrc.second _, hwr, HR4.out.rd, by rw [HV5.out]; exact (HR4.out.bel.setCell (p := ⟨ib, 4, none⟩) hwi _).setCell (p := ⟨rb, 1, none⟩) hwr _⟩)
            have HI5 := hide ((HI4.out.s4 (.int .i64 g1)).chg hch1 hir)
            have HG5 := hide ((chg_new HG4.out hvi 4 (.int .i64 g1)).trans hch1)
            obtain ⟨-, p0, p1, p2, p3, p4, p5⟩ := hrc
            have kt := eyeText_any HR5.out hl
            rw [HO5.out] at kt
            clear hnb hbf hD2 hch1 a0 a1 a2 a3 a5 f0 f1 f2 f3 f5
            go_wp2_with fail
            rw [← HV5.out]
            refine kt.mono ?_
            rintro e u5 ⟨rfl, hr, hg⟩
            have HJ5 := hide (HI5.out.chg hg hir)
            have HGJ := hide (HG5.out.trans hg)
            obtain ⟨U, HU⟩ := named (u5.setCell ⟨ib, 5, none⟩ (.string ⟨o5.1.toArray⟩))
            have HR6 := hide (show Rdr w U rb (.slice ao n cap) l o5.2 by rw [HU.out]; exact hr.far _ hir hwi)
            have HI6 := hide (HJ5.out.s5 (.string ⟨o5.1.toArray⟩))
            have HG6 := hide (show ChgB rb v1 U by rw [HU.out]; exact chg_new HGJ.out hvi _ _)
            have HP6 := hide (HPa.out.chg HG6.out hpr)
            have HS6 := hide (HSa.out.chg HG6.out hsr)
            have HO6 := hide (HOa.out.chg HG6.out hrB)
            have HZ6 := hide (show B ≤ U.heap.size from Nat.le_trans HBa.out HG6.out.size)
            obtain ⟨Y, HY⟩ := named (⟨x0, (o1.1 : Nat), (o2.1 : Nat), (o3.1 : Nat), g1, ⟨o5.1.toArray⟩⟩ : Ins)
            have hXY : X = Y := by rw [HXE.out, HY.out]
            subst hXY
            obtain ⟨v5, w5, hr5, ho5, hb5⟩ := HO6.out.append1 X (by rw [← HK.out]; omega) HZ6.out 22
            obtain ⟨vo5, vc5, hvo5⟩ := ho5.shape
            have hlen5 : (acc ++ [X]).length = k + 1 := by rw [HK.out]; simp
            rw [hlen5] at hvo5
            subst hvo5
            have hszU : U.heap.size = u5.heap.size := by rw [HU.out]; simp [World.setCell]
            rw [hszU, HU.out, HY.out] at hr5
            simp only at hr5
            have HOF := hide ho5
            have HBF := hide hb5
            have HPF := hide (HP6.out.belowB hb5 hpB)
            have HSF := hide (HS6.out.belowB hb5 hsB)
            have HRF := hide (HR6.out.belowB hb5 hrB)
            obtain ⟨-, -, -, d2, -⟩ := id HP6.out
            rw [HU.out] at d2
            obtain ⟨-, -, -, d5, -, -, f5p⟩ := id HPF.out
            obtain ⟨-, ⟨-, -, -, -, -, a5⟩, ⟨-, -, -, -, -, f5⟩⟩ := id HJ5.out
            obtain ⟨-, ⟨b0, b1, b2, b3, b4, b5⟩, -⟩ := id HI6.out
            clear kt hr hg z0 z1 z2 h0' h1' h2' p0 p1 p2 p3 p4 p5 a4 f4 ho5 hb5 HGJ
            go_wp2_with (at_builtin; go_must (refine Lib.wpList_append_run _ rfl _ _ _ _ rfl _ _ rfl rfl _ _ hr5 ?_))
            go_roundw
            case rel =>
              refine ⟨r, o5.2, acc ++ [X], .slice vo5 (k + 1) vc5, by go_num, by rw [hlen5]; omega, ?_, ?_, ?_, ?_, ?_, ?_⟩
              · show Rdr _ _ _ _ _ _
                exact HRF.out.far _ hpr hwp
              · show OwnC _ _ _ _
                exact HOF.out.farB _ hpB
              · show C3 _ _ _ _ _
                exact HPF.out.third _
              · show C3 _ _ _ _ _
                exact HSF.out.one _ hsp
              · exact HD2.out
              · show B ≤ _
                have := HZ6.out
                have := HBF.out.size
                simp [World.setCell]
                omega
            case measure => simp [intOf]
          · have h3' : ¬ (g3 : Int) = 0 := by omega
            have hq := HBE.out (by rw [HBRK.out, hw3, decide_eq_true h3]; rfl)
            subst hq
            obtain ⟨-, s0, s1, s2, t0, t1, t2⟩ := hsb3
            go_wp2
            refine bodyPost_ret (v := .tuple #[.agg #[.string ⟨#[]⟩, .int .i64 0, .slice none 0 0], .int .i64 100]) (by simp [results, Tryd.results13, go_sem, s0, s1, s2]) rfl ?_
            exact ⟨.slice none 0 0, rfl, RdC.nil _, hbadend _ HBX.out⟩
end Go.Proofs.YtpiiehenmkinaaaDoor
