/-
  The contract of the reader's program. Own work.
-/
import Derived.Test.YtpiiehenmkinaaaDoorEg
import Derived.Deep.RegionHeld
namespace Go.Proofs.YtpiiehenmkinaaaDoor
open Go.RowKit

theorem step_append_runC {P : Program} {ops : Array Oper} {o : Oper} {a : Act} {w : World} {K : Act → World → Prop} {Q : Exit → Act → World → Prop} {E : Prop}
    (hg : o.guard = none) (d x : Operand) (dT sT : TypeId) (hop : o.op = Op.call { callee := Callee.builtin Builtin.append, args := #[d, x], argTypes := #[dT, sT] })
    (v u : Value) (hd : a.eval d = v) (hx : a.eval x = u) {v' : Value} {w' : World} (hr : (Builtin.append_ #[dT, sT] o.type #[v, u]).run P w = .ok v' w') (hK : K (a.put o.dst v') w') :
    if Region.wanted o (yielded ops a.tmps) = true then Oper.wp P o a w K Q else E := by
  have hw : Region.wanted o (yielded ops a.tmps) = true := by simp [Region.wanted, hg]
  rw [if_pos hw]
  unfold Oper.wp
  simp [execOp, hop, resolve, invoke, builtin, hd, hx, hr, Result.andThen]
  exact hK
theorem C3.chg {w w' : World} {g b : Nat} {x y z : Value} (h : C3 w g x y z) (hc : ChgB b w w') (hb : g ≠ b) : C3 w' g x y z := by
  obtain ⟨h0, h1, h2, h3, h4, h5, h6⟩ := h
  exact ⟨Nat.lt_of_lt_of_le h0 hc.size, (hc.cell h0 hb 0).trans h1, (hc.cell h0 hb 1).trans h2, (hc.cell h0 hb 2).trans h3, (hc.frozen h0 hb 0).trans h4, (hc.frozen h0 hb 1).trans h5, (hc.frozen h0 hb 2).trans h6⟩
theorem C3.belowB {w w' : World} {g B : Nat} {x y z : Value} (h : C3 w g x y z) (hb : Below B w w') (hg : g < B) : C3 w' g x y z := by
  obtain ⟨h0, h1, h2, h3, h4, h5, h6⟩ := h
  exact ⟨Nat.lt_of_lt_of_le h0 hb.size, (hb.cell (p := ⟨g, 0, none⟩) hg).trans h1, (hb.cell (p := ⟨g, 1, none⟩) hg).trans h2, (hb.cell (p := ⟨g, 2, none⟩) hg).trans h3, (hb.frozen (p := ⟨g, 0, none⟩) hg).trans h4, (hb.frozen (p := ⟨g, 1, none⟩) hg).trans h5, (hb.frozen (p := ⟨g, 2, none⟩) hg).trans h6⟩
theorem Rdr.belowB {w0 w w' : World} {rb B : Nat} {bv : Value} {l : List UInt8} {st : RS} (h : Rdr w0 w rb bv l st) (hb : Below B w w') (hB : rb < B) : Rdr w0 w' rb bv l st :=
  ⟨h.c.belowB hb hB, h.lt, h.rd, h.bel.trans (hb.mono (by have := h.lt; omega))⟩
theorem ChgB.thenBelow {b B : Nat} {u w w' : World} (h : ChgB b u w) (k : Below B w w') (hB : u.heap.size ≤ B) : ChgB b u w' :=
  ⟨k.os.trans h.os, k.tape.trans h.tape, k.output.trans h.output, Nat.le_trans h.size k.size, fun i hi hb => (k.block i (by omega)).trans (h.block i hi hb)⟩
theorem codeR_step (l : List UInt8) (m : Nat) (st : RS) (acc : List Ins) (h : st.2 = false) : codeR l (m + 1) st acc = codeR l m (insR l st).2 (acc ++ [(insR l st).1]) := by
  rw [codeR, if_neg (by rw [h]; simp)]
theorem codeR_stop (l : List UInt8) (m : Nat) (st : RS) (acc : List Ins) (h : st.2 = true) : codeR l m st acc = (acc, st) := by
  cases m with
  | zero => rfl
  | succ m => rw [codeR, if_pos h]
set_option maxRecDepth 100000 in
set_option maxHeartbeats 3200000 in
theorem program_any {w0 w : World} {rb : Nat} {bv : Value} {l : List UInt8} (h : Rdr w0 w rb bv l (0, false)) (hl : l.length ≤ 1000000) :
    Calls Tryd.prog 31 #[.pointer (some ⟨rb, 0, none⟩)] w fun e w' => ∃ cv, e = .returned (prgV (prgR l).1 cv) ∧ Rdr w0 w' rb bv l (prgR l).2 ∧ ChgB rb w w' ∧ OwnC w' w.heap.size cv (prgR l).1.code := by
  have hlt : rb < w.heap.size := h.c.1
  have hw0 := h.lt
  obtain ⟨W1, HW1⟩ := named (w.alloc (.cells #[.string ⟨#[]⟩, .int .i64 0, .slice none 0 0] 24))
  have hbW : Below w.heap.size w W1 := by rw [HW1.out]; exact (Below.refl _ _).alloc (Nat.le_refl _) _
  have hzW : W1.heap.size = w.heap.size + 1 := by rw [HW1.out]; simp
  obtain ⟨sb, HSB⟩ := named w.heap.size
  have HS1 := hide (show C3 W1 sb (.string ⟨#[]⟩) (.int .i64 0) (.slice none 0 0) by rw [HW1.out, HSB.out]; exact C3.new _ _ _ _ _)
  have H1 := hide (h.below hbW)
  have HG1 := hide (ChgB.ofBelow (b := rb) hbW)
  have hsr : sb ≠ rb := by rw [HSB.out]; omega
  obtain ⟨T, HT⟩ := named (txtR l (0, false))
  obtain ⟨M, HM⟩ := named (numR l 16 T.2)
  obtain ⟨C, HC⟩ := named (numR l 500 M.2)
  have hcl : C.1 ≤ 500 := by rw [HC.out]; exact numR_le _ _ _
  have HPR := hide (show prgR l = (⟨⟨T.1.toArray⟩, (M.1 : Nat), (codeR l C.1 C.2 []).1⟩, (codeR l C.1 C.2 []).2) by rw [HC.out, HM.out, HT.out]; rfl)
  obtain ⟨PR, HP0⟩ := named (prgR l)
  rw [← HP0.out] at HPR ⊢
  clear h hbW
  go_enter Tryd.func31, Tryd.ntmps31
  go_wp2_with fail
  rw [← HW1.out, ← HSB.out]
  refine (text_any H1.out hl).mono ?_
  rintro e w2 ⟨rfl, hr2, hg2⟩
  rw [← HT.out] at hr2 ⊢
  have H2 := hide hr2
  have HG2 := hide (HG1.out.trans hg2)
  have HS2 := hide (HS1.out.chg hg2 hsr)
  clear hr2 hg2
  go_wp2_with fail
  refine (number_any H2.out hl 16 (by omega)).mono ?_
  rintro e w3 ⟨rfl, hr3, hg3⟩
  rw [← HM.out] at hr3 ⊢
  obtain ⟨W4, HW4⟩ := named (w3.alloc (.cells #[.string ⟨T.1.toArray⟩, .int .i64 (M.1 : Int), .slice none 0 0] 24))
  have hb4 : Below w3.heap.size w3 W4 := by rw [HW4.out]; exact (Below.refl _ _).alloc (Nat.le_refl _) _
  have HBZ4 := hide (show W4.heap.size = w3.heap.size + 1 by rw [HW4.out]; simp)
  obtain ⟨pb, HPB⟩ := named w3.heap.size
  have HP4 := hide (show C3 W4 pb (.string ⟨T.1.toArray⟩) (.int .i64 (M.1 : Int)) (.slice none 0 0) by rw [HW4.out, HPB.out]; exact C3.new _ _ _ _ _)
  have HG3 := hide (HG2.out.trans hg3)
  have H4 := hide (hr3.below hb4)
  have HG4 := hide (HG3.out.thenBelow hb4 HG3.out.size)
  have HS4 := hide ((HS2.out.chg hg3 hsr).below hb4)
  have hz3 := HG3.out.size
  have hwp : w.heap.size ≤ pb := by rw [HPB.out]; exact hz3
  have hpr : pb ≠ rb := by omega
  have hsp : sb ≠ pb := by
    rw [HSB.out, HPB.out]
    have := HS2.out.1
    have := hg3.size
    have := HSB.out
    omega
  clear hr3 hg3 hb4
  go_wp2_with fail
  rw [← HW4.out, ← HPB.out]
  refine (number_any H4.out hl 500 (by omega)).mono ?_
  rintro e w5 ⟨rfl, hr5, hg5⟩
  rw [← HC.out] at hr5 ⊢
  obtain ⟨B, HB⟩ := named W4.heap.size
  have hpB : pb < B := by rw [HB.out, HBZ4.out, HPB.out]; omega
  have hsB : sb < B := by
    have := HS4.out.1
    rw [HB.out]
    exact this
  have hrB : rb < B := by
    have := H4.out.c.1
    rw [HB.out]
    exact this
  have hwB : w.heap.size ≤ B := by omega
  have H5 := hide hr5
  have HG5 := hide (HG4.out.trans hg5)
  have HS5' := hide (HS4.out.chg hg5 hsr)
  have HP5' := hide (HP4.out.chg hg5 hpr)
  have HBZ5 := hide (show B ≤ w5.heap.size by rw [HB.out]; exact hg5.size)
  clear hr5 hg5 hz3
  obtain ⟨n, HN⟩ := named C.1
  rw [← HN.out] at hcl HPR ⊢
  go_wp2
  go_loopw [11] (fun iv wr => ∃ (k : Nat) (st : RS) (acc : List Ins) (cvv : Value), k ≤ n ∧ iv = .int .i64 k ∧ acc.length = k ∧ Hid (Rdr w0 wr rb bv l st) ∧ Hid (OwnC wr B cvv acc) ∧ Hid (C3 wr pb (.string ⟨T.1.toArray⟩) (.int .i64 (M.1 : Int)) cvv) ∧ Hid (C3 wr sb (.string ⟨#[]⟩) (.int .i64 0) (.slice none 0 0)) ∧ Hid (ChgB rb w wr) ∧ Hid (codeR l n C.2 [] = codeR l (n - k) st acc) ∧ Hid (B ≤ wr.heap.size)) (fun iv _ => n - (intOf iv).toNat)
  case atStart => exact ⟨0, C.2, [], _, by omega, rfl, rfl, H5.out, OwnC.nil _ _, HP5'.out, HS5'.out, HG5.out, by rfl, HBZ5.out⟩
  case round =>
    obtain ⟨k, st, acc, cvv, hkn, rfl, hal, HR, HO, HP, HS, HG, HCR, HBZ⟩ := hrel
    obtain ⟨co, cc, hcv⟩ := HO.out.shape
    rw [hal] at hcv
    subst hcv
    have hfin : codeR l n C.2 [] = (acc, st) → prgV PR.1 (.slice co k cc) = .agg #[.string ⟨T.1.toArray⟩, .int .i64 (M.1 : Int), .slice co k cc] ∧ PR.2 = st ∧ PR.1.code = acc := fun hh => by
      rw [HPR.out, hh]
      exact ⟨rfl, rfl, rfl⟩
    have HFI := hide hfin
    obtain ⟨-, c0, c1, c2, f0, f1, f2⟩ := id HP.out
    obtain ⟨-, s0, s1, s2, t0, t1, t2⟩ := id HS.out
    obtain ⟨-, q0, q1, q2, -⟩ := id HR.out.c
    have hend : ∀ V : World, V = set3 wr sb (.string ⟨T.1.toArray⟩) (.int .i64 (M.1 : Int)) (.slice co k cc) → Rdr w0 V rb bv l st ∧ ChgB rb w V ∧ OwnC V w.heap.size (.slice co k cc) acc := fun V hV => by
      subst hV
      have hws : w.heap.size ≤ sb := by rw [HSB.out]; exact Nat.le_refl _
      refine ⟨⟨HR.out.c.other _ _ _ (fun e => hsr e.symm), HR.out.lt, HR.out.rd, below_set3 HR.out.bel _ _ _ (by have := HR.out.lt; omega)⟩, chg_new (chg_new (chg_new HG.out hws _ _) hws _ _) hws _ _, ?_⟩
      refine (OwnC.heap (w' := set3 wr sb (.string ⟨T.1.toArray⟩) (.int .i64 (M.1 : Int)) (.slice co k cc)) HO.out (fun a ha => ?_)).mono hwB
      have := (HO.out.lt a ha).1
      unfold set3
      rw [Below.heap_setCell _ _ _ _ (by show a ≠ sb; omega), Below.heap_setCell _ _ _ _ (by show a ≠ sb; omega), Below.heap_setCell _ _ _ _ (by show a ≠ sb; omega)]
    have HEN := hide hend
    clear hfin hend
    by_cases hlt2 : k < n
    · cases hst : st.2 with
      | true =>
        rw [hst] at q2
        have hcr := HFI.out (by rw [HCR.out]; exact codeR_stop _ _ _ _ hst)
        go_wp2
        refine bodyPost_ret (v := .agg #[.string ⟨T.1.toArray⟩, .int .i64 (M.1 : Int), .slice co k cc]) (by simp [results, Tryd.results31, go_sem, s0, s1, s2]) rfl ?_
        obtain ⟨k1, k2, k3⟩ := HEN.out _ rfl
        refine ⟨.slice co k cc, by rw [hcr.1], by rw [hcr.2.1]; exact k1, k2, by rw [hcr.2.2]; exact k3⟩
      | false =>
        rw [hst] at q2
        have kc := instr_any (HR.out.below (w' := wr.drew) (Below.refl _ _).drew) hl
        have hcr : codeR l n C.2 [] = codeR l (n - (k + 1)) (insR l st).2 (acc ++ [(insR l st).1]) := by
          rw [HCR.out, show n - k = (n - (k + 1)) + 1 by omega]
          exact codeR_step _ _ _ _ hst
        obtain ⟨X, HX⟩ := named (insR l st)
        rw [← HX.out] at hcr kc
        have HCR1 := hide hcr
        have hk1 : k + 1 ≤ n := by omega
        clear hcr q0 q1 t0 t1 t2 s0 s1 s2 f0 f1 f2 c0 c1 HFI HEN
        go_wp2_with fail
        refine wp_region_held_drew (S := (fun _ => True)) (by kernel_rfl) trivial (fun _ => ?_)
        refine wpAnyH_take (i := 0) (oi := { dst := some 17, op := Go.Op.fieldAddr 24 (Go.Operand.tmp 3) 2, type := 0, pos := "bytes.go:65", after := #[], guard := none }) (v := ?_) rfl (by kernel_rfl) (by kernel_rfl) (by kernel_rfl) (fun _ _ _ h => h) (Or.inl ⟨by rfl, ?hy1⟩) trivial ?_
        case hy1 =>
          intro u hu
          obtain u0 := hu
          go_simp
          try with_reducible rfl
        simp only [Act.put, List.setIfInBounds_toArray, List.set_cons_zero, List.set_cons_succ]
        refine wpAnyH_take (i := 2) (oi := { dst := some 19, op := Go.Op.move (Go.Operand.tmp 0), type := 61, pos := "bytes.go:65", after := #[], guard := none }) (v := ?_) rfl (by kernel_rfl) (by kernel_rfl) (by kernel_rfl) (fun _ _ _ h => h) (Or.inl ⟨by rfl, ?hy2⟩) trivial ?_
        case hy2 =>
          intro u hu
          obtain u0 := hu
          go_simp
          try with_reducible rfl
        simp only [Act.put, List.setIfInBounds_toArray, List.set_cons_zero, List.set_cons_succ]
        refine wpAnyH_ready (rs := [1, 3]) (by kernel_rfl) (by simp) ?_
        refine AllReadyH.cons (o := { dst := some 18, op := Go.Op.load 22 (Go.Operand.tmp 17), type := 22, pos := "bytes.go:65", after := #[{ on := 0, ground := Go.Ground.data }], guard := none }) rfl (fun K hK => ?b3_1) (AllReadyH.cons (o := { dst := some 20, op := Go.Op.call { callee := Go.Callee.value (Go.Operand.func 55), args := #[Go.Operand.tmp 19], argTypes := #[61] }, type := 28, pos := "bytes.go:65", after := #[{ on := 2, ground := Go.Ground.data }], guard := none }) rfl (fun K hK => ?b3_3) AllReadyH.nil)
        case' b3_1 =>
          go_simp
          refine hK.out _ _ trivial (fun _ => ?_)
          clear hK K
          try simp only [Act.put, List.setIfInBounds_toArray, List.set_cons_zero, List.set_cons_succ]
          refine wpAnyH_ready (rs := [3]) (by kernel_rfl) (by simp) ?_
          refine AllReadyH.cons (o := { dst := some 20, op := Go.Op.call { callee := Go.Callee.value (Go.Operand.func 55), args := #[Go.Operand.tmp 19], argTypes := #[61] }, type := 28, pos := "bytes.go:65", after := #[{ on := 2, ground := Go.Ground.data }], guard := none }) rfl (fun K hK => ?_) AllReadyH.nil
          go_simp
          refine kc.mono ?_
          rintro e u3 ⟨rfl, hr3, hg3⟩
          rw [show insV X.1 = .agg #[.int .u8 (X.1.op : Int), .int .i64 X.1.a, .int .i64 X.1.b, .int .i64 X.1.c, .int .i64 X.1.n, .string X.1.s] from rfl]
          have hg3 : ChgB rb wr u3 := ⟨hg3.os, hg3.tape, hg3.output, hg3.size, hg3.block⟩
          have HR3 := hide hr3
          have HZU := hide (show wr.heap.size ≤ u3.heap.size from hg3.size)
          have HG3 := hide (HG.out.trans hg3)
          have HP3 := hide (HP.out.chg hg3 hpr)
          have HS3 := hide (HS.out.chg hg3 hsr)
          obtain ⟨v5, w5, hr5, ho5, hb5⟩ := (HO.out.heap (fun a ha => hg3.block a (HO.out.lt a ha).2 (by have := (HO.out.lt a ha).1; omega))).append1 X.1 (by rw [hal]; omega) (by have := HBZ.out; have := hg3.size; omega) 22
          obtain ⟨vo5, vc5, hvo5⟩ := ho5.shape
          rw [show (acc ++ [X.1]).length = acc.length + 1 by simp, hal] at hvo5
          subst hvo5
          have HP4 := hide (HP3.out.below ((Below.refl u3.heap.size u3).alloc (Nat.le_refl _) (.cells #[.int .u8 (X.1.op : Int), .int .i64 X.1.a, .int .i64 X.1.b, .int .i64 X.1.c, .int .i64 X.1.n, .string X.1.s] 28)))
          have HP5 := hide (HP3.out.belowB hb5 hpB)
          have HS5 := hide (HS3.out.belowB hb5 hsB)
          have d3 : u3.cell? ⟨pb, 2, none⟩ = some (.slice co k cc) := HP3.out.2.2.2.1
          have d4 : (u3.alloc (.cells #[.int .u8 (X.1.op : Int), .int .i64 X.1.a, .int .i64 X.1.b, .int .i64 X.1.c, .int .i64 X.1.n, .string X.1.s] 28)).cell? ⟨pb, 2, none⟩ = some (.slice co k cc) := HP4.out.2.2.2.1
          have d5 : w5.cell? ⟨pb, 2, none⟩ = some (.slice co k cc) := HP5.out.2.2.2.1
          have f5 : w5.frozen? ⟨pb, 2, none⟩ = false := HP5.out.2.2.2.2.2.2
          have HO5 := hide ho5
          have HB5 := hide hb5
          clear hr3 hg3 ho5 hb5
          refine hK.out _ _ trivial (fun _ => ?_)
          clear hK K
          try simp only [Act.put, List.setIfInBounds_toArray, List.set_cons_zero, List.set_cons_succ]
          refine wpAnyH_ready (rs := [4]) (by kernel_rfl) (by simp) ?_
          refine AllReadyH.cons (o := { dst := some 21, op := Go.Op.buildSlice 22 1 #[(0, Go.Operand.tmp 20)], type := 22, pos := "bytes.go:65", after := #[{ on := 3, ground := Go.Ground.data }], guard := none }) rfl (fun K hK => ?_) AllReadyH.nil
          go_simp
          refine hK.out _ _ trivial (fun _ => ?_)
          clear hK K
          try simp only [Act.put, List.setIfInBounds_toArray, List.set_cons_zero, List.set_cons_succ]
          refine wpAnyH_ready (rs := [5]) (by kernel_rfl) (by simp) ?_
          refine AllReadyH.cons (o := { dst := some 22, op := Go.Op.call { callee := Go.Callee.builtin Go.Builtin.append, args := #[Go.Operand.tmp 18, Go.Operand.tmp 21], argTypes := #[22, 22] }, type := 22, pos := "bytes.go:65", after := #[{ on := 1, ground := Go.Ground.data }, { on := 4, ground := Go.Ground.data }, { on := 3, ground := Go.Ground.chain }], guard := none }) rfl (fun K hK => ?_) AllReadyH.nil
          refine step_append_runC rfl (.tmp 18) (.tmp 21) 22 22 rfl (.slice co k cc) (.slice (some ⟨u3.heap.size, 0, none⟩) 1 1) (by simp [Act.eval]) (by simp [Act.eval]) hr5 ?_
          refine hK.out _ _ trivial (fun _ => ?_)
          clear hK K
          try simp only [Act.put, List.setIfInBounds_toArray, List.set_cons_zero, List.set_cons_succ]
          refine wpAnyH_take (i := 6) (oi := { dst := some 23, op := Go.Op.fieldAddr 24 (Go.Operand.tmp 3) 2, type := 0, pos := "bytes.go:65", after := #[{ on := 0, ground := Go.Ground.phase }, { on := 1, ground := Go.Ground.phase }, { on := 2, ground := Go.Ground.phase }, { on := 3, ground := Go.Ground.phase }, { on := 4, ground := Go.Ground.phase }, { on := 5, ground := Go.Ground.phase }], guard := none }) (v := ?_) rfl (by kernel_rfl) (by kernel_rfl) (by kernel_rfl) (fun _ _ _ h => h) (Or.inl ⟨by rfl, ?hy7⟩) trivial ?_
          case hy7 =>
            intro u hu
            obtain u0 := hu
            go_simp
            try with_reducible rfl
          simp only [Act.put, List.setIfInBounds_toArray, List.set_cons_zero, List.set_cons_succ]
          refine wpAnyH_ready (rs := [7]) (by kernel_rfl) (by simp) ?_
          refine AllReadyH.cons (o := { dst := none, op := Go.Op.store 22 (Go.Operand.tmp 23) (Go.Operand.tmp 22), type := 0, pos := "bytes.go:65", after := #[{ on := 6, ground := Go.Ground.data }, { on := 5, ground := Go.Ground.data }, { on := 5, ground := Go.Ground.chain }, { on := 0, ground := Go.Ground.phase }, { on := 1, ground := Go.Ground.phase }, { on := 2, ground := Go.Ground.phase }, { on := 3, ground := Go.Ground.phase }, { on := 4, ground := Go.Ground.phase }, { on := 5, ground := Go.Ground.phase }], guard := none }) rfl (fun K hK => ?_) AllReadyH.nil
          go_simp
          refine hK.out _ _ trivial (fun _ => ?_)
          clear hK K
          try simp only [Act.put, List.setIfInBounds_toArray, List.set_cons_zero, List.set_cons_succ]
          refine wpAnyH_done (by kernel_rfl) ?_ _
          go_wp2
          go_roundw
          case rel =>
            refine ⟨k + 1, X.2, acc ++ [X.1], .slice vo5 (k + 1) vc5, hk1, by go_num, by simp [hal], ?_, ?_, ?_, ?_, ?_, ?_, ?_⟩
            · show Rdr _ _ _ _ _ _
              have h5 : Rdr w0 w5 rb bv l X.2 := HR3.out.belowB HB5.out (by omega)
              exact ⟨h5.c.one _ (fun e => hpr e.symm), h5.lt, h5.rd, h5.bel.setCell (p := ⟨pb, 2, none⟩) (by have := h5.lt; show w0.heap.size ≤ pb; omega) _⟩
            · show OwnC _ _ _ _
              exact HO5.out.heap (fun a ha => Below.heap_setCell _ _ _ _ (by have := (HO5.out.lt a ha).1; show a ≠ pb; omega))
            · show C3 _ _ _ _ _
              exact HP5.out.third _
            · show C3 _ _ _ _ _
              exact HS5.out.one _ hsp
            · show ChgB _ _ _
              exact chg_new (HG3.out.thenBelow HB5.out hwB) hwp _ _
            · show _ = _
              rw [HCR1.out]
            · show B ≤ _
              have := HBZ.out
              have := HB5.out.size
              have := HZU.out
              simp [World.setCell]
              omega
          case measure => simp [intOf]; omega
        case' b3_3 =>
          go_simp
          refine kc.mono ?_
          rintro e u3 ⟨rfl, hr3, hg3⟩
          rw [show insV X.1 = .agg #[.int .u8 (X.1.op : Int), .int .i64 X.1.a, .int .i64 X.1.b, .int .i64 X.1.c, .int .i64 X.1.n, .string X.1.s] from rfl]
          have hg3 : ChgB rb wr u3 := ⟨hg3.os, hg3.tape, hg3.output, hg3.size, hg3.block⟩
          have HR3 := hide hr3
          have HZU := hide (show wr.heap.size ≤ u3.heap.size from hg3.size)
          have HG3 := hide (HG.out.trans hg3)
          have HP3 := hide (HP.out.chg hg3 hpr)
          have HS3 := hide (HS.out.chg hg3 hsr)
          obtain ⟨v5, w5, hr5, ho5, hb5⟩ := (HO.out.heap (fun a ha => hg3.block a (HO.out.lt a ha).2 (by have := (HO.out.lt a ha).1; omega))).append1 X.1 (by rw [hal]; omega) (by have := HBZ.out; have := hg3.size; omega) 22
          obtain ⟨vo5, vc5, hvo5⟩ := ho5.shape
          rw [show (acc ++ [X.1]).length = acc.length + 1 by simp, hal] at hvo5
          subst hvo5
          have HP4 := hide (HP3.out.below ((Below.refl u3.heap.size u3).alloc (Nat.le_refl _) (.cells #[.int .u8 (X.1.op : Int), .int .i64 X.1.a, .int .i64 X.1.b, .int .i64 X.1.c, .int .i64 X.1.n, .string X.1.s] 28)))
          have HP5 := hide (HP3.out.belowB hb5 hpB)
          have HS5 := hide (HS3.out.belowB hb5 hsB)
          have d3 : u3.cell? ⟨pb, 2, none⟩ = some (.slice co k cc) := HP3.out.2.2.2.1
          have d4 : (u3.alloc (.cells #[.int .u8 (X.1.op : Int), .int .i64 X.1.a, .int .i64 X.1.b, .int .i64 X.1.c, .int .i64 X.1.n, .string X.1.s] 28)).cell? ⟨pb, 2, none⟩ = some (.slice co k cc) := HP4.out.2.2.2.1
          have d5 : w5.cell? ⟨pb, 2, none⟩ = some (.slice co k cc) := HP5.out.2.2.2.1
          have f5 : w5.frozen? ⟨pb, 2, none⟩ = false := HP5.out.2.2.2.2.2.2
          have HO5 := hide ho5
          have HB5 := hide hb5
          clear hr3 hg3 ho5 hb5
          refine hK.out _ _ trivial (fun _ => ?_)
          clear hK K
          try simp only [Act.put, List.setIfInBounds_toArray, List.set_cons_zero, List.set_cons_succ]
          refine wpAnyH_ready (rs := [1, 4]) (by kernel_rfl) (by simp) ?_
          refine AllReadyH.cons (o := { dst := some 18, op := Go.Op.load 22 (Go.Operand.tmp 17), type := 22, pos := "bytes.go:65", after := #[{ on := 0, ground := Go.Ground.data }], guard := none }) rfl (fun K hK => ?b9_1) (AllReadyH.cons (o := { dst := some 21, op := Go.Op.buildSlice 22 1 #[(0, Go.Operand.tmp 20)], type := 22, pos := "bytes.go:65", after := #[{ on := 3, ground := Go.Ground.data }], guard := none }) rfl (fun K hK => ?b9_4) AllReadyH.nil)
          case' b9_1 =>
            go_simp
            refine hK.out _ _ trivial (fun _ => ?_)
            clear hK K
            try simp only [Act.put, List.setIfInBounds_toArray, List.set_cons_zero, List.set_cons_succ]
            refine wpAnyH_ready (rs := [4]) (by kernel_rfl) (by simp) ?_
            refine AllReadyH.cons (o := { dst := some 21, op := Go.Op.buildSlice 22 1 #[(0, Go.Operand.tmp 20)], type := 22, pos := "bytes.go:65", after := #[{ on := 3, ground := Go.Ground.data }], guard := none }) rfl (fun K hK => ?_) AllReadyH.nil
            go_simp
            refine hK.out _ _ trivial (fun _ => ?_)
            clear hK K
            try simp only [Act.put, List.setIfInBounds_toArray, List.set_cons_zero, List.set_cons_succ]
            refine wpAnyH_ready (rs := [5]) (by kernel_rfl) (by simp) ?_
            refine AllReadyH.cons (o := { dst := some 22, op := Go.Op.call { callee := Go.Callee.builtin Go.Builtin.append, args := #[Go.Operand.tmp 18, Go.Operand.tmp 21], argTypes := #[22, 22] }, type := 22, pos := "bytes.go:65", after := #[{ on := 1, ground := Go.Ground.data }, { on := 4, ground := Go.Ground.data }, { on := 3, ground := Go.Ground.chain }], guard := none }) rfl (fun K hK => ?_) AllReadyH.nil
            refine step_append_runC rfl (.tmp 18) (.tmp 21) 22 22 rfl (.slice co k cc) (.slice (some ⟨u3.heap.size, 0, none⟩) 1 1) (by simp [Act.eval]) (by simp [Act.eval]) hr5 ?_
            refine hK.out _ _ trivial (fun _ => ?_)
            clear hK K
            try simp only [Act.put, List.setIfInBounds_toArray, List.set_cons_zero, List.set_cons_succ]
            refine wpAnyH_take (i := 6) (oi := { dst := some 23, op := Go.Op.fieldAddr 24 (Go.Operand.tmp 3) 2, type := 0, pos := "bytes.go:65", after := #[{ on := 0, ground := Go.Ground.phase }, { on := 1, ground := Go.Ground.phase }, { on := 2, ground := Go.Ground.phase }, { on := 3, ground := Go.Ground.phase }, { on := 4, ground := Go.Ground.phase }, { on := 5, ground := Go.Ground.phase }], guard := none }) (v := ?_) rfl (by kernel_rfl) (by kernel_rfl) (by kernel_rfl) (fun _ _ _ h => h) (Or.inl ⟨by rfl, ?hy12⟩) trivial ?_
            case hy12 =>
              intro u hu
              obtain u0 := hu
              go_simp
              try with_reducible rfl
            simp only [Act.put, List.setIfInBounds_toArray, List.set_cons_zero, List.set_cons_succ]
            refine wpAnyH_ready (rs := [7]) (by kernel_rfl) (by simp) ?_
            refine AllReadyH.cons (o := { dst := none, op := Go.Op.store 22 (Go.Operand.tmp 23) (Go.Operand.tmp 22), type := 0, pos := "bytes.go:65", after := #[{ on := 6, ground := Go.Ground.data }, { on := 5, ground := Go.Ground.data }, { on := 5, ground := Go.Ground.chain }, { on := 0, ground := Go.Ground.phase }, { on := 1, ground := Go.Ground.phase }, { on := 2, ground := Go.Ground.phase }, { on := 3, ground := Go.Ground.phase }, { on := 4, ground := Go.Ground.phase }, { on := 5, ground := Go.Ground.phase }], guard := none }) rfl (fun K hK => ?_) AllReadyH.nil
            go_simp
            refine hK.out _ _ trivial (fun _ => ?_)
            clear hK K
            try simp only [Act.put, List.setIfInBounds_toArray, List.set_cons_zero, List.set_cons_succ]
            refine wpAnyH_done (by kernel_rfl) ?_ _
            go_wp2
            go_roundw
            case rel =>
              refine ⟨k + 1, X.2, acc ++ [X.1], .slice vo5 (k + 1) vc5, hk1, by go_num, by simp [hal], ?_, ?_, ?_, ?_, ?_, ?_, ?_⟩
              · show Rdr _ _ _ _ _ _
                have h5 : Rdr w0 w5 rb bv l X.2 := HR3.out.belowB HB5.out (by omega)
                exact ⟨h5.c.one _ (fun e => hpr e.symm), h5.lt, h5.rd, h5.bel.setCell (p := ⟨pb, 2, none⟩) (by have := h5.lt; show w0.heap.size ≤ pb; omega) _⟩
              · show OwnC _ _ _ _
                exact HO5.out.heap (fun a ha => Below.heap_setCell _ _ _ _ (by have := (HO5.out.lt a ha).1; show a ≠ pb; omega))
              · show C3 _ _ _ _ _
                exact HP5.out.third _
              · show C3 _ _ _ _ _
                exact HS5.out.one _ hsp
              · show ChgB _ _ _
                exact chg_new (HG3.out.thenBelow HB5.out hwB) hwp _ _
              · show _ = _
                rw [HCR1.out]
              · show B ≤ _
                have := HBZ.out
                have := HB5.out.size
                have := HZU.out
                simp [World.setCell]
                omega
            case measure => simp [intOf]; omega
          case' b9_4 =>
            go_simp
            refine hK.out _ _ trivial (fun _ => ?_)
            clear hK K
            try simp only [Act.put, List.setIfInBounds_toArray, List.set_cons_zero, List.set_cons_succ]
            refine wpAnyH_ready (rs := [1]) (by kernel_rfl) (by simp) ?_
            refine AllReadyH.cons (o := { dst := some 18, op := Go.Op.load 22 (Go.Operand.tmp 17), type := 22, pos := "bytes.go:65", after := #[{ on := 0, ground := Go.Ground.data }], guard := none }) rfl (fun K hK => ?_) AllReadyH.nil
            go_simp
            refine hK.out _ _ trivial (fun _ => ?_)
            clear hK K
            try simp only [Act.put, List.setIfInBounds_toArray, List.set_cons_zero, List.set_cons_succ]
            refine wpAnyH_ready (rs := [5]) (by kernel_rfl) (by simp) ?_
            refine AllReadyH.cons (o := { dst := some 22, op := Go.Op.call { callee := Go.Callee.builtin Go.Builtin.append, args := #[Go.Operand.tmp 18, Go.Operand.tmp 21], argTypes := #[22, 22] }, type := 22, pos := "bytes.go:65", after := #[{ on := 1, ground := Go.Ground.data }, { on := 4, ground := Go.Ground.data }, { on := 3, ground := Go.Ground.chain }], guard := none }) rfl (fun K hK => ?_) AllReadyH.nil
            refine step_append_runC rfl (.tmp 18) (.tmp 21) 22 22 rfl (.slice co k cc) (.slice (some ⟨u3.heap.size, 0, none⟩) 1 1) (by simp [Act.eval]) (by simp [Act.eval]) hr5 ?_
            refine hK.out _ _ trivial (fun _ => ?_)
            clear hK K
            try simp only [Act.put, List.setIfInBounds_toArray, List.set_cons_zero, List.set_cons_succ]
            refine wpAnyH_take (i := 6) (oi := { dst := some 23, op := Go.Op.fieldAddr 24 (Go.Operand.tmp 3) 2, type := 0, pos := "bytes.go:65", after := #[{ on := 0, ground := Go.Ground.phase }, { on := 1, ground := Go.Ground.phase }, { on := 2, ground := Go.Ground.phase }, { on := 3, ground := Go.Ground.phase }, { on := 4, ground := Go.Ground.phase }, { on := 5, ground := Go.Ground.phase }], guard := none }) (v := ?_) rfl (by kernel_rfl) (by kernel_rfl) (by kernel_rfl) (fun _ _ _ h => h) (Or.inl ⟨by rfl, ?hy16⟩) trivial ?_
            case hy16 =>
              intro u hu
              obtain u0 := hu
              go_simp
              try with_reducible rfl
            simp only [Act.put, List.setIfInBounds_toArray, List.set_cons_zero, List.set_cons_succ]
            refine wpAnyH_ready (rs := [7]) (by kernel_rfl) (by simp) ?_
            refine AllReadyH.cons (o := { dst := none, op := Go.Op.store 22 (Go.Operand.tmp 23) (Go.Operand.tmp 22), type := 0, pos := "bytes.go:65", after := #[{ on := 6, ground := Go.Ground.data }, { on := 5, ground := Go.Ground.data }, { on := 5, ground := Go.Ground.chain }, { on := 0, ground := Go.Ground.phase }, { on := 1, ground := Go.Ground.phase }, { on := 2, ground := Go.Ground.phase }, { on := 3, ground := Go.Ground.phase }, { on := 4, ground := Go.Ground.phase }, { on := 5, ground := Go.Ground.phase }], guard := none }) rfl (fun K hK => ?_) AllReadyH.nil
            go_simp
            refine hK.out _ _ trivial (fun _ => ?_)
            clear hK K
            try simp only [Act.put, List.setIfInBounds_toArray, List.set_cons_zero, List.set_cons_succ]
            refine wpAnyH_done (by kernel_rfl) ?_ _
            go_wp2
            go_roundw
            case rel =>
              refine ⟨k + 1, X.2, acc ++ [X.1], .slice vo5 (k + 1) vc5, hk1, by go_num, by simp [hal], ?_, ?_, ?_, ?_, ?_, ?_, ?_⟩
              · show Rdr _ _ _ _ _ _
                have h5 : Rdr w0 w5 rb bv l X.2 := HR3.out.belowB HB5.out (by omega)
                exact ⟨h5.c.one _ (fun e => hpr e.symm), h5.lt, h5.rd, h5.bel.setCell (p := ⟨pb, 2, none⟩) (by have := h5.lt; show w0.heap.size ≤ pb; omega) _⟩
              · show OwnC _ _ _ _
                exact HO5.out.heap (fun a ha => Below.heap_setCell _ _ _ _ (by have := (HO5.out.lt a ha).1; show a ≠ pb; omega))
              · show C3 _ _ _ _ _
                exact HP5.out.third _
              · show C3 _ _ _ _ _
                exact HS5.out.one _ hsp
              · show ChgB _ _ _
                exact chg_new (HG3.out.thenBelow HB5.out hwB) hwp _ _
              · show _ = _
                rw [HCR1.out]
              · show B ≤ _
                have := HBZ.out
                have := HB5.out.size
                have := HZU.out
                simp [World.setCell]
                omega
            case measure => simp [intOf]; omega

    · have hk : n = k := by omega
      subst hk
      have hcr := HFI.out (by rw [HCR.out, Nat.sub_self]; rfl)
      go_wp2
      refine bodyPost_ret (v := .agg #[.string ⟨T.1.toArray⟩, .int .i64 (M.1 : Int), .slice co n cc]) (by simp [results, Tryd.results31, go_sem, s0, s1, s2]) rfl ?_
      obtain ⟨k1, k2, k3⟩ := HEN.out _ rfl
      refine ⟨.slice co n cc, by rw [hcr.1], by rw [hcr.2.1]; exact k1, k2, by rw [hcr.2.2]; exact k3⟩
end Go.Proofs.YtpiiehenmkinaaaDoor
