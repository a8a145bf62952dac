/-
  The independent reading's Bytes. Own work.
-/
import Derived.Test.YtpiiehenmkinaaaDoorJf
import Derived.Test.YtpiiehenmkinaaaDoorRc
import Derived.Test.YtpiiehenmkinaaaDoorEi
import Derived.Test.YtpiiehenmkinaaaDoorEd
namespace Go.Proofs.YtpiiehenmkinaaaDoor
open Go.RowKit

theorem refUint_int (o : Value) (lo : List UInt8) (n : Int) (w : World) (h0 : 0 ≤ n) (hn : n ≤ 18446744073709551615) (hrd : Rd w o lo) (hlen : lo.length ≤ 140737488354000) :
    Calls Tryd.prog 29 #[o, .int .u64 n] w fun e w' => ∃ v, e = .returned v ∧ Own w' w.heap.size v (lo ++ U n) ∧ Below w.heap.size w w' := by
  obtain ⟨m, rfl⟩ := Int.eq_ofNat_of_zero_le h0
  exact refUint_any o lo m w (by omega) hrd hlen
theorem take_len (p : Prg) (k : Nat) : (headL p ++ codeL (p.code.take k)).length ≤ (bytesP p).length := by
  have e : codeL p.code = codeL (p.code.take k) ++ codeL (p.code.drop k) := by
    unfold codeL
    rw [← List.flatten_append, ← List.map_append, List.take_append_drop]
  unfold bytesP
  rw [e]
  simp only [List.length_append]
  omega
theorem codeL_succ (code : List Ins) (k : Nat) (hk : k < code.length) : codeL (code.take (k + 1)) = codeL (code.take k) ++ insL code[k] := by
  unfold codeL
  rw [List.take_succ_eq_append_getElem hk, List.map_append, List.flatten_append]
  simp
theorem C6.below {w w' : World} {g : Nat} {c0 c1 c2 c3 c4 c5 : Value} (h : C6 w g c0 c1 c2 c3 c4 c5) (hb : Below w.heap.size w w') : C6 w' g c0 c1 c2 c3 c4 c5 :=
  h.chg (ChgB.ofBelow (b := w.heap.size) hb) (by have := h.1; omega)
theorem Cells6 {w : World} {g : Nat} {c0 c1 c2 c3 c4 c5 : Value} (h : C6 w g c0 c1 c2 c3 c4 c5) : w.cell? ⟨g, 0, none⟩ = some c0 ∧ w.cell? ⟨g, 1, none⟩ = some c1 ∧ w.cell? ⟨g, 2, none⟩ = some c2 ∧ w.cell? ⟨g, 3, none⟩ = some c3 ∧ w.cell? ⟨g, 4, none⟩ = some c4 ∧ w.cell? ⟨g, 5, none⟩ = some c5 := h.2.1
theorem Cells3 {w : World} {g : Nat} {c0 c1 c2 : Value} (h : C3 w g c0 c1 c2) : w.cell? ⟨g, 0, none⟩ = some c0 ∧ w.cell? ⟨g, 1, none⟩ = some c1 ∧ w.cell? ⟨g, 2, none⟩ = some c2 := ⟨h.2.1, h.2.2.1, h.2.2.2.1⟩
set_option maxRecDepth 100000 in
set_option maxHeartbeats 3200000 in
theorem refBytes_any (p : Prg) (cv : Value) (w : World) (hc : RdC w cv p.code) (hw : ∀ i ∈ p.code, i.wf) :
    Calls Tryd.prog 11 #[prgV p cv] w fun e w' => ∃ v, e = .returned (.tuple #[v, .int .i64 (errP p 20)]) ∧ Own w' w.heap.size v (bytesR p) ∧ Below w.heap.size w w' := by
  obtain ⟨name, regs, code⟩ := p
  obtain ⟨ao, cap, rfl, -⟩ := hc.shape
  simp only at hc hw
  show Calls Tryd.prog 11 #[.agg #[.string name, .int .i64 regs, .slice ao code.length cap]] w _
  have HC := hide hc
  have HWF := hide hw
  obtain ⟨n, HN⟩ := named code.length
  rw [← HN.out] at HC ⊢
  obtain ⟨W, HW⟩ := named (w.alloc (.cells #[.string name, .int .i64 regs, .slice ao n cap] 24))
  have hbW : Below w.heap.size w W := by rw [HW.out]; exact (Below.refl _ _).alloc (Nat.le_refl _) _
  obtain ⟨pb, HPB⟩ := named w.heap.size
  have HP := hide (show C3 W pb (.string name) (.int .i64 regs) (.slice ao n cap) by rw [HW.out, HPB.out]; exact C3.new _ _ _ _ _)
  have HBW := hide hbW
  obtain ⟨R, HR⟩ := named (bytesR ⟨name, regs, code⟩)
  rw [← HR.out]
  obtain ⟨E, HE⟩ := named (errP ⟨name, regs, code⟩ 20)
  rw [← HE.out]
  clear hbW hc hw
  go_enter Tryd.func11, Tryd.ntmps11
  go_wp2_with fail
  rw [← HW.out, ← HPB.out]
  refine (refCheck_any ⟨name, regs, code⟩ (.slice ao n cap) 20 W (HC.out.below HBW.out)).mono ?_
  rintro e w1 ⟨rfl, hb1⟩
  have HB1 := hide (below_call HBW.out hb1)
  have HP1 := hide (HP.out.below hb1)
  clear hb1
  cases hok : okP ⟨name, regs, code⟩ 20 with
  | false =>
    rw [show errP ⟨name, regs, code⟩ 20 = 100 by unfold errP; rw [hok]; rfl]
    have hbr : R = [] := by rw [HR.out]; unfold bytesR; rw [hok]; rfl
    subst hbr
    go_wp2
    refine bodyPost_ret (v := .tuple #[.slice none 0 0, .int .i64 100]) (by simp [results, Tryd.results11, go_sem]) rfl ?_
    exact ⟨_, by rw [HE.out, errP, hok]; rfl, Own.nil _ _, HB1.out⟩
  | true =>
    rw [show errP ⟨name, regs, code⟩ 20 = 0 by unfold errP; rw [hok]; rfl]
    have HBR := hide (show R = bytesP ⟨name, regs, code⟩ by rw [HR.out]; unfold bytesR; rw [hok]; rfl)
    have HLEN := hide (bytesP_len _ hok)
    have hin := okP_in hok
    have HIN := hide hin
    have HOK := hide hok
    have hn5 : n ≤ 500 := by rw [HN.out]; exact hin.2.2.1
    have hrg : 1 ≤ regs ∧ regs ≤ 16 := hin.2.1
    have hns : name.size ≤ 40 := hin.1.2
    have hU := fun n => U_len n
    have hcv := conv_run name
    have HS1 := hide (conv_rd name w1 (by omega))
    have HBb := hide (below_bytesWorld w1 name)
    have hnl := nm_len name
    have q1 := u64_of regs (by omega) (by omega)
    have q2 := u64_of (n : Int) (by omega) (by omega)
    obtain ⟨-, x0, x1, x2, -⟩ := id HP1.out
    clear hin
    go_wp2_with fail
    refine (refBlob_any (.slice none 0 0) _ [] (nm name) (Lib.bytesWorld w1 5 name) (Rd.nil _) HS1.out (by rw [hnl]; simp; omega)).mono ?_
    rintro e w2 ⟨v2, rfl, ho2, hb2⟩
    have HB2 := hide (show Below w1.heap.size w1 w2 from below_call HBb.out hb2)
    have HP2 := hide (HP1.out.below HB2.out)
    obtain ⟨l1, HL1⟩ := named ([] ++ (U (nm name).length ++ nm name))
    have hl1 : l1.length ≤ 50 := by rw [HL1.out]; simp only [List.length_append, List.nil_append]; have := hU ((nm name).length : Int); omega
    rw [← HL1.out] at ho2
    have HO2 := hide (ho2.mono HBb.out.size)
    have hs0 : w2.drew.cell? ⟨pb, 0, none⟩ = some (.string name) ∧ w2.drew.cell? ⟨pb, 1, none⟩ = some (.int .i64 regs) ∧ w2.drew.cell? ⟨pb, 2, none⟩ = some (.slice ao n cap) := Cells3 HP2.out
    clear x0 x1 x2 ho2 hb2 hcv
    go_wp2_with fail
    refine wp_region_held_drew (S := (fun w' => w'.cell? ⟨pb, 0, none⟩ = some (.string name) ∧ w'.cell? ⟨pb, 1, none⟩ = some (.int .i64 regs) ∧ w'.cell? ⟨pb, 2, none⟩ = some (.slice ao n cap))) (by kernel_rfl) hs0 (fun _ => ?_)
    refine wpAnyH_take (i := 0) (oi := { dst := some 14, op := Go.Op.move (Go.Operand.tmp 4), type := 25, pos := "ref.go:98", after := #[], guard := none }) (v := ?_) rfl (by kernel_rfl) (by kernel_rfl) (by kernel_rfl) (fun _ _ _ h => h) (Or.inl ⟨by rfl, ?hy1⟩) hs0 ?_
    case hy1 =>
      intro u hu
      obtain ⟨u0, u1, u2⟩ := hu
      go_simp
      try with_reducible rfl
    simp only [Act.put, List.setIfInBounds_toArray, List.set_cons_zero, List.set_cons_succ]
    refine wpAnyH_take (i := 1) (oi := { dst := some 15, op := Go.Op.fieldAddr 24 (Go.Operand.tmp 1) 1, type := 0, pos := "ref.go:98", after := #[], guard := none }) (v := ?_) rfl (by kernel_rfl) (by kernel_rfl) (by kernel_rfl) (fun _ _ _ h => h) (Or.inl ⟨by rfl, ?hy2⟩) hs0 ?_
    case hy2 =>
      intro u hu
      obtain ⟨u0, u1, u2⟩ := hu
      go_simp
      try with_reducible rfl
    simp only [Act.put, List.setIfInBounds_toArray, List.set_cons_zero, List.set_cons_succ]
    refine wpAnyH_take (i := 2) (oi := { dst := some 16, op := Go.Op.load 3 (Go.Operand.tmp 15), type := 3, pos := "ref.go:98", after := #[{ on := 1, ground := Go.Ground.data }], guard := none }) (v := ?_) rfl (by kernel_rfl) (by kernel_rfl) (by kernel_rfl) (fun _ _ _ h => h) (Or.inl ⟨by rfl, ?hy3⟩) hs0 ?_
    case hy3 =>
      intro u hu
      obtain ⟨u0, u1, u2⟩ := hu
      go_simp
      try with_reducible rfl
    simp only [Act.put, List.setIfInBounds_toArray, List.set_cons_zero, List.set_cons_succ]
    refine wpAnyH_take (i := 3) (oi := { dst := some 17, op := Go.Op.convert 3 59 (Go.Operand.tmp 16), type := 59, pos := "ref.go:98", after := #[{ on := 2, ground := Go.Ground.data }], guard := none }) (v := ?_) rfl (by kernel_rfl) (by kernel_rfl) (by kernel_rfl) (fun _ _ _ h => h) (Or.inl ⟨by rfl, ?hy4⟩) hs0 ?_
    case hy4 =>
      intro u hu
      obtain ⟨u0, u1, u2⟩ := hu
      go_simp
      try with_reducible rfl
    simp only [Act.put, List.setIfInBounds_toArray, List.set_cons_zero, List.set_cons_succ]
    refine wpAnyH_take (i := 5) (oi := { dst := some 19, op := Go.Op.fieldAddr 24 (Go.Operand.tmp 1) 2, type := 0, pos := "ref.go:98", after := #[], guard := none }) (v := ?_) rfl (by kernel_rfl) (by kernel_rfl) (by kernel_rfl) (fun _ _ _ h => h) (Or.inl ⟨by rfl, ?hy5⟩) hs0 ?_
    case hy5 =>
      intro u hu
      obtain ⟨u0, u1, u2⟩ := hu
      go_simp
      try with_reducible rfl
    simp only [Act.put, List.setIfInBounds_toArray, List.set_cons_zero, List.set_cons_succ]
    refine wpAnyH_take (i := 6) (oi := { dst := some 20, op := Go.Op.load 22 (Go.Operand.tmp 19), type := 22, pos := "ref.go:98", after := #[{ on := 5, ground := Go.Ground.data }], guard := none }) (v := ?_) rfl (by kernel_rfl) (by kernel_rfl) (by kernel_rfl) (fun _ _ _ h => h) (Or.inl ⟨by rfl, ?hy6⟩) hs0 ?_
    case hy6 =>
      intro u hu
      obtain ⟨u0, u1, u2⟩ := hu
      go_simp
      try with_reducible rfl
    simp only [Act.put, List.setIfInBounds_toArray, List.set_cons_zero, List.set_cons_succ]
    refine wpAnyH_ready (rs := [4, 7]) (by kernel_rfl) (by simp) ?_
    refine AllReadyH.cons (o := { dst := some 18, op := Go.Op.call { callee := Go.Callee.value (Go.Operand.func 29), args := #[Go.Operand.tmp 14, Go.Operand.tmp 17], argTypes := #[25, 59] }, type := 25, pos := "ref.go:98", after := #[{ on := 0, ground := Go.Ground.data }, { on := 3, ground := Go.Ground.data }], guard := none }) rfl (fun K hK => ?b7_4) (AllReadyH.cons (o := { dst := some 21, op := Go.Op.call { callee := Go.Callee.builtin Go.Builtin.len, args := #[Go.Operand.tmp 20], argTypes := #[22] }, type := 3, pos := "ref.go:98", after := #[{ on := 6, ground := Go.Ground.data }], guard := none }) rfl (fun K hK => ?b7_7) AllReadyH.nil)
    case' b7_4 =>
      go_simp
      try rw [q1]
      refine (refUint_int v2 l1 regs w2.drew (by omega) (by omega) HO2.out.rd.drew (by omega)).mono ?_
      rintro e w3 ⟨v3, rfl, ho3, hb3⟩
      have HB3 := hide (show Below w2.heap.size w2 w3 from ⟨hb3.os, hb3.tape, hb3.output, hb3.size, hb3.block⟩)
      obtain ⟨l2, HL2⟩ := named (l1 ++ U regs)
      have hl2 : l2.length ≤ 60 := by rw [HL2.out, List.length_append]; have := hU regs; omega
      rw [← HL2.out] at ho3
      have HO3 := hide (show Own w3 w2.heap.size v3 l2 from ho3)
      have HP3 := hide (HP2.out.below HB3.out)
      have hs1 : w3.cell? ⟨pb, 0, none⟩ = some (.string name) ∧ w3.cell? ⟨pb, 1, none⟩ = some (.int .i64 regs) ∧ w3.cell? ⟨pb, 2, none⟩ = some (.slice ao n cap) := Cells3 HP3.out
      clear ho3 hb3
      refine hK.out _ _ hs1 (fun _ => ?_)
      clear hK K
      try simp only [Act.put, List.setIfInBounds_toArray, List.set_cons_zero, List.set_cons_succ]
      refine wpAnyH_ready (rs := [7]) (by kernel_rfl) (by simp) ?_
      refine AllReadyH.cons (o := { dst := some 21, op := Go.Op.call { callee := Go.Callee.builtin Go.Builtin.len, args := #[Go.Operand.tmp 20], argTypes := #[22] }, type := 3, pos := "ref.go:98", after := #[{ on := 6, ground := Go.Ground.data }], guard := none }) rfl (fun K hK => ?_) AllReadyH.nil
      go_simp
      refine hK.out _ _ hs1 (fun _ => ?_)
      clear hK K
      try simp only [Act.put, List.setIfInBounds_toArray, List.set_cons_zero, List.set_cons_succ]
      refine wpAnyH_take (i := 8) (oi := { dst := some 22, op := Go.Op.convert 3 59 (Go.Operand.tmp 21), type := 59, pos := "ref.go:98", after := #[{ on := 7, ground := Go.Ground.data }], guard := none }) (v := ?_) rfl (by kernel_rfl) (by kernel_rfl) (by kernel_rfl) (fun _ _ _ h => h) (Or.inl ⟨by rfl, ?hy9⟩) hs1 ?_
      case hy9 =>
        intro u hu
        obtain ⟨u0, u1, u2⟩ := hu
        go_simp
        try with_reducible rfl
      simp only [Act.put, List.setIfInBounds_toArray, List.set_cons_zero, List.set_cons_succ]
      refine wpAnyH_ready (rs := [9]) (by kernel_rfl) (by simp) ?_
      refine AllReadyH.cons (o := { dst := some 23, op := Go.Op.call { callee := Go.Callee.value (Go.Operand.func 29), args := #[Go.Operand.tmp 18, Go.Operand.tmp 22], argTypes := #[25, 59] }, type := 25, pos := "ref.go:98", after := #[{ on := 4, ground := Go.Ground.data }, { on := 8, ground := Go.Ground.data }, { on := 4, ground := Go.Ground.chain }], guard := none }) rfl (fun K hK => ?_) AllReadyH.nil
      go_simp
      try rw [q2]
      refine (refUint_int v3 l2 (n : Int) w3 (by omega) (by omega) HO3.out.rd (by omega)).mono ?_
      rintro e w4 ⟨v4, rfl, ho4, hb4⟩
      have HB4 := hide (show Below w3.heap.size w3 w4 from hb4)
      have HP4 := hide (HP3.out.below HB4.out)
      have hs2 : w4.cell? ⟨pb, 0, none⟩ = some (.string name) ∧ w4.cell? ⟨pb, 1, none⟩ = some (.int .i64 regs) ∧ w4.cell? ⟨pb, 2, none⟩ = some (.slice ao n cap) := Cells3 HP4.out
      have hhead : l2 ++ U (n : Int) = headL ⟨name, regs, code⟩ := by rw [HL2.out, HL1.out]; unfold headL blobL; simp [HN.out]
      rw [hhead] at ho4
      refine hK.out _ _ hs2 (fun _ => ?_)
      clear hK K
      try simp only [Act.put, List.setIfInBounds_toArray, List.set_cons_zero, List.set_cons_succ]
      refine wpAnyH_ready (rs := [10]) (by kernel_rfl) (by simp) ?_
      refine AllReadyH.cons (o := { dst := some 4, op := Go.Op.assign (Go.Operand.tmp 23), type := 25, pos := "ref.go:98", after := #[{ on := 9, ground := Go.Ground.data }, { on := 9, ground := Go.Ground.chain }, { on := 0, ground := Go.Ground.phase }, { on := 1, ground := Go.Ground.phase }, { on := 2, ground := Go.Ground.phase }, { on := 3, ground := Go.Ground.phase }, { on := 4, ground := Go.Ground.phase }, { on := 5, ground := Go.Ground.phase }, { on := 6, ground := Go.Ground.phase }, { on := 7, ground := Go.Ground.phase }, { on := 8, ground := Go.Ground.phase }, { on := 9, ground := Go.Ground.phase }], guard := none }) rfl (fun K hK => ?_) AllReadyH.nil
      go_simp
      refine hK.out _ _ hs2 (fun _ => ?_)
      clear hK K
      try simp only [Act.put, List.setIfInBounds_toArray, List.set_cons_zero, List.set_cons_succ]
      refine wpAnyH_done (by kernel_rfl) ?_ _
      go_wp2_with fail
      go_loopw [4, 5] (fun tv iv wr => ∃ k : Nat, k ≤ n ∧ iv = .int .i64 k ∧ Hid (Own wr w1.heap.size tv (headL ⟨name, regs, code⟩ ++ codeL (code.take k))) ∧ Hid (Below w1.heap.size w1 wr)) (fun _ iv _ => n - (intOf iv).toNat)
      case atStart => exact ⟨0, by omega, rfl, by show Own _ _ _ _; simp only [List.take_zero, codeL, List.map_nil, List.flatten_nil, List.append_nil]; exact ho4.mono (by have := HB2.out.size; have := HB3.out.size; omega), below_call HB2.out (below_call HB3.out HB4.out)⟩
      case round =>
        obtain ⟨k, hkn, rfl, HO, HQR⟩ := hrel
        have HPR := hide (HP1.out.below HQR.out)
        obtain ⟨-, x0, x1, x2, -⟩ := id HPR.out
        by_cases hlt : k < n
        · have hk5 : k < code.length := by rw [← HN.out]; exact hlt
          obtain ⟨b0, off0, hbe, hblt, c0, c1, c2, c3, c4, c5⟩ := (HC.out.below (below_call HB1.out HQR.out)).at k hk5
          subst hbe
          have hwi := HWF.out _ (List.getElem_mem hk5)
          have hrgi := insB_range (HIN.out.2.2.2.2 _ (List.getElem_mem hk5)) HIN.out.2.1.2
          have hcs := congrArg (fun x => headL ⟨name, regs, code⟩ ++ x) (codeL_succ code k hk5)
          obtain ⟨i, HI⟩ := named (code[k]'hk5)
          rw [← HI.out] at c0 c1 c2 c3 c4 c5 hwi hrgi
          rw [← HI.out] at hcs
          obtain ⟨m0, HM0⟩ := named (headL ⟨name, regs, code⟩ ++ codeL (code.take k))
          have hm0 : m0.length ≤ 100000 := by rw [HM0.out]; exact Nat.le_trans (take_len ⟨name, regs, code⟩ k) (by have := HLEN.out; omega)
          rw [← HM0.out] at HO
          have HCS := hide hcs
          have hop : 0 ≤ (i.op : Int) ∧ (i.op : Int) ≤ 255 := by have := hwi.op; omega
          have hni : -9223372036854775808 ≤ i.n ∧ i.n ≤ 9223372036854775807 := hwi.n
          have hsi := hrgi.2.2.2.1
          have hai := hrgi.1
          have hbi := hrgi.2.1
          have hci := hrgi.2.2.1
          have t0 := u64_of (i.op : Int) (by omega) (by omega)
          have t1 := u64_of i.a (by omega) (by omega)
          have t2 := u64_of i.b (by omega) (by omega)
          have t3 := u64_of i.c (by omega) (by omega)
          clear hcs hwi hrgi
          obtain ⟨y0, HY0⟩ := named (wr.alloc (.cells #[.int .u8 (i.op : Int), .int .i64 i.a, .int .i64 i.b, .int .i64 i.c, .int .i64 i.n, .string i.s] 28))
          obtain ⟨ib, HIB⟩ := named wr.heap.size
          have HI0 := hide (show C6 y0 ib (.int .u8 (i.op : Int)) (.int .i64 i.a) (.int .i64 i.b) (.int .i64 i.c) (.int .i64 i.n) (.string i.s) by rw [HY0.out, HIB.out]; exact C6.new _ _ _ _ _ _ _ _)
          have hby : Below wr.heap.size wr y0 := by rw [HY0.out]; exact (Below.refl _ _).alloc (Nat.le_refl _) _
          have HQY := hide (below_call HQR.out hby)
          have HZ0 := hide (HO.out.below hby)
          have hs0d : y0.drew.cell? ⟨ib, 0, none⟩ = some (.int .u8 (i.op : Int)) ∧ y0.drew.cell? ⟨ib, 1, none⟩ = some (.int .i64 i.a) ∧ y0.drew.cell? ⟨ib, 2, none⟩ = some (.int .i64 i.b) ∧ y0.drew.cell? ⟨ib, 3, none⟩ = some (.int .i64 i.c) ∧ y0.drew.cell? ⟨ib, 4, none⟩ = some (.int .i64 i.n) ∧ y0.drew.cell? ⟨ib, 5, none⟩ = some (.string i.s) := Cells6 HI0.out
          clear hby
          go_wp2_with fail
          rw [← HY0.out, ← HIB.out]
          refine wp_region_held_drew (S := (fun w' => w'.cell? ⟨ib, 0, none⟩ = some (.int .u8 (i.op : Int)) ∧ w'.cell? ⟨ib, 1, none⟩ = some (.int .i64 i.a) ∧ w'.cell? ⟨ib, 2, none⟩ = some (.int .i64 i.b) ∧ w'.cell? ⟨ib, 3, none⟩ = some (.int .i64 i.c) ∧ w'.cell? ⟨ib, 4, none⟩ = some (.int .i64 i.n) ∧ w'.cell? ⟨ib, 5, none⟩ = some (.string i.s))) (by kernel_rfl) hs0d (fun _ => ?_)
          refine wpAnyH_take (i := 0) (oi := { dst := some 36, op := Go.Op.move (Go.Operand.tmp 4), type := 25, pos := "ref.go:101", after := #[], guard := none }) (v := ?_) rfl (by kernel_rfl) (by kernel_rfl) (by kernel_rfl) (fun _ _ _ h => h) (Or.inl ⟨by rfl, ?hy12⟩) hs0d ?_
          case hy12 =>
            intro u hu
            obtain ⟨u0, u1, u2, u3, u4, u5⟩ := hu
            go_simp
            try with_reducible rfl
          simp only [Act.put, List.setIfInBounds_toArray, List.set_cons_zero, List.set_cons_succ]
          refine wpAnyH_take (i := 1) (oi := { dst := some 37, op := Go.Op.fieldAddr 28 (Go.Operand.tmp 6) 0, type := 0, pos := "ref.go:101", after := #[], guard := none }) (v := ?_) rfl (by kernel_rfl) (by kernel_rfl) (by kernel_rfl) (fun _ _ _ h => h) (Or.inl ⟨by rfl, ?hy13⟩) hs0d ?_
          case hy13 =>
            intro u hu
            obtain ⟨u0, u1, u2, u3, u4, u5⟩ := hu
            go_simp
            try with_reducible rfl
          simp only [Act.put, List.setIfInBounds_toArray, List.set_cons_zero, List.set_cons_succ]
          refine wpAnyH_take (i := 2) (oi := { dst := some 38, op := Go.Op.load 26 (Go.Operand.tmp 37), type := 26, pos := "ref.go:101", after := #[{ on := 1, ground := Go.Ground.data }], guard := none }) (v := ?_) rfl (by kernel_rfl) (by kernel_rfl) (by kernel_rfl) (fun _ _ _ h => h) (Or.inl ⟨by rfl, ?hy14⟩) hs0d ?_
          case hy14 =>
            intro u hu
            obtain ⟨u0, u1, u2, u3, u4, u5⟩ := hu
            go_simp
            try with_reducible rfl
          simp only [Act.put, List.setIfInBounds_toArray, List.set_cons_zero, List.set_cons_succ]
          refine wpAnyH_take (i := 3) (oi := { dst := some 39, op := Go.Op.convert 26 59 (Go.Operand.tmp 38), type := 59, pos := "ref.go:101", after := #[{ on := 2, ground := Go.Ground.data }], guard := none }) (v := ?_) rfl (by kernel_rfl) (by kernel_rfl) (by kernel_rfl) (fun _ _ _ h => h) (Or.inl ⟨by rfl, ?hy15⟩) hs0d ?_
          case hy15 =>
            intro u hu
            obtain ⟨u0, u1, u2, u3, u4, u5⟩ := hu
            go_simp
            try with_reducible rfl
          simp only [Act.put, List.setIfInBounds_toArray, List.set_cons_zero, List.set_cons_succ]
          refine wpAnyH_take (i := 5) (oi := { dst := some 41, op := Go.Op.fieldAddr 28 (Go.Operand.tmp 6) 1, type := 0, pos := "ref.go:101", after := #[], guard := none }) (v := ?_) rfl (by kernel_rfl) (by kernel_rfl) (by kernel_rfl) (fun _ _ _ h => h) (Or.inl ⟨by rfl, ?hy16⟩) hs0d ?_
          case hy16 =>
            intro u hu
            obtain ⟨u0, u1, u2, u3, u4, u5⟩ := hu
            go_simp
            try with_reducible rfl
          simp only [Act.put, List.setIfInBounds_toArray, List.set_cons_zero, List.set_cons_succ]
          refine wpAnyH_take (i := 6) (oi := { dst := some 42, op := Go.Op.load 3 (Go.Operand.tmp 41), type := 3, pos := "ref.go:101", after := #[{ on := 5, ground := Go.Ground.data }], guard := none }) (v := ?_) rfl (by kernel_rfl) (by kernel_rfl) (by kernel_rfl) (fun _ _ _ h => h) (Or.inl ⟨by rfl, ?hy17⟩) hs0d ?_
          case hy17 =>
            intro u hu
            obtain ⟨u0, u1, u2, u3, u4, u5⟩ := hu
            go_simp
            try with_reducible rfl
          simp only [Act.put, List.setIfInBounds_toArray, List.set_cons_zero, List.set_cons_succ]
          refine wpAnyH_take (i := 7) (oi := { dst := some 43, op := Go.Op.convert 3 59 (Go.Operand.tmp 42), type := 59, pos := "ref.go:101", after := #[{ on := 6, ground := Go.Ground.data }], guard := none }) (v := ?_) rfl (by kernel_rfl) (by kernel_rfl) (by kernel_rfl) (fun _ _ _ h => h) (Or.inl ⟨by rfl, ?hy18⟩) hs0d ?_
          case hy18 =>
            intro u hu
            obtain ⟨u0, u1, u2, u3, u4, u5⟩ := hu
            go_simp
            try with_reducible rfl
          simp only [Act.put, List.setIfInBounds_toArray, List.set_cons_zero, List.set_cons_succ]
          refine wpAnyH_ready (rs := [4]) (by kernel_rfl) (by simp) ?_
          refine AllReadyH.cons (o := { dst := some 40, op := Go.Op.call { callee := Go.Callee.value (Go.Operand.func 29), args := #[Go.Operand.tmp 36, Go.Operand.tmp 39], argTypes := #[25, 59] }, type := 25, pos := "ref.go:101", after := #[{ on := 0, ground := Go.Ground.data }, { on := 3, ground := Go.Ground.data }], guard := none }) rfl (fun K hK => ?_) AllReadyH.nil
          go_simp
          try rw [t0]
          refine (refUint_int u4 m0 (i.op : Int) y0.drew (by omega) (by omega) HZ0.out.rd.drew (by omega)).mono ?_
          rintro e y1 ⟨z1, rfl, hz, hb⟩
          have HD1 := hide (show Below y0.heap.size y0 y1 from ⟨hb.os, hb.tape, hb.output, hb.size, hb.block⟩)
          obtain ⟨m1, HM1⟩ := named (m0 ++ U (i.op : Int))
          have hm1 : m1.length ≤ 100000 + 10 := by rw [HM1.out, List.length_append]; have := hU ((i.op : Int)); omega
          rw [← HM1.out] at hz
          have HZ1 := hide (show Own y1 y0.heap.size z1 m1 from hz)
          have HI1 := hide (HI0.out.below HD1.out)
          have hs1 := Cells6 HI1.out
          clear hz hb
          refine hK.out _ _ hs1 (fun _ => ?_)
          clear hK K
          try simp only [Act.put, List.setIfInBounds_toArray, List.set_cons_zero, List.set_cons_succ]
          refine wpAnyH_ready (rs := [8]) (by kernel_rfl) (by simp) ?_
          refine AllReadyH.cons (o := { dst := some 44, op := Go.Op.call { callee := Go.Callee.value (Go.Operand.func 29), args := #[Go.Operand.tmp 40, Go.Operand.tmp 43], argTypes := #[25, 59] }, type := 25, pos := "ref.go:101", after := #[{ on := 4, ground := Go.Ground.data }, { on := 7, ground := Go.Ground.data }, { on := 4, ground := Go.Ground.chain }], guard := none }) rfl (fun K hK => ?_) AllReadyH.nil
          go_simp
          try rw [t1]
          refine (refUint_int z1 m1 i.a y1 (by omega) (by omega) HZ1.out.rd (by omega)).mono ?_
          rintro e y2 ⟨z2, rfl, hz, hb⟩
          have HD2 := hide (show Below y1.heap.size y1 y2 from ⟨hb.os, hb.tape, hb.output, hb.size, hb.block⟩)
          obtain ⟨m2, HM2⟩ := named (m1 ++ U i.a)
          have hm2 : m2.length ≤ 100000 + 20 := by rw [HM2.out, List.length_append]; have := hU (i.a); omega
          rw [← HM2.out] at hz
          have HZ2 := hide (show Own y2 y1.heap.size z2 m2 from hz)
          have HI2 := hide (HI1.out.below HD2.out)
          have hs2 := Cells6 HI2.out
          clear hz hb
          refine hK.out _ _ hs2 (fun _ => ?_)
          clear hK K
          try simp only [Act.put, List.setIfInBounds_toArray, List.set_cons_zero, List.set_cons_succ]
          refine wpAnyH_ready (rs := [9]) (by kernel_rfl) (by simp) ?_
          refine AllReadyH.cons (o := { dst := some 4, op := Go.Op.assign (Go.Operand.tmp 44), type := 25, pos := "ref.go:101", after := #[{ on := 8, ground := Go.Ground.data }, { on := 8, ground := Go.Ground.chain }, { on := 0, ground := Go.Ground.phase }, { on := 1, ground := Go.Ground.phase }, { on := 2, ground := Go.Ground.phase }, { on := 3, ground := Go.Ground.phase }, { on := 4, ground := Go.Ground.phase }, { on := 5, ground := Go.Ground.phase }, { on := 6, ground := Go.Ground.phase }, { on := 7, ground := Go.Ground.phase }, { on := 8, ground := Go.Ground.phase }], guard := none }) rfl (fun K hK => ?_) AllReadyH.nil
          go_simp
          refine hK.out _ _ hs2 (fun _ => ?_)
          clear hK K
          try simp only [Act.put, List.setIfInBounds_toArray, List.set_cons_zero, List.set_cons_succ]
          refine wpAnyH_done (by kernel_rfl) ?_ _
          go_wp2_with fail
          have hs2d : y2.drew.cell? ⟨ib, 0, none⟩ = some (.int .u8 (i.op : Int)) ∧ y2.drew.cell? ⟨ib, 1, none⟩ = some (.int .i64 i.a) ∧ y2.drew.cell? ⟨ib, 2, none⟩ = some (.int .i64 i.b) ∧ y2.drew.cell? ⟨ib, 3, none⟩ = some (.int .i64 i.c) ∧ y2.drew.cell? ⟨ib, 4, none⟩ = some (.int .i64 i.n) ∧ y2.drew.cell? ⟨ib, 5, none⟩ = some (.string i.s) := hs2
          refine wp_region_held_drew (S := (fun w' => w'.cell? ⟨ib, 0, none⟩ = some (.int .u8 (i.op : Int)) ∧ w'.cell? ⟨ib, 1, none⟩ = some (.int .i64 i.a) ∧ w'.cell? ⟨ib, 2, none⟩ = some (.int .i64 i.b) ∧ w'.cell? ⟨ib, 3, none⟩ = some (.int .i64 i.c) ∧ w'.cell? ⟨ib, 4, none⟩ = some (.int .i64 i.n) ∧ w'.cell? ⟨ib, 5, none⟩ = some (.string i.s))) (by kernel_rfl) hs2d (fun _ => ?_)
          refine wpAnyH_take (i := 0) (oi := { dst := some 45, op := Go.Op.move (Go.Operand.tmp 4), type := 25, pos := "ref.go:102", after := #[], guard := none }) (v := ?_) rfl (by kernel_rfl) (by kernel_rfl) (by kernel_rfl) (fun _ _ _ h => h) (Or.inl ⟨by rfl, ?hy22⟩) hs2d ?_
          case hy22 =>
            intro u hu
            obtain ⟨u0, u1, u2, u3, u4, u5⟩ := hu
            go_simp
            try with_reducible rfl
          simp only [Act.put, List.setIfInBounds_toArray, List.set_cons_zero, List.set_cons_succ]
          refine wpAnyH_take (i := 1) (oi := { dst := some 46, op := Go.Op.fieldAddr 28 (Go.Operand.tmp 6) 2, type := 0, pos := "ref.go:102", after := #[], guard := none }) (v := ?_) rfl (by kernel_rfl) (by kernel_rfl) (by kernel_rfl) (fun _ _ _ h => h) (Or.inl ⟨by rfl, ?hy23⟩) hs2d ?_
          case hy23 =>
            intro u hu
            obtain ⟨u0, u1, u2, u3, u4, u5⟩ := hu
            go_simp
            try with_reducible rfl
          simp only [Act.put, List.setIfInBounds_toArray, List.set_cons_zero, List.set_cons_succ]
          refine wpAnyH_take (i := 2) (oi := { dst := some 47, op := Go.Op.load 3 (Go.Operand.tmp 46), type := 3, pos := "ref.go:102", after := #[{ on := 1, ground := Go.Ground.data }], guard := none }) (v := ?_) rfl (by kernel_rfl) (by kernel_rfl) (by kernel_rfl) (fun _ _ _ h => h) (Or.inl ⟨by rfl, ?hy24⟩) hs2d ?_
          case hy24 =>
            intro u hu
            obtain ⟨u0, u1, u2, u3, u4, u5⟩ := hu
            go_simp
            try with_reducible rfl
          simp only [Act.put, List.setIfInBounds_toArray, List.set_cons_zero, List.set_cons_succ]
          refine wpAnyH_take (i := 3) (oi := { dst := some 48, op := Go.Op.convert 3 59 (Go.Operand.tmp 47), type := 59, pos := "ref.go:102", after := #[{ on := 2, ground := Go.Ground.data }], guard := none }) (v := ?_) rfl (by kernel_rfl) (by kernel_rfl) (by kernel_rfl) (fun _ _ _ h => h) (Or.inl ⟨by rfl, ?hy25⟩) hs2d ?_
          case hy25 =>
            intro u hu
            obtain ⟨u0, u1, u2, u3, u4, u5⟩ := hu
            go_simp
            try with_reducible rfl
          simp only [Act.put, List.setIfInBounds_toArray, List.set_cons_zero, List.set_cons_succ]
          refine wpAnyH_take (i := 5) (oi := { dst := some 50, op := Go.Op.fieldAddr 28 (Go.Operand.tmp 6) 3, type := 0, pos := "ref.go:102", after := #[], guard := none }) (v := ?_) rfl (by kernel_rfl) (by kernel_rfl) (by kernel_rfl) (fun _ _ _ h => h) (Or.inl ⟨by rfl, ?hy26⟩) hs2d ?_
          case hy26 =>
            intro u hu
            obtain ⟨u0, u1, u2, u3, u4, u5⟩ := hu
            go_simp
            try with_reducible rfl
          simp only [Act.put, List.setIfInBounds_toArray, List.set_cons_zero, List.set_cons_succ]
          refine wpAnyH_take (i := 6) (oi := { dst := some 51, op := Go.Op.load 3 (Go.Operand.tmp 50), type := 3, pos := "ref.go:102", after := #[{ on := 5, ground := Go.Ground.data }], guard := none }) (v := ?_) rfl (by kernel_rfl) (by kernel_rfl) (by kernel_rfl) (fun _ _ _ h => h) (Or.inl ⟨by rfl, ?hy27⟩) hs2d ?_
          case hy27 =>
            intro u hu
            obtain ⟨u0, u1, u2, u3, u4, u5⟩ := hu
            go_simp
            try with_reducible rfl
          simp only [Act.put, List.setIfInBounds_toArray, List.set_cons_zero, List.set_cons_succ]
          refine wpAnyH_take (i := 7) (oi := { dst := some 52, op := Go.Op.convert 3 59 (Go.Operand.tmp 51), type := 59, pos := "ref.go:102", after := #[{ on := 6, ground := Go.Ground.data }], guard := none }) (v := ?_) rfl (by kernel_rfl) (by kernel_rfl) (by kernel_rfl) (fun _ _ _ h => h) (Or.inl ⟨by rfl, ?hy28⟩) hs2d ?_
          case hy28 =>
            intro u hu
            obtain ⟨u0, u1, u2, u3, u4, u5⟩ := hu
            go_simp
            try with_reducible rfl
          simp only [Act.put, List.setIfInBounds_toArray, List.set_cons_zero, List.set_cons_succ]
          refine wpAnyH_ready (rs := [4]) (by kernel_rfl) (by simp) ?_
          refine AllReadyH.cons (o := { dst := some 49, op := Go.Op.call { callee := Go.Callee.value (Go.Operand.func 29), args := #[Go.Operand.tmp 45, Go.Operand.tmp 48], argTypes := #[25, 59] }, type := 25, pos := "ref.go:102", after := #[{ on := 0, ground := Go.Ground.data }, { on := 3, ground := Go.Ground.data }], guard := none }) rfl (fun K hK => ?_) AllReadyH.nil
          go_simp
          try rw [t2]
          refine (refUint_int z2 m2 i.b y2.drew (by omega) (by omega) HZ2.out.rd.drew (by omega)).mono ?_
          rintro e y3 ⟨z3, rfl, hz, hb⟩
          have HD3 := hide (show Below y2.heap.size y2 y3 from ⟨hb.os, hb.tape, hb.output, hb.size, hb.block⟩)
          obtain ⟨m3, HM3⟩ := named (m2 ++ U i.b)
          have hm3 : m3.length ≤ 100000 + 30 := by rw [HM3.out, List.length_append]; have := hU (i.b); omega
          rw [← HM3.out] at hz
          have HZ3 := hide (show Own y3 y2.heap.size z3 m3 from hz)
          have HI3 := hide (HI2.out.below HD3.out)
          have hs3 := Cells6 HI3.out
          clear hz hb
          refine hK.out _ _ hs3 (fun _ => ?_)
          clear hK K
          try simp only [Act.put, List.setIfInBounds_toArray, List.set_cons_zero, List.set_cons_succ]
          refine wpAnyH_ready (rs := [8]) (by kernel_rfl) (by simp) ?_
          refine AllReadyH.cons (o := { dst := some 53, op := Go.Op.call { callee := Go.Callee.value (Go.Operand.func 29), args := #[Go.Operand.tmp 49, Go.Operand.tmp 52], argTypes := #[25, 59] }, type := 25, pos := "ref.go:102", after := #[{ on := 4, ground := Go.Ground.data }, { on := 7, ground := Go.Ground.data }, { on := 4, ground := Go.Ground.chain }], guard := none }) rfl (fun K hK => ?_) AllReadyH.nil
          go_simp
          try rw [t3]
          refine (refUint_int z3 m3 i.c y3 (by omega) (by omega) HZ3.out.rd (by omega)).mono ?_
          rintro e y4 ⟨z4, rfl, hz, hb⟩
          have HD4 := hide (show Below y3.heap.size y3 y4 from ⟨hb.os, hb.tape, hb.output, hb.size, hb.block⟩)
          obtain ⟨m4, HM4⟩ := named (m3 ++ U i.c)
          have hm4 : m4.length ≤ 100000 + 40 := by rw [HM4.out, List.length_append]; have := hU (i.c); omega
          rw [← HM4.out] at hz
          have HZ4 := hide (show Own y4 y3.heap.size z4 m4 from hz)
          have HI4 := hide (HI3.out.below HD4.out)
          have hs4 := Cells6 HI4.out
          clear hz hb
          refine hK.out _ _ hs4 (fun _ => ?_)
          clear hK K
          try simp only [Act.put, List.setIfInBounds_toArray, List.set_cons_zero, List.set_cons_succ]
          refine wpAnyH_ready (rs := [9]) (by kernel_rfl) (by simp) ?_
          refine AllReadyH.cons (o := { dst := some 4, op := Go.Op.assign (Go.Operand.tmp 53), type := 25, pos := "ref.go:102", after := #[{ on := 8, ground := Go.Ground.data }, { on := 8, ground := Go.Ground.chain }, { on := 0, ground := Go.Ground.phase }, { on := 1, ground := Go.Ground.phase }, { on := 2, ground := Go.Ground.phase }, { on := 3, ground := Go.Ground.phase }, { on := 4, ground := Go.Ground.phase }, { on := 5, ground := Go.Ground.phase }, { on := 6, ground := Go.Ground.phase }, { on := 7, ground := Go.Ground.phase }, { on := 8, ground := Go.Ground.phase }], guard := none }) rfl (fun K hK => ?_) AllReadyH.nil
          go_simp
          refine hK.out _ _ hs4 (fun _ => ?_)
          clear hK K
          try simp only [Act.put, List.setIfInBounds_toArray, List.set_cons_zero, List.set_cons_succ]
          refine wpAnyH_done (by kernel_rfl) ?_ _
          go_wp2_with fail
          have hs4d : y4.drew.cell? ⟨ib, 0, none⟩ = some (.int .u8 (i.op : Int)) ∧ y4.drew.cell? ⟨ib, 1, none⟩ = some (.int .i64 i.a) ∧ y4.drew.cell? ⟨ib, 2, none⟩ = some (.int .i64 i.b) ∧ y4.drew.cell? ⟨ib, 3, none⟩ = some (.int .i64 i.c) ∧ y4.drew.cell? ⟨ib, 4, none⟩ = some (.int .i64 i.n) ∧ y4.drew.cell? ⟨ib, 5, none⟩ = some (.string i.s) := hs4
          have hcv := conv_run i.s
          refine wp_region_held_drew (S := (fun w' => w'.cell? ⟨ib, 0, none⟩ = some (.int .u8 (i.op : Int)) ∧ w'.cell? ⟨ib, 1, none⟩ = some (.int .i64 i.a) ∧ w'.cell? ⟨ib, 2, none⟩ = some (.int .i64 i.b) ∧ w'.cell? ⟨ib, 3, none⟩ = some (.int .i64 i.c) ∧ w'.cell? ⟨ib, 4, none⟩ = some (.int .i64 i.n) ∧ w'.cell? ⟨ib, 5, none⟩ = some (.string i.s))) (by kernel_rfl) hs4d (fun _ => ?_)
          refine wpAnyH_take (i := 0) (oi := { dst := some 54, op := Go.Op.move (Go.Operand.tmp 4), type := 25, pos := "ref.go:103", after := #[], guard := none }) (v := ?_) rfl (by kernel_rfl) (by kernel_rfl) (by kernel_rfl) (fun _ _ _ h => h) (Or.inl ⟨by rfl, ?hy32⟩) hs4d ?_
          case hy32 =>
            intro u hu
            obtain ⟨u0, u1, u2, u3, u4, u5⟩ := hu
            go_simp
            try with_reducible rfl
          simp only [Act.put, List.setIfInBounds_toArray, List.set_cons_zero, List.set_cons_succ]
          refine wpAnyH_take (i := 1) (oi := { dst := some 55, op := Go.Op.fieldAddr 28 (Go.Operand.tmp 6) 4, type := 0, pos := "ref.go:103", after := #[], guard := none }) (v := ?_) rfl (by kernel_rfl) (by kernel_rfl) (by kernel_rfl) (fun _ _ _ h => h) (Or.inl ⟨by rfl, ?hy33⟩) hs4d ?_
          case hy33 =>
            intro u hu
            obtain ⟨u0, u1, u2, u3, u4, u5⟩ := hu
            go_simp
            try with_reducible rfl
          simp only [Act.put, List.setIfInBounds_toArray, List.set_cons_zero, List.set_cons_succ]
          refine wpAnyH_take (i := 2) (oi := { dst := some 56, op := Go.Op.load 2 (Go.Operand.tmp 55), type := 2, pos := "ref.go:103", after := #[{ on := 1, ground := Go.Ground.data }], guard := none }) (v := ?_) rfl (by kernel_rfl) (by kernel_rfl) (by kernel_rfl) (fun _ _ _ h => h) (Or.inl ⟨by rfl, ?hy34⟩) hs4d ?_
          case hy34 =>
            intro u hu
            obtain ⟨u0, u1, u2, u3, u4, u5⟩ := hu
            go_simp
            try with_reducible rfl
          simp only [Act.put, List.setIfInBounds_toArray, List.set_cons_zero, List.set_cons_succ]
          refine wpAnyH_take (i := 4) (oi := { dst := some 58, op := Go.Op.fieldAddr 28 (Go.Operand.tmp 6) 5, type := 0, pos := "ref.go:103", after := #[], guard := none }) (v := ?_) rfl (by kernel_rfl) (by kernel_rfl) (by kernel_rfl) (fun _ _ _ h => h) (Or.inl ⟨by rfl, ?hy35⟩) hs4d ?_
          case hy35 =>
            intro u hu
            obtain ⟨u0, u1, u2, u3, u4, u5⟩ := hu
            go_simp
            try with_reducible rfl
          simp only [Act.put, List.setIfInBounds_toArray, List.set_cons_zero, List.set_cons_succ]
          refine wpAnyH_take (i := 5) (oi := { dst := some 59, op := Go.Op.load 9 (Go.Operand.tmp 58), type := 9, pos := "ref.go:103", after := #[{ on := 4, ground := Go.Ground.data }], guard := none }) (v := ?_) rfl (by kernel_rfl) (by kernel_rfl) (by kernel_rfl) (fun _ _ _ h => h) (Or.inl ⟨by rfl, ?hy36⟩) hs4d ?_
          case hy36 =>
            intro u hu
            obtain ⟨u0, u1, u2, u3, u4, u5⟩ := hu
            go_simp
            try with_reducible rfl
          simp only [Act.put, List.setIfInBounds_toArray, List.set_cons_zero, List.set_cons_succ]
          refine wpAnyH_ready (rs := [3, 6]) (by kernel_rfl) (by simp) ?_
          refine AllReadyH.cons (o := { dst := some 57, op := Go.Op.call { callee := Go.Callee.value (Go.Operand.func 30), args := #[Go.Operand.tmp 54, Go.Operand.tmp 56], argTypes := #[25, 2] }, type := 25, pos := "ref.go:103", after := #[{ on := 0, ground := Go.Ground.data }, { on := 2, ground := Go.Ground.data }], guard := none }) rfl (fun K hK => ?b37_3) (AllReadyH.cons (o := { dst := some 60, op := Go.Op.convert 9 25 (Go.Operand.tmp 59), type := 25, pos := "ref.go:103", after := #[{ on := 5, ground := Go.Ground.data }], guard := none }) rfl (fun K hK => ?b37_6) AllReadyH.nil)
          case' b37_3 =>
            go_simp
            refine (refInt_any z4 m4 i.n y4.drew (by omega) (by omega) HZ4.out.rd.drew (by omega)).mono ?_
            rintro e y5 ⟨z5, rfl, hz, hb⟩
            have HD5 := hide (show Below y4.heap.size y4 y5 from ⟨hb.os, hb.tape, hb.output, hb.size, hb.block⟩)
            obtain ⟨m5, HM5⟩ := named (m4 ++ U (foldI i.n))
            have hm5 : m5.length ≤ 100000 + 50 := by rw [HM5.out, List.length_append]; have := hU ((foldI i.n)); omega
            rw [← HM5.out] at hz
            have HZ5 := hide (show Own y5 y4.heap.size z5 m5 from hz)
            have HI5 := hide (HI4.out.below HD5.out)
            have hs5 := Cells6 HI5.out
            clear hz hb
            refine hK.out _ _ hs5 (fun _ => ?_)
            clear hK K
            try simp only [Act.put, List.setIfInBounds_toArray, List.set_cons_zero, List.set_cons_succ]
            refine wpAnyH_ready (rs := [6]) (by kernel_rfl) (by simp) ?_
            refine AllReadyH.cons (o := { dst := some 60, op := Go.Op.convert 9 25 (Go.Operand.tmp 59), type := 25, pos := "ref.go:103", after := #[{ on := 5, ground := Go.Ground.data }], guard := none }) rfl (fun K hK => ?_) AllReadyH.nil
            go_simp
            have HS5 := hide (conv_rd i.s y5 (by omega))
            have HDb := hide (below_bytesWorld y5 i.s)
            have hsb := Cells6 (HI5.out.below HDb.out)
            refine hK.out _ _ hsb (fun _ => ?_)
            clear hK K
            try simp only [Act.put, List.setIfInBounds_toArray, List.set_cons_zero, List.set_cons_succ]
            refine wpAnyH_ready (rs := [7]) (by kernel_rfl) (by simp) ?_
            refine AllReadyH.cons (o := { dst := some 61, op := Go.Op.call { callee := Go.Callee.value (Go.Operand.func 28), args := #[Go.Operand.tmp 57, Go.Operand.tmp 60], argTypes := #[25, 25] }, type := 25, pos := "ref.go:103", after := #[{ on := 3, ground := Go.Ground.data }, { on := 6, ground := Go.Ground.data }, { on := 3, ground := Go.Ground.chain }], guard := none }) rfl (fun K hK => ?_) AllReadyH.nil
            go_simp
            refine (refBlob_any z5 _ m5 (nm i.s) (Lib.bytesWorld y5 5 i.s) (HZ5.out.rd.below HDb.out) HS5.out (by have := nm_len i.s; omega)).mono ?_
            rintro e y6 ⟨z6, rfl, hz, hb⟩
            have hz := hz.mono HDb.out.size
            have hb := below_call HDb.out hb
            have HD6 := hide (show Below y5.heap.size y5 y6 from hb)
            have HI6 := hide (HI5.out.below HD6.out)
            have hs6 := Cells6 HI6.out
            have HZ6 := hide (show Own y6 y5.heap.size z6 _ from hz)
            clear hz hb
            refine hK.out _ _ hs6 (fun _ => ?_)
            clear hK K
            try simp only [Act.put, List.setIfInBounds_toArray, List.set_cons_zero, List.set_cons_succ]
            refine wpAnyH_ready (rs := [8]) (by kernel_rfl) (by simp) ?_
            refine AllReadyH.cons (o := { dst := some 4, op := Go.Op.assign (Go.Operand.tmp 61), type := 25, pos := "ref.go:103", after := #[{ on := 7, ground := Go.Ground.data }, { on := 7, ground := Go.Ground.chain }, { on := 0, ground := Go.Ground.phase }, { on := 1, ground := Go.Ground.phase }, { on := 2, ground := Go.Ground.phase }, { on := 3, ground := Go.Ground.phase }, { on := 4, ground := Go.Ground.phase }, { on := 5, ground := Go.Ground.phase }, { on := 6, ground := Go.Ground.phase }, { on := 7, ground := Go.Ground.phase }], guard := none }) rfl (fun K hK => ?_) AllReadyH.nil
            go_simp
            refine hK.out _ _ hs6 (fun _ => ?_)
            clear hK K
            try simp only [Act.put, List.setIfInBounds_toArray, List.set_cons_zero, List.set_cons_succ]
            refine wpAnyH_done (by kernel_rfl) ?_ _
            go_wp2
            go_roundw
            case rel =>
              have HBF := hide (below_call HQY.out (below_call (below_call (below_call (below_call (below_call HD1.out HD2.out) HD3.out) HD4.out) HD5.out) HD6.out))
              refine ⟨k + 1, by omega, by go_num, ?_, HBF.out⟩
              show Own _ _ _ _
              have e : headL ⟨name, regs, code⟩ ++ codeL (code.take (k + 1)) = m5 ++ (U (nm i.s).length ++ nm i.s) := by
                rw [HCS.out, HM5.out, HM4.out, HM3.out, HM2.out, HM1.out, HM0.out]
                simp [insL, blobL]
              rw [e]
              exact HZ6.out.mono (below_call HQY.out (below_call (below_call (below_call (below_call HD1.out HD2.out) HD3.out) HD4.out) HD5.out)).size
            case measure => simp [intOf]; omega
          case' b37_6 =>
            go_simp
            have hsb := Cells6 (HI4.out.below (below_bytesWorld y4 i.s))
            have hsb : (Lib.bytesWorld y4.drew 5 i.s).cell? ⟨ib, 0, none⟩ = some (.int .u8 (i.op : Int)) ∧ (Lib.bytesWorld y4.drew 5 i.s).cell? ⟨ib, 1, none⟩ = some (.int .i64 i.a) ∧ (Lib.bytesWorld y4.drew 5 i.s).cell? ⟨ib, 2, none⟩ = some (.int .i64 i.b) ∧ (Lib.bytesWorld y4.drew 5 i.s).cell? ⟨ib, 3, none⟩ = some (.int .i64 i.c) ∧ (Lib.bytesWorld y4.drew 5 i.s).cell? ⟨ib, 4, none⟩ = some (.int .i64 i.n) ∧ (Lib.bytesWorld y4.drew 5 i.s).cell? ⟨ib, 5, none⟩ = some (.string i.s) := Cells6 ((C6.below HI4.out (Below.refl _ _).drew).below (below_bytesWorld y4.drew i.s))
            refine hK.out _ _ hsb (fun _ => ?_)
            clear hK K
            try simp only [Act.put, List.setIfInBounds_toArray, List.set_cons_zero, List.set_cons_succ]
            refine wpAnyH_ready (rs := [3]) (by kernel_rfl) (by simp) ?_
            refine AllReadyH.cons (o := { dst := some 57, op := Go.Op.call { callee := Go.Callee.value (Go.Operand.func 30), args := #[Go.Operand.tmp 54, Go.Operand.tmp 56], argTypes := #[25, 2] }, type := 25, pos := "ref.go:103", after := #[{ on := 0, ground := Go.Ground.data }, { on := 2, ground := Go.Ground.data }], guard := none }) rfl (fun K hK => ?_) AllReadyH.nil
            go_simp
            refine (refInt_any z4 m4 i.n (Lib.bytesWorld y4.drew 5 i.s) (by omega) (by omega) (HZ4.out.rd.drew.below (below_bytesWorld y4.drew i.s)) (by omega)).mono ?_
            rintro e y5 ⟨z5, rfl, hz, hb⟩
            have HS5 := hide ((conv_rd i.s y4.drew (by omega)).below hb)
            have hb := below_call (below_bytesWorld y4.drew i.s) hb
            have hz := hz.mono (below_bytesWorld y4.drew i.s).size
            have HD5 := hide (show Below y4.heap.size y4 y5 from ⟨hb.os, hb.tape, hb.output, hb.size, hb.block⟩)
            obtain ⟨m5, HM5⟩ := named (m4 ++ U (foldI i.n))
            have hm5 : m5.length ≤ 100000 + 50 := by rw [HM5.out, List.length_append]; have := hU ((foldI i.n)); omega
            rw [← HM5.out] at hz
            have HZ5 := hide (show Own y5 y4.heap.size z5 m5 from hz)
            have HI5 := hide (HI4.out.below HD5.out)
            have hs5 := Cells6 HI5.out
            clear hz hb
            refine hK.out _ _ hs5 (fun _ => ?_)
            clear hK K
            try simp only [Act.put, List.setIfInBounds_toArray, List.set_cons_zero, List.set_cons_succ]
            refine wpAnyH_ready (rs := [7]) (by kernel_rfl) (by simp) ?_
            refine AllReadyH.cons (o := { dst := some 61, op := Go.Op.call { callee := Go.Callee.value (Go.Operand.func 28), args := #[Go.Operand.tmp 57, Go.Operand.tmp 60], argTypes := #[25, 25] }, type := 25, pos := "ref.go:103", after := #[{ on := 3, ground := Go.Ground.data }, { on := 6, ground := Go.Ground.data }, { on := 3, ground := Go.Ground.chain }], guard := none }) rfl (fun K hK => ?_) AllReadyH.nil
            go_simp
            refine (refBlob_any z5 _ m5 (nm i.s) y5 HZ5.out.rd HS5.out (by have := nm_len i.s; omega)).mono ?_
            rintro e y6 ⟨z6, rfl, hz, hb⟩
            have HD6 := hide (show Below y5.heap.size y5 y6 from hb)
            have HI6 := hide (HI5.out.below HD6.out)
            have hs6 := Cells6 HI6.out
            have HZ6 := hide (show Own y6 y5.heap.size z6 _ from hz)
            clear hz hb
            refine hK.out _ _ hs6 (fun _ => ?_)
            clear hK K
            try simp only [Act.put, List.setIfInBounds_toArray, List.set_cons_zero, List.set_cons_succ]
            refine wpAnyH_ready (rs := [8]) (by kernel_rfl) (by simp) ?_
            refine AllReadyH.cons (o := { dst := some 4, op := Go.Op.assign (Go.Operand.tmp 61), type := 25, pos := "ref.go:103", after := #[{ on := 7, ground := Go.Ground.data }, { on := 7, ground := Go.Ground.chain }, { on := 0, ground := Go.Ground.phase }, { on := 1, ground := Go.Ground.phase }, { on := 2, ground := Go.Ground.phase }, { on := 3, ground := Go.Ground.phase }, { on := 4, ground := Go.Ground.phase }, { on := 5, ground := Go.Ground.phase }, { on := 6, ground := Go.Ground.phase }, { on := 7, ground := Go.Ground.phase }], guard := none }) rfl (fun K hK => ?_) AllReadyH.nil
            go_simp
            refine hK.out _ _ hs6 (fun _ => ?_)
            clear hK K
            try simp only [Act.put, List.setIfInBounds_toArray, List.set_cons_zero, List.set_cons_succ]
            refine wpAnyH_done (by kernel_rfl) ?_ _
            go_wp2
            go_roundw
            case rel =>
              have HBF := hide (below_call HQY.out (below_call (below_call (below_call (below_call (below_call HD1.out HD2.out) HD3.out) HD4.out) HD5.out) HD6.out))
              refine ⟨k + 1, by omega, by go_num, ?_, HBF.out⟩
              show Own _ _ _ _
              have e : headL ⟨name, regs, code⟩ ++ codeL (code.take (k + 1)) = m5 ++ (U (nm i.s).length ++ nm i.s) := by
                rw [HCS.out, HM5.out, HM4.out, HM3.out, HM2.out, HM1.out, HM0.out]
                simp [insL, blobL]
              rw [e]
              exact HZ6.out.mono (below_call HQY.out (below_call (below_call (below_call (below_call HD1.out HD2.out) HD3.out) HD4.out) HD5.out)).size
            case measure => simp [intOf]; omega
        · have hkn2 : n = k := by omega
          subst hkn2
          have hfull : code.take n = code := List.take_of_length_le (by rw [HN.out]; exact Nat.le_refl _)
          rw [hfull] at HO
          have hb8 := below_call HB1.out HQR.out
          have HOF := hide HO.out
          go_wp2
          refine bodyPost_ret (v := .tuple #[u4, .int .i64 0]) (by simp [results, Tryd.results11, go_sem]) rfl ?_
          exact ⟨_, by rw [HE.out, errP, HOK.out]; rfl, by rw [HBR.out]; exact HOF.out.mono HB1.out.size, hb8⟩
    case' b7_7 =>
      go_simp
      refine hK.out _ _ hs0 (fun _ => ?_)
      clear hK K
      try simp only [Act.put, List.setIfInBounds_toArray, List.set_cons_zero, List.set_cons_succ]
      refine wpAnyH_take (i := 8) (oi := { dst := some 22, op := Go.Op.convert 3 59 (Go.Operand.tmp 21), type := 59, pos := "ref.go:98", after := #[{ on := 7, ground := Go.Ground.data }], guard := none }) (v := ?_) rfl (by kernel_rfl) (by kernel_rfl) (by kernel_rfl) (fun _ _ _ h => h) (Or.inl ⟨by rfl, ?hy44⟩) hs0 ?_
      case hy44 =>
        intro u hu
        obtain ⟨u0, u1, u2⟩ := hu
        go_simp
        try with_reducible rfl
      simp only [Act.put, List.setIfInBounds_toArray, List.set_cons_zero, List.set_cons_succ]
      refine wpAnyH_ready (rs := [4]) (by kernel_rfl) (by simp) ?_
      refine AllReadyH.cons (o := { dst := some 18, op := Go.Op.call { callee := Go.Callee.value (Go.Operand.func 29), args := #[Go.Operand.tmp 14, Go.Operand.tmp 17], argTypes := #[25, 59] }, type := 25, pos := "ref.go:98", after := #[{ on := 0, ground := Go.Ground.data }, { on := 3, ground := Go.Ground.data }], guard := none }) rfl (fun K hK => ?_) AllReadyH.nil
      go_simp
      try rw [q1]
      refine (refUint_int v2 l1 regs w2.drew (by omega) (by omega) HO2.out.rd.drew (by omega)).mono ?_
      rintro e w3 ⟨v3, rfl, ho3, hb3⟩
      have HB3 := hide (show Below w2.heap.size w2 w3 from ⟨hb3.os, hb3.tape, hb3.output, hb3.size, hb3.block⟩)
      obtain ⟨l2, HL2⟩ := named (l1 ++ U regs)
      have hl2 : l2.length ≤ 60 := by rw [HL2.out, List.length_append]; have := hU regs; omega
      rw [← HL2.out] at ho3
      have HO3 := hide (show Own w3 w2.heap.size v3 l2 from ho3)
      have HP3 := hide (HP2.out.below HB3.out)
      have hs1 : w3.cell? ⟨pb, 0, none⟩ = some (.string name) ∧ w3.cell? ⟨pb, 1, none⟩ = some (.int .i64 regs) ∧ w3.cell? ⟨pb, 2, none⟩ = some (.slice ao n cap) := Cells3 HP3.out
      clear ho3 hb3
      refine hK.out _ _ hs1 (fun _ => ?_)
      clear hK K
      try simp only [Act.put, List.setIfInBounds_toArray, List.set_cons_zero, List.set_cons_succ]
      refine wpAnyH_ready (rs := [9]) (by kernel_rfl) (by simp) ?_
      refine AllReadyH.cons (o := { dst := some 23, op := Go.Op.call { callee := Go.Callee.value (Go.Operand.func 29), args := #[Go.Operand.tmp 18, Go.Operand.tmp 22], argTypes := #[25, 59] }, type := 25, pos := "ref.go:98", after := #[{ on := 4, ground := Go.Ground.data }, { on := 8, ground := Go.Ground.data }, { on := 4, ground := Go.Ground.chain }], guard := none }) rfl (fun K hK => ?_) AllReadyH.nil
      go_simp
      try rw [q2]
      refine (refUint_int v3 l2 (n : Int) w3 (by omega) (by omega) HO3.out.rd (by omega)).mono ?_
      rintro e w4 ⟨v4, rfl, ho4, hb4⟩
      have HB4 := hide (show Below w3.heap.size w3 w4 from hb4)
      have HP4 := hide (HP3.out.below HB4.out)
      have hs2 : w4.cell? ⟨pb, 0, none⟩ = some (.string name) ∧ w4.cell? ⟨pb, 1, none⟩ = some (.int .i64 regs) ∧ w4.cell? ⟨pb, 2, none⟩ = some (.slice ao n cap) := Cells3 HP4.out
      have hhead : l2 ++ U (n : Int) = headL ⟨name, regs, code⟩ := by rw [HL2.out, HL1.out]; unfold headL blobL; simp [HN.out]
      rw [hhead] at ho4
      refine hK.out _ _ hs2 (fun _ => ?_)
      clear hK K
      try simp only [Act.put, List.setIfInBounds_toArray, List.set_cons_zero, List.set_cons_succ]
      refine wpAnyH_ready (rs := [10]) (by kernel_rfl) (by simp) ?_
      refine AllReadyH.cons (o := { dst := some 4, op := Go.Op.assign (Go.Operand.tmp 23), type := 25, pos := "ref.go:98", after := #[{ on := 9, ground := Go.Ground.data }, { on := 9, ground := Go.Ground.chain }, { on := 0, ground := Go.Ground.phase }, { on := 1, ground := Go.Ground.phase }, { on := 2, ground := Go.Ground.phase }, { on := 3, ground := Go.Ground.phase }, { on := 4, ground := Go.Ground.phase }, { on := 5, ground := Go.Ground.phase }, { on := 6, ground := Go.Ground.phase }, { on := 7, ground := Go.Ground.phase }, { on := 8, ground := Go.Ground.phase }, { on := 9, ground := Go.Ground.phase }], guard := none }) rfl (fun K hK => ?_) AllReadyH.nil
      go_simp
      refine hK.out _ _ hs2 (fun _ => ?_)
      clear hK K
      try simp only [Act.put, List.setIfInBounds_toArray, List.set_cons_zero, List.set_cons_succ]
      refine wpAnyH_done (by kernel_rfl) ?_ _
      go_wp2_with fail
      go_loopw [4, 5] (fun tv iv wr => ∃ k : Nat, k ≤ n ∧ iv = .int .i64 k ∧ Hid (Own wr w1.heap.size tv (headL ⟨name, regs, code⟩ ++ codeL (code.take k))) ∧ Hid (Below w1.heap.size w1 wr)) (fun _ iv _ => n - (intOf iv).toNat)
      case atStart => exact ⟨0, by omega, rfl, by show Own _ _ _ _; simp only [List.take_zero, codeL, List.map_nil, List.flatten_nil, List.append_nil]; exact ho4.mono (by have := HB2.out.size; have := HB3.out.size; omega), below_call HB2.out (below_call HB3.out HB4.out)⟩
      case round =>
        obtain ⟨k, hkn, rfl, HO, HQR⟩ := hrel
        have HPR := hide (HP1.out.below HQR.out)
        obtain ⟨-, x0, x1, x2, -⟩ := id HPR.out
        by_cases hlt : k < n
        · have hk5 : k < code.length := by rw [← HN.out]; exact hlt
          obtain ⟨b0, off0, hbe, hblt, c0, c1, c2, c3, c4, c5⟩ := (HC.out.below (below_call HB1.out HQR.out)).at k hk5
          subst hbe
          have hwi := HWF.out _ (List.getElem_mem hk5)
          have hrgi := insB_range (HIN.out.2.2.2.2 _ (List.getElem_mem hk5)) HIN.out.2.1.2
          have hcs := congrArg (fun x => headL ⟨name, regs, code⟩ ++ x) (codeL_succ code k hk5)
          obtain ⟨i, HI⟩ := named (code[k]'hk5)
          rw [← HI.out] at c0 c1 c2 c3 c4 c5 hwi hrgi
          rw [← HI.out] at hcs
          obtain ⟨m0, HM0⟩ := named (headL ⟨name, regs, code⟩ ++ codeL (code.take k))
          have hm0 : m0.length ≤ 100000 := by rw [HM0.out]; exact Nat.le_trans (take_len ⟨name, regs, code⟩ k) (by have := HLEN.out; omega)
          rw [← HM0.out] at HO
          have HCS := hide hcs
          have hop : 0 ≤ (i.op : Int) ∧ (i.op : Int) ≤ 255 := by have := hwi.op; omega
          have hni : -9223372036854775808 ≤ i.n ∧ i.n ≤ 9223372036854775807 := hwi.n
          have hsi := hrgi.2.2.2.1
          have hai := hrgi.1
          have hbi := hrgi.2.1
          have hci := hrgi.2.2.1
          have t0 := u64_of (i.op : Int) (by omega) (by omega)
          have t1 := u64_of i.a (by omega) (by omega)
          have t2 := u64_of i.b (by omega) (by omega)
          have t3 := u64_of i.c (by omega) (by omega)
          clear hcs hwi hrgi
          obtain ⟨y0, HY0⟩ := named (wr.alloc (.cells #[.int .u8 (i.op : Int), .int .i64 i.a, .int .i64 i.b, .int .i64 i.c, .int .i64 i.n, .string i.s] 28))
          obtain ⟨ib, HIB⟩ := named wr.heap.size
          have HI0 := hide (show C6 y0 ib (.int .u8 (i.op : Int)) (.int .i64 i.a) (.int .i64 i.b) (.int .i64 i.c) (.int .i64 i.n) (.string i.s) by rw [HY0.out, HIB.out]; exact C6.new _ _ _ _ _ _ _ _)
          have hby : Below wr.heap.size wr y0 := by rw [HY0.out]; exact (Below.refl _ _).alloc (Nat.le_refl _) _
          have HQY := hide (below_call HQR.out hby)
          have HZ0 := hide (HO.out.below hby)
          have hs0d : y0.drew.cell? ⟨ib, 0, none⟩ = some (.int .u8 (i.op : Int)) ∧ y0.drew.cell? ⟨ib, 1, none⟩ = some (.int .i64 i.a) ∧ y0.drew.cell? ⟨ib, 2, none⟩ = some (.int .i64 i.b) ∧ y0.drew.cell? ⟨ib, 3, none⟩ = some (.int .i64 i.c) ∧ y0.drew.cell? ⟨ib, 4, none⟩ = some (.int .i64 i.n) ∧ y0.drew.cell? ⟨ib, 5, none⟩ = some (.string i.s) := Cells6 HI0.out
          clear hby
          go_wp2_with fail
          rw [← HY0.out, ← HIB.out]
          refine wp_region_held_drew (S := (fun w' => w'.cell? ⟨ib, 0, none⟩ = some (.int .u8 (i.op : Int)) ∧ w'.cell? ⟨ib, 1, none⟩ = some (.int .i64 i.a) ∧ w'.cell? ⟨ib, 2, none⟩ = some (.int .i64 i.b) ∧ w'.cell? ⟨ib, 3, none⟩ = some (.int .i64 i.c) ∧ w'.cell? ⟨ib, 4, none⟩ = some (.int .i64 i.n) ∧ w'.cell? ⟨ib, 5, none⟩ = some (.string i.s))) (by kernel_rfl) hs0d (fun _ => ?_)
          refine wpAnyH_take (i := 0) (oi := { dst := some 36, op := Go.Op.move (Go.Operand.tmp 4), type := 25, pos := "ref.go:101", after := #[], guard := none }) (v := ?_) rfl (by kernel_rfl) (by kernel_rfl) (by kernel_rfl) (fun _ _ _ h => h) (Or.inl ⟨by rfl, ?hy48⟩) hs0d ?_
          case hy48 =>
            intro u hu
            obtain ⟨u0, u1, u2, u3, u4, u5⟩ := hu
            go_simp
            try with_reducible rfl
          simp only [Act.put, List.setIfInBounds_toArray, List.set_cons_zero, List.set_cons_succ]
          refine wpAnyH_take (i := 1) (oi := { dst := some 37, op := Go.Op.fieldAddr 28 (Go.Operand.tmp 6) 0, type := 0, pos := "ref.go:101", after := #[], guard := none }) (v := ?_) rfl (by kernel_rfl) (by kernel_rfl) (by kernel_rfl) (fun _ _ _ h => h) (Or.inl ⟨by rfl, ?hy49⟩) hs0d ?_
          case hy49 =>
            intro u hu
            obtain ⟨u0, u1, u2, u3, u4, u5⟩ := hu
            go_simp
            try with_reducible rfl
          simp only [Act.put, List.setIfInBounds_toArray, List.set_cons_zero, List.set_cons_succ]
          refine wpAnyH_take (i := 2) (oi := { dst := some 38, op := Go.Op.load 26 (Go.Operand.tmp 37), type := 26, pos := "ref.go:101", after := #[{ on := 1, ground := Go.Ground.data }], guard := none }) (v := ?_) rfl (by kernel_rfl) (by kernel_rfl) (by kernel_rfl) (fun _ _ _ h => h) (Or.inl ⟨by rfl, ?hy50⟩) hs0d ?_
          case hy50 =>
            intro u hu
            obtain ⟨u0, u1, u2, u3, u4, u5⟩ := hu
            go_simp
            try with_reducible rfl
          simp only [Act.put, List.setIfInBounds_toArray, List.set_cons_zero, List.set_cons_succ]
          refine wpAnyH_take (i := 3) (oi := { dst := some 39, op := Go.Op.convert 26 59 (Go.Operand.tmp 38), type := 59, pos := "ref.go:101", after := #[{ on := 2, ground := Go.Ground.data }], guard := none }) (v := ?_) rfl (by kernel_rfl) (by kernel_rfl) (by kernel_rfl) (fun _ _ _ h => h) (Or.inl ⟨by rfl, ?hy51⟩) hs0d ?_
          case hy51 =>
            intro u hu
            obtain ⟨u0, u1, u2, u3, u4, u5⟩ := hu
            go_simp
            try with_reducible rfl
          simp only [Act.put, List.setIfInBounds_toArray, List.set_cons_zero, List.set_cons_succ]
          refine wpAnyH_take (i := 5) (oi := { dst := some 41, op := Go.Op.fieldAddr 28 (Go.Operand.tmp 6) 1, type := 0, pos := "ref.go:101", after := #[], guard := none }) (v := ?_) rfl (by kernel_rfl) (by kernel_rfl) (by kernel_rfl) (fun _ _ _ h => h) (Or.inl ⟨by rfl, ?hy52⟩) hs0d ?_
          case hy52 =>
            intro u hu
            obtain ⟨u0, u1, u2, u3, u4, u5⟩ := hu
            go_simp
            try with_reducible rfl
          simp only [Act.put, List.setIfInBounds_toArray, List.set_cons_zero, List.set_cons_succ]
          refine wpAnyH_take (i := 6) (oi := { dst := some 42, op := Go.Op.load 3 (Go.Operand.tmp 41), type := 3, pos := "ref.go:101", after := #[{ on := 5, ground := Go.Ground.data }], guard := none }) (v := ?_) rfl (by kernel_rfl) (by kernel_rfl) (by kernel_rfl) (fun _ _ _ h => h) (Or.inl ⟨by rfl, ?hy53⟩) hs0d ?_
          case hy53 =>
            intro u hu
            obtain ⟨u0, u1, u2, u3, u4, u5⟩ := hu
            go_simp
            try with_reducible rfl
          simp only [Act.put, List.setIfInBounds_toArray, List.set_cons_zero, List.set_cons_succ]
          refine wpAnyH_take (i := 7) (oi := { dst := some 43, op := Go.Op.convert 3 59 (Go.Operand.tmp 42), type := 59, pos := "ref.go:101", after := #[{ on := 6, ground := Go.Ground.data }], guard := none }) (v := ?_) rfl (by kernel_rfl) (by kernel_rfl) (by kernel_rfl) (fun _ _ _ h => h) (Or.inl ⟨by rfl, ?hy54⟩) hs0d ?_
          case hy54 =>
            intro u hu
            obtain ⟨u0, u1, u2, u3, u4, u5⟩ := hu
            go_simp
            try with_reducible rfl
          simp only [Act.put, List.setIfInBounds_toArray, List.set_cons_zero, List.set_cons_succ]
          refine wpAnyH_ready (rs := [4]) (by kernel_rfl) (by simp) ?_
          refine AllReadyH.cons (o := { dst := some 40, op := Go.Op.call { callee := Go.Callee.value (Go.Operand.func 29), args := #[Go.Operand.tmp 36, Go.Operand.tmp 39], argTypes := #[25, 59] }, type := 25, pos := "ref.go:101", after := #[{ on := 0, ground := Go.Ground.data }, { on := 3, ground := Go.Ground.data }], guard := none }) rfl (fun K hK => ?_) AllReadyH.nil
          go_simp
          try rw [t0]
          refine (refUint_int u4 m0 (i.op : Int) y0.drew (by omega) (by omega) HZ0.out.rd.drew (by omega)).mono ?_
          rintro e y1 ⟨z1, rfl, hz, hb⟩
          have HD1 := hide (show Below y0.heap.size y0 y1 from ⟨hb.os, hb.tape, hb.output, hb.size, hb.block⟩)
          obtain ⟨m1, HM1⟩ := named (m0 ++ U (i.op : Int))
          have hm1 : m1.length ≤ 100000 + 10 := by rw [HM1.out, List.length_append]; have := hU ((i.op : Int)); omega
          rw [← HM1.out] at hz
          have HZ1 := hide (show Own y1 y0.heap.size z1 m1 from hz)
          have HI1 := hide (HI0.out.below HD1.out)
          have hs1 := Cells6 HI1.out
          clear hz hb
          refine hK.out _ _ hs1 (fun _ => ?_)
          clear hK K
          try simp only [Act.put, List.setIfInBounds_toArray, List.set_cons_zero, List.set_cons_succ]
          refine wpAnyH_ready (rs := [8]) (by kernel_rfl) (by simp) ?_
          refine AllReadyH.cons (o := { dst := some 44, op := Go.Op.call { callee := Go.Callee.value (Go.Operand.func 29), args := #[Go.Operand.tmp 40, Go.Operand.tmp 43], argTypes := #[25, 59] }, type := 25, pos := "ref.go:101", after := #[{ on := 4, ground := Go.Ground.data }, { on := 7, ground := Go.Ground.data }, { on := 4, ground := Go.Ground.chain }], guard := none }) rfl (fun K hK => ?_) AllReadyH.nil
          go_simp
          try rw [t1]
          refine (refUint_int z1 m1 i.a y1 (by omega) (by omega) HZ1.out.rd (by omega)).mono ?_
          rintro e y2 ⟨z2, rfl, hz, hb⟩
          have HD2 := hide (show Below y1.heap.size y1 y2 from ⟨hb.os, hb.tape, hb.output, hb.size, hb.block⟩)
          obtain ⟨m2, HM2⟩ := named (m1 ++ U i.a)
          have hm2 : m2.length ≤ 100000 + 20 := by rw [HM2.out, List.length_append]; have := hU (i.a); omega
          rw [← HM2.out] at hz
          have HZ2 := hide (show Own y2 y1.heap.size z2 m2 from hz)
          have HI2 := hide (HI1.out.below HD2.out)
          have hs2 := Cells6 HI2.out
          clear hz hb
          refine hK.out _ _ hs2 (fun _ => ?_)
          clear hK K
          try simp only [Act.put, List.setIfInBounds_toArray, List.set_cons_zero, List.set_cons_succ]
          refine wpAnyH_ready (rs := [9]) (by kernel_rfl) (by simp) ?_
          refine AllReadyH.cons (o := { dst := some 4, op := Go.Op.assign (Go.Operand.tmp 44), type := 25, pos := "ref.go:101", after := #[{ on := 8, ground := Go.Ground.data }, { on := 8, ground := Go.Ground.chain }, { on := 0, ground := Go.Ground.phase }, { on := 1, ground := Go.Ground.phase }, { on := 2, ground := Go.Ground.phase }, { on := 3, ground := Go.Ground.phase }, { on := 4, ground := Go.Ground.phase }, { on := 5, ground := Go.Ground.phase }, { on := 6, ground := Go.Ground.phase }, { on := 7, ground := Go.Ground.phase }, { on := 8, ground := Go.Ground.phase }], guard := none }) rfl (fun K hK => ?_) AllReadyH.nil
          go_simp
          refine hK.out _ _ hs2 (fun _ => ?_)
          clear hK K
          try simp only [Act.put, List.setIfInBounds_toArray, List.set_cons_zero, List.set_cons_succ]
          refine wpAnyH_done (by kernel_rfl) ?_ _
          go_wp2_with fail
          have hs2d : y2.drew.cell? ⟨ib, 0, none⟩ = some (.int .u8 (i.op : Int)) ∧ y2.drew.cell? ⟨ib, 1, none⟩ = some (.int .i64 i.a) ∧ y2.drew.cell? ⟨ib, 2, none⟩ = some (.int .i64 i.b) ∧ y2.drew.cell? ⟨ib, 3, none⟩ = some (.int .i64 i.c) ∧ y2.drew.cell? ⟨ib, 4, none⟩ = some (.int .i64 i.n) ∧ y2.drew.cell? ⟨ib, 5, none⟩ = some (.string i.s) := hs2
          refine wp_region_held_drew (S := (fun w' => w'.cell? ⟨ib, 0, none⟩ = some (.int .u8 (i.op : Int)) ∧ w'.cell? ⟨ib, 1, none⟩ = some (.int .i64 i.a) ∧ w'.cell? ⟨ib, 2, none⟩ = some (.int .i64 i.b) ∧ w'.cell? ⟨ib, 3, none⟩ = some (.int .i64 i.c) ∧ w'.cell? ⟨ib, 4, none⟩ = some (.int .i64 i.n) ∧ w'.cell? ⟨ib, 5, none⟩ = some (.string i.s))) (by kernel_rfl) hs2d (fun _ => ?_)
          refine wpAnyH_take (i := 0) (oi := { dst := some 45, op := Go.Op.move (Go.Operand.tmp 4), type := 25, pos := "ref.go:102", after := #[], guard := none }) (v := ?_) rfl (by kernel_rfl) (by kernel_rfl) (by kernel_rfl) (fun _ _ _ h => h) (Or.inl ⟨by rfl, ?hy58⟩) hs2d ?_
          case hy58 =>
            intro u hu
            obtain ⟨u0, u1, u2, u3, u4, u5⟩ := hu
            go_simp
            try with_reducible rfl
          simp only [Act.put, List.setIfInBounds_toArray, List.set_cons_zero, List.set_cons_succ]
          refine wpAnyH_take (i := 1) (oi := { dst := some 46, op := Go.Op.fieldAddr 28 (Go.Operand.tmp 6) 2, type := 0, pos := "ref.go:102", after := #[], guard := none }) (v := ?_) rfl (by kernel_rfl) (by kernel_rfl) (by kernel_rfl) (fun _ _ _ h => h) (Or.inl ⟨by rfl, ?hy59⟩) hs2d ?_
          case hy59 =>
            intro u hu
            obtain ⟨u0, u1, u2, u3, u4, u5⟩ := hu
            go_simp
            try with_reducible rfl
          simp only [Act.put, List.setIfInBounds_toArray, List.set_cons_zero, List.set_cons_succ]
          refine wpAnyH_take (i := 2) (oi := { dst := some 47, op := Go.Op.load 3 (Go.Operand.tmp 46), type := 3, pos := "ref.go:102", after := #[{ on := 1, ground := Go.Ground.data }], guard := none }) (v := ?_) rfl (by kernel_rfl) (by kernel_rfl) (by kernel_rfl) (fun _ _ _ h => h) (Or.inl ⟨by rfl, ?hy60⟩) hs2d ?_
          case hy60 =>
            intro u hu
            obtain ⟨u0, u1, u2, u3, u4, u5⟩ := hu
            go_simp
            try with_reducible rfl
          simp only [Act.put, List.setIfInBounds_toArray, List.set_cons_zero, List.set_cons_succ]
          refine wpAnyH_take (i := 3) (oi := { dst := some 48, op := Go.Op.convert 3 59 (Go.Operand.tmp 47), type := 59, pos := "ref.go:102", after := #[{ on := 2, ground := Go.Ground.data }], guard := none }) (v := ?_) rfl (by kernel_rfl) (by kernel_rfl) (by kernel_rfl) (fun _ _ _ h => h) (Or.inl ⟨by rfl, ?hy61⟩) hs2d ?_
          case hy61 =>
            intro u hu
            obtain ⟨u0, u1, u2, u3, u4, u5⟩ := hu
            go_simp
            try with_reducible rfl
          simp only [Act.put, List.setIfInBounds_toArray, List.set_cons_zero, List.set_cons_succ]
          refine wpAnyH_take (i := 5) (oi := { dst := some 50, op := Go.Op.fieldAddr 28 (Go.Operand.tmp 6) 3, type := 0, pos := "ref.go:102", after := #[], guard := none }) (v := ?_) rfl (by kernel_rfl) (by kernel_rfl) (by kernel_rfl) (fun _ _ _ h => h) (Or.inl ⟨by rfl, ?hy62⟩) hs2d ?_
          case hy62 =>
            intro u hu
            obtain ⟨u0, u1, u2, u3, u4, u5⟩ := hu
            go_simp
            try with_reducible rfl
          simp only [Act.put, List.setIfInBounds_toArray, List.set_cons_zero, List.set_cons_succ]
          refine wpAnyH_take (i := 6) (oi := { dst := some 51, op := Go.Op.load 3 (Go.Operand.tmp 50), type := 3, pos := "ref.go:102", after := #[{ on := 5, ground := Go.Ground.data }], guard := none }) (v := ?_) rfl (by kernel_rfl) (by kernel_rfl) (by kernel_rfl) (fun _ _ _ h => h) (Or.inl ⟨by rfl, ?hy63⟩) hs2d ?_
          case hy63 =>
            intro u hu
            obtain ⟨u0, u1, u2, u3, u4, u5⟩ := hu
            go_simp
            try with_reducible rfl
          simp only [Act.put, List.setIfInBounds_toArray, List.set_cons_zero, List.set_cons_succ]
          refine wpAnyH_take (i := 7) (oi := { dst := some 52, op := Go.Op.convert 3 59 (Go.Operand.tmp 51), type := 59, pos := "ref.go:102", after := #[{ on := 6, ground := Go.Ground.data }], guard := none }) (v := ?_) rfl (by kernel_rfl) (by kernel_rfl) (by kernel_rfl) (fun _ _ _ h => h) (Or.inl ⟨by rfl, ?hy64⟩) hs2d ?_
          case hy64 =>
            intro u hu
            obtain ⟨u0, u1, u2, u3, u4, u5⟩ := hu
            go_simp
            try with_reducible rfl
          simp only [Act.put, List.setIfInBounds_toArray, List.set_cons_zero, List.set_cons_succ]
          refine wpAnyH_ready (rs := [4]) (by kernel_rfl) (by simp) ?_
          refine AllReadyH.cons (o := { dst := some 49, op := Go.Op.call { callee := Go.Callee.value (Go.Operand.func 29), args := #[Go.Operand.tmp 45, Go.Operand.tmp 48], argTypes := #[25, 59] }, type := 25, pos := "ref.go:102", after := #[{ on := 0, ground := Go.Ground.data }, { on := 3, ground := Go.Ground.data }], guard := none }) rfl (fun K hK => ?_) AllReadyH.nil
          go_simp
          try rw [t2]
          refine (refUint_int z2 m2 i.b y2.drew (by omega) (by omega) HZ2.out.rd.drew (by omega)).mono ?_
          rintro e y3 ⟨z3, rfl, hz, hb⟩
          have HD3 := hide (show Below y2.heap.size y2 y3 from ⟨hb.os, hb.tape, hb.output, hb.size, hb.block⟩)
          obtain ⟨m3, HM3⟩ := named (m2 ++ U i.b)
          have hm3 : m3.length ≤ 100000 + 30 := by rw [HM3.out, List.length_append]; have := hU (i.b); omega
          rw [← HM3.out] at hz
          have HZ3 := hide (show Own y3 y2.heap.size z3 m3 from hz)
          have HI3 := hide (HI2.out.below HD3.out)
          have hs3 := Cells6 HI3.out
          clear hz hb
          refine hK.out _ _ hs3 (fun _ => ?_)
          clear hK K
          try simp only [Act.put, List.setIfInBounds_toArray, List.set_cons_zero, List.set_cons_succ]
          refine wpAnyH_ready (rs := [8]) (by kernel_rfl) (by simp) ?_
          refine AllReadyH.cons (o := { dst := some 53, op := Go.Op.call { callee := Go.Callee.value (Go.Operand.func 29), args := #[Go.Operand.tmp 49, Go.Operand.tmp 52], argTypes := #[25, 59] }, type := 25, pos := "ref.go:102", after := #[{ on := 4, ground := Go.Ground.data }, { on := 7, ground := Go.Ground.data }, { on := 4, ground := Go.Ground.chain }], guard := none }) rfl (fun K hK => ?_) AllReadyH.nil
          go_simp
          try rw [t3]
          refine (refUint_int z3 m3 i.c y3 (by omega) (by omega) HZ3.out.rd (by omega)).mono ?_
          rintro e y4 ⟨z4, rfl, hz, hb⟩
          have HD4 := hide (show Below y3.heap.size y3 y4 from ⟨hb.os, hb.tape, hb.output, hb.size, hb.block⟩)
          obtain ⟨m4, HM4⟩ := named (m3 ++ U i.c)
          have hm4 : m4.length ≤ 100000 + 40 := by rw [HM4.out, List.length_append]; have := hU (i.c); omega
          rw [← HM4.out] at hz
          have HZ4 := hide (show Own y4 y3.heap.size z4 m4 from hz)
          have HI4 := hide (HI3.out.below HD4.out)
          have hs4 := Cells6 HI4.out
          clear hz hb
          refine hK.out _ _ hs4 (fun _ => ?_)
          clear hK K
          try simp only [Act.put, List.setIfInBounds_toArray, List.set_cons_zero, List.set_cons_succ]
          refine wpAnyH_ready (rs := [9]) (by kernel_rfl) (by simp) ?_
          refine AllReadyH.cons (o := { dst := some 4, op := Go.Op.assign (Go.Operand.tmp 53), type := 25, pos := "ref.go:102", after := #[{ on := 8, ground := Go.Ground.data }, { on := 8, ground := Go.Ground.chain }, { on := 0, ground := Go.Ground.phase }, { on := 1, ground := Go.Ground.phase }, { on := 2, ground := Go.Ground.phase }, { on := 3, ground := Go.Ground.phase }, { on := 4, ground := Go.Ground.phase }, { on := 5, ground := Go.Ground.phase }, { on := 6, ground := Go.Ground.phase }, { on := 7, ground := Go.Ground.phase }, { on := 8, ground := Go.Ground.phase }], guard := none }) rfl (fun K hK => ?_) AllReadyH.nil
          go_simp
          refine hK.out _ _ hs4 (fun _ => ?_)
          clear hK K
          try simp only [Act.put, List.setIfInBounds_toArray, List.set_cons_zero, List.set_cons_succ]
          refine wpAnyH_done (by kernel_rfl) ?_ _
          go_wp2_with fail
          have hs4d : y4.drew.cell? ⟨ib, 0, none⟩ = some (.int .u8 (i.op : Int)) ∧ y4.drew.cell? ⟨ib, 1, none⟩ = some (.int .i64 i.a) ∧ y4.drew.cell? ⟨ib, 2, none⟩ = some (.int .i64 i.b) ∧ y4.drew.cell? ⟨ib, 3, none⟩ = some (.int .i64 i.c) ∧ y4.drew.cell? ⟨ib, 4, none⟩ = some (.int .i64 i.n) ∧ y4.drew.cell? ⟨ib, 5, none⟩ = some (.string i.s) := hs4
          have hcv := conv_run i.s
          refine wp_region_held_drew (S := (fun w' => w'.cell? ⟨ib, 0, none⟩ = some (.int .u8 (i.op : Int)) ∧ w'.cell? ⟨ib, 1, none⟩ = some (.int .i64 i.a) ∧ w'.cell? ⟨ib, 2, none⟩ = some (.int .i64 i.b) ∧ w'.cell? ⟨ib, 3, none⟩ = some (.int .i64 i.c) ∧ w'.cell? ⟨ib, 4, none⟩ = some (.int .i64 i.n) ∧ w'.cell? ⟨ib, 5, none⟩ = some (.string i.s))) (by kernel_rfl) hs4d (fun _ => ?_)
          refine wpAnyH_take (i := 0) (oi := { dst := some 54, op := Go.Op.move (Go.Operand.tmp 4), type := 25, pos := "ref.go:103", after := #[], guard := none }) (v := ?_) rfl (by kernel_rfl) (by kernel_rfl) (by kernel_rfl) (fun _ _ _ h => h) (Or.inl ⟨by rfl, ?hy68⟩) hs4d ?_
          case hy68 =>
            intro u hu
            obtain ⟨u0, u1, u2, u3, u4, u5⟩ := hu
            go_simp
            try with_reducible rfl
          simp only [Act.put, List.setIfInBounds_toArray, List.set_cons_zero, List.set_cons_succ]
          refine wpAnyH_take (i := 1) (oi := { dst := some 55, op := Go.Op.fieldAddr 28 (Go.Operand.tmp 6) 4, type := 0, pos := "ref.go:103", after := #[], guard := none }) (v := ?_) rfl (by kernel_rfl) (by kernel_rfl) (by kernel_rfl) (fun _ _ _ h => h) (Or.inl ⟨by rfl, ?hy69⟩) hs4d ?_
          case hy69 =>
            intro u hu
            obtain ⟨u0, u1, u2, u3, u4, u5⟩ := hu
            go_simp
            try with_reducible rfl
          simp only [Act.put, List.setIfInBounds_toArray, List.set_cons_zero, List.set_cons_succ]
          refine wpAnyH_take (i := 2) (oi := { dst := some 56, op := Go.Op.load 2 (Go.Operand.tmp 55), type := 2, pos := "ref.go:103", after := #[{ on := 1, ground := Go.Ground.data }], guard := none }) (v := ?_) rfl (by kernel_rfl) (by kernel_rfl) (by kernel_rfl) (fun _ _ _ h => h) (Or.inl ⟨by rfl, ?hy70⟩) hs4d ?_
          case hy70 =>
            intro u hu
            obtain ⟨u0, u1, u2, u3, u4, u5⟩ := hu
            go_simp
            try with_reducible rfl
          simp only [Act.put, List.setIfInBounds_toArray, List.set_cons_zero, List.set_cons_succ]
          refine wpAnyH_take (i := 4) (oi := { dst := some 58, op := Go.Op.fieldAddr 28 (Go.Operand.tmp 6) 5, type := 0, pos := "ref.go:103", after := #[], guard := none }) (v := ?_) rfl (by kernel_rfl) (by kernel_rfl) (by kernel_rfl) (fun _ _ _ h => h) (Or.inl ⟨by rfl, ?hy71⟩) hs4d ?_
          case hy71 =>
            intro u hu
            obtain ⟨u0, u1, u2, u3, u4, u5⟩ := hu
            go_simp
            try with_reducible rfl
          simp only [Act.put, List.setIfInBounds_toArray, List.set_cons_zero, List.set_cons_succ]
          refine wpAnyH_take (i := 5) (oi := { dst := some 59, op := Go.Op.load 9 (Go.Operand.tmp 58), type := 9, pos := "ref.go:103", after := #[{ on := 4, ground := Go.Ground.data }], guard := none }) (v := ?_) rfl (by kernel_rfl) (by kernel_rfl) (by kernel_rfl) (fun _ _ _ h => h) (Or.inl ⟨by rfl, ?hy72⟩) hs4d ?_
          case hy72 =>
            intro u hu
            obtain ⟨u0, u1, u2, u3, u4, u5⟩ := hu
            go_simp
            try with_reducible rfl
          simp only [Act.put, List.setIfInBounds_toArray, List.set_cons_zero, List.set_cons_succ]
          refine wpAnyH_ready (rs := [3, 6]) (by kernel_rfl) (by simp) ?_
          refine AllReadyH.cons (o := { dst := some 57, op := Go.Op.call { callee := Go.Callee.value (Go.Operand.func 30), args := #[Go.Operand.tmp 54, Go.Operand.tmp 56], argTypes := #[25, 2] }, type := 25, pos := "ref.go:103", after := #[{ on := 0, ground := Go.Ground.data }, { on := 2, ground := Go.Ground.data }], guard := none }) rfl (fun K hK => ?b73_3) (AllReadyH.cons (o := { dst := some 60, op := Go.Op.convert 9 25 (Go.Operand.tmp 59), type := 25, pos := "ref.go:103", after := #[{ on := 5, ground := Go.Ground.data }], guard := none }) rfl (fun K hK => ?b73_6) AllReadyH.nil)
          case' b73_3 =>
            go_simp
            refine (refInt_any z4 m4 i.n y4.drew (by omega) (by omega) HZ4.out.rd.drew (by omega)).mono ?_
            rintro e y5 ⟨z5, rfl, hz, hb⟩
            have HD5 := hide (show Below y4.heap.size y4 y5 from ⟨hb.os, hb.tape, hb.output, hb.size, hb.block⟩)
            obtain ⟨m5, HM5⟩ := named (m4 ++ U (foldI i.n))
            have hm5 : m5.length ≤ 100000 + 50 := by rw [HM5.out, List.length_append]; have := hU ((foldI i.n)); omega
            rw [← HM5.out] at hz
            have HZ5 := hide (show Own y5 y4.heap.size z5 m5 from hz)
            have HI5 := hide (HI4.out.below HD5.out)
            have hs5 := Cells6 HI5.out
            clear hz hb
            refine hK.out _ _ hs5 (fun _ => ?_)
            clear hK K
            try simp only [Act.put, List.setIfInBounds_toArray, List.set_cons_zero, List.set_cons_succ]
            refine wpAnyH_ready (rs := [6]) (by kernel_rfl) (by simp) ?_
            refine AllReadyH.cons (o := { dst := some 60, op := Go.Op.convert 9 25 (Go.Operand.tmp 59), type := 25, pos := "ref.go:103", after := #[{ on := 5, ground := Go.Ground.data }], guard := none }) rfl (fun K hK => ?_) AllReadyH.nil
            go_simp
            have HS5 := hide (conv_rd i.s y5 (by omega))
            have HDb := hide (below_bytesWorld y5 i.s)
            have hsb := Cells6 (HI5.out.below HDb.out)
            refine hK.out _ _ hsb (fun _ => ?_)
            clear hK K
            try simp only [Act.put, List.setIfInBounds_toArray, List.set_cons_zero, List.set_cons_succ]
            refine wpAnyH_ready (rs := [7]) (by kernel_rfl) (by simp) ?_
            refine AllReadyH.cons (o := { dst := some 61, op := Go.Op.call { callee := Go.Callee.value (Go.Operand.func 28), args := #[Go.Operand.tmp 57, Go.Operand.tmp 60], argTypes := #[25, 25] }, type := 25, pos := "ref.go:103", after := #[{ on := 3, ground := Go.Ground.data }, { on := 6, ground := Go.Ground.data }, { on := 3, ground := Go.Ground.chain }], guard := none }) rfl (fun K hK => ?_) AllReadyH.nil
            go_simp
            refine (refBlob_any z5 _ m5 (nm i.s) (Lib.bytesWorld y5 5 i.s) (HZ5.out.rd.below HDb.out) HS5.out (by have := nm_len i.s; omega)).mono ?_
            rintro e y6 ⟨z6, rfl, hz, hb⟩
            have hz := hz.mono HDb.out.size
            have hb := below_call HDb.out hb
            have HD6 := hide (show Below y5.heap.size y5 y6 from hb)
            have HI6 := hide (HI5.out.below HD6.out)
            have hs6 := Cells6 HI6.out
            have HZ6 := hide (show Own y6 y5.heap.size z6 _ from hz)
            clear hz hb
            refine hK.out _ _ hs6 (fun _ => ?_)
            clear hK K
            try simp only [Act.put, List.setIfInBounds_toArray, List.set_cons_zero, List.set_cons_succ]
            refine wpAnyH_ready (rs := [8]) (by kernel_rfl) (by simp) ?_
            refine AllReadyH.cons (o := { dst := some 4, op := Go.Op.assign (Go.Operand.tmp 61), type := 25, pos := "ref.go:103", after := #[{ on := 7, ground := Go.Ground.data }, { on := 7, ground := Go.Ground.chain }, { on := 0, ground := Go.Ground.phase }, { on := 1, ground := Go.Ground.phase }, { on := 2, ground := Go.Ground.phase }, { on := 3, ground := Go.Ground.phase }, { on := 4, ground := Go.Ground.phase }, { on := 5, ground := Go.Ground.phase }, { on := 6, ground := Go.Ground.phase }, { on := 7, ground := Go.Ground.phase }], guard := none }) rfl (fun K hK => ?_) AllReadyH.nil
            go_simp
            refine hK.out _ _ hs6 (fun _ => ?_)
            clear hK K
            try simp only [Act.put, List.setIfInBounds_toArray, List.set_cons_zero, List.set_cons_succ]
            refine wpAnyH_done (by kernel_rfl) ?_ _
            go_wp2
            go_roundw
            case rel =>
              have HBF := hide (below_call HQY.out (below_call (below_call (below_call (below_call (below_call HD1.out HD2.out) HD3.out) HD4.out) HD5.out) HD6.out))
              refine ⟨k + 1, by omega, by go_num, ?_, HBF.out⟩
              show Own _ _ _ _
              have e : headL ⟨name, regs, code⟩ ++ codeL (code.take (k + 1)) = m5 ++ (U (nm i.s).length ++ nm i.s) := by
                rw [HCS.out, HM5.out, HM4.out, HM3.out, HM2.out, HM1.out, HM0.out]
                simp [insL, blobL]
              rw [e]
              exact HZ6.out.mono (below_call HQY.out (below_call (below_call (below_call (below_call HD1.out HD2.out) HD3.out) HD4.out) HD5.out)).size
            case measure => simp [intOf]; omega
          case' b73_6 =>
            go_simp
            have hsb := Cells6 (HI4.out.below (below_bytesWorld y4 i.s))
            have hsb : (Lib.bytesWorld y4.drew 5 i.s).cell? ⟨ib, 0, none⟩ = some (.int .u8 (i.op : Int)) ∧ (Lib.bytesWorld y4.drew 5 i.s).cell? ⟨ib, 1, none⟩ = some (.int .i64 i.a) ∧ (Lib.bytesWorld y4.drew 5 i.s).cell? ⟨ib, 2, none⟩ = some (.int .i64 i.b) ∧ (Lib.bytesWorld y4.drew 5 i.s).cell? ⟨ib, 3, none⟩ = some (.int .i64 i.c) ∧ (Lib.bytesWorld y4.drew 5 i.s).cell? ⟨ib, 4, none⟩ = some (.int .i64 i.n) ∧ (Lib.bytesWorld y4.drew 5 i.s).cell? ⟨ib, 5, none⟩ = some (.string i.s) := Cells6 ((C6.below HI4.out (Below.refl _ _).drew).below (below_bytesWorld y4.drew i.s))
            refine hK.out _ _ hsb (fun _ => ?_)
            clear hK K
            try simp only [Act.put, List.setIfInBounds_toArray, List.set_cons_zero, List.set_cons_succ]
            refine wpAnyH_ready (rs := [3]) (by kernel_rfl) (by simp) ?_
            refine AllReadyH.cons (o := { dst := some 57, op := Go.Op.call { callee := Go.Callee.value (Go.Operand.func 30), args := #[Go.Operand.tmp 54, Go.Operand.tmp 56], argTypes := #[25, 2] }, type := 25, pos := "ref.go:103", after := #[{ on := 0, ground := Go.Ground.data }, { on := 2, ground := Go.Ground.data }], guard := none }) rfl (fun K hK => ?_) AllReadyH.nil
            go_simp
            refine (refInt_any z4 m4 i.n (Lib.bytesWorld y4.drew 5 i.s) (by omega) (by omega) (HZ4.out.rd.drew.below (below_bytesWorld y4.drew i.s)) (by omega)).mono ?_
            rintro e y5 ⟨z5, rfl, hz, hb⟩
            have HS5 := hide ((conv_rd i.s y4.drew (by omega)).below hb)
            have hb := below_call (below_bytesWorld y4.drew i.s) hb
            have hz := hz.mono (below_bytesWorld y4.drew i.s).size
            have HD5 := hide (show Below y4.heap.size y4 y5 from ⟨hb.os, hb.tape, hb.output, hb.size, hb.block⟩)
            obtain ⟨m5, HM5⟩ := named (m4 ++ U (foldI i.n))
            have hm5 : m5.length ≤ 100000 + 50 := by rw [HM5.out, List.length_append]; have := hU ((foldI i.n)); omega
            rw [← HM5.out] at hz
            have HZ5 := hide (show Own y5 y4.heap.size z5 m5 from hz)
            have HI5 := hide (HI4.out.below HD5.out)
            have hs5 := Cells6 HI5.out
            clear hz hb
            refine hK.out _ _ hs5 (fun _ => ?_)
            clear hK K
            try simp only [Act.put, List.setIfInBounds_toArray, List.set_cons_zero, List.set_cons_succ]
            refine wpAnyH_ready (rs := [7]) (by kernel_rfl) (by simp) ?_
            refine AllReadyH.cons (o := { dst := some 61, op := Go.Op.call { callee := Go.Callee.value (Go.Operand.func 28), args := #[Go.Operand.tmp 57, Go.Operand.tmp 60], argTypes := #[25, 25] }, type := 25, pos := "ref.go:103", after := #[{ on := 3, ground := Go.Ground.data }, { on := 6, ground := Go.Ground.data }, { on := 3, ground := Go.Ground.chain }], guard := none }) rfl (fun K hK => ?_) AllReadyH.nil
            go_simp
            refine (refBlob_any z5 _ m5 (nm i.s) y5 HZ5.out.rd HS5.out (by have := nm_len i.s; omega)).mono ?_
            rintro e y6 ⟨z6, rfl, hz, hb⟩
            have HD6 := hide (show Below y5.heap.size y5 y6 from hb)
            have HI6 := hide (HI5.out.below HD6.out)
            have hs6 := Cells6 HI6.out
            have HZ6 := hide (show Own y6 y5.heap.size z6 _ from hz)
            clear hz hb
            refine hK.out _ _ hs6 (fun _ => ?_)
            clear hK K
            try simp only [Act.put, List.setIfInBounds_toArray, List.set_cons_zero, List.set_cons_succ]
            refine wpAnyH_ready (rs := [8]) (by kernel_rfl) (by simp) ?_
            refine AllReadyH.cons (o := { dst := some 4, op := Go.Op.assign (Go.Operand.tmp 61), type := 25, pos := "ref.go:103", after := #[{ on := 7, ground := Go.Ground.data }, { on := 7, ground := Go.Ground.chain }, { on := 0, ground := Go.Ground.phase }, { on := 1, ground := Go.Ground.phase }, { on := 2, ground := Go.Ground.phase }, { on := 3, ground := Go.Ground.phase }, { on := 4, ground := Go.Ground.phase }, { on := 5, ground := Go.Ground.phase }, { on := 6, ground := Go.Ground.phase }, { on := 7, ground := Go.Ground.phase }], guard := none }) rfl (fun K hK => ?_) AllReadyH.nil
            go_simp
            refine hK.out _ _ hs6 (fun _ => ?_)
            clear hK K
            try simp only [Act.put, List.setIfInBounds_toArray, List.set_cons_zero, List.set_cons_succ]
            refine wpAnyH_done (by kernel_rfl) ?_ _
            go_wp2
            go_roundw
            case rel =>
              have HBF := hide (below_call HQY.out (below_call (below_call (below_call (below_call (below_call HD1.out HD2.out) HD3.out) HD4.out) HD5.out) HD6.out))
              refine ⟨k + 1, by omega, by go_num, ?_, HBF.out⟩
              show Own _ _ _ _
              have e : headL ⟨name, regs, code⟩ ++ codeL (code.take (k + 1)) = m5 ++ (U (nm i.s).length ++ nm i.s) := by
                rw [HCS.out, HM5.out, HM4.out, HM3.out, HM2.out, HM1.out, HM0.out]
                simp [insL, blobL]
              rw [e]
              exact HZ6.out.mono (below_call HQY.out (below_call (below_call (below_call (below_call HD1.out HD2.out) HD3.out) HD4.out) HD5.out)).size
            case measure => simp [intOf]; omega
        · have hkn2 : n = k := by omega
          subst hkn2
          have hfull : code.take n = code := List.take_of_length_le (by rw [HN.out]; exact Nat.le_refl _)
          rw [hfull] at HO
          have hb8 := below_call HB1.out HQR.out
          have HOF := hide HO.out
          go_wp2
          refine bodyPost_ret (v := .tuple #[u4, .int .i64 0]) (by simp [results, Tryd.results11, go_sem]) rfl ?_
          exact ⟨_, by rw [HE.out, errP, HOK.out]; rfl, by rw [HBR.out]; exact HOF.out.mono HB1.out.size, hb8⟩
end Go.Proofs.YtpiiehenmkinaaaDoor
