/-
  Several of my texts in one: Jg Rg Rh Jc Jh. Own work.
-/
import Derived.Test.YtpiiehenmkinaaaDoorU5
import Derived.Test.YtpiiehenmkinaaaDoorU6
import Derived.Test.YtpiiehenmkinaaaDoorU7
import Derived.Test.YtpiiehenmkinaaaDoorU1
/-
  The independent reading's Bytes. Own work.
-/
namespace Go.Proofs.YtpiiehenmkinaaaDoor
open Go.RowKit

theorem refUint_int (o : Value) (lo : List UInt8) (n : Int) (w : World) (h0 : 0 ≤ n) (hn : n ≤ 18446744073709551615) (hrd : Rd w o lo) (hlen : lo.length ≤ 140737488354000) :
    Calls Tryd.prog 29 #[o, .int .u64 n] w fun e w' => ∃ v, e = .returned v ∧ Own w' w.heap.size v (lo ++ U n) ∧ Below w.heap.size w w' := by
  obtain ⟨m, rfl⟩ := Int.eq_ofNat_of_zero_le h0
  exact refUint_any o lo m w (by omega) hrd hlen
theorem take_len (p : Prg) (k : Nat) : (headL p ++ codeL (p.code.take k)).length ≤ (bytesP p).length := by
  have e : codeL p.code = codeL (p.code.take k) ++ codeL (p.code.drop k) := by
    unfold codeL
    rw [← List.flatten_append, ← List.map_append, List.take_append_drop]
  unfold bytesP
  rw [e]
  simp only [List.length_append]
  omega
theorem codeL_succ (code : List Ins) (k : Nat) (hk : k < code.length) : codeL (code.take (k + 1)) = codeL (code.take k) ++ insL code[k] := by
  unfold codeL
  rw [List.take_succ_eq_append_getElem hk, List.map_append, List.flatten_append]
  simp
theorem C6.below {w w' : World} {g : Nat} {c0 c1 c2 c3 c4 c5 : Value} (h : C6 w g c0 c1 c2 c3 c4 c5) (hb : Below w.heap.size w w') : C6 w' g c0 c1 c2 c3 c4 c5 :=
  h.chg (ChgB.ofBelow (b := w.heap.size) hb) (by have := h.1; omega)
theorem Cells6 {w : World} {g : Nat} {c0 c1 c2 c3 c4 c5 : Value} (h : C6 w g c0 c1 c2 c3 c4 c5) : w.cell? ⟨g, 0, none⟩ = some c0 ∧ w.cell? ⟨g, 1, none⟩ = some c1 ∧ w.cell? ⟨g, 2, none⟩ = some c2 ∧ w.cell? ⟨g, 3, none⟩ = some c3 ∧ w.cell? ⟨g, 4, none⟩ = some c4 ∧ w.cell? ⟨g, 5, none⟩ = some c5 := h.2.1
theorem Cells3 {w : World} {g : Nat} {c0 c1 c2 : Value} (h : C3 w g c0 c1 c2) : w.cell? ⟨g, 0, none⟩ = some c0 ∧ w.cell? ⟨g, 1, none⟩ = some c1 ∧ w.cell? ⟨g, 2, none⟩ = some c2 := ⟨h.2.1, h.2.2.1, h.2.2.2.1⟩
set_option maxRecDepth 100000 in
set_option maxHeartbeats 3200000 in
theorem refBytes_any (p : Prg) (cv : Value) (w : World) (hc : RdC w cv p.code) (hw : ∀ i ∈ p.code, i.wf) :
    Calls Tryd.prog 11 #[prgV p cv] w fun e w' => ∃ v, e = .returned (.tuple #[v, .int .i64 (errP p 20)]) ∧ Own w' w.heap.size v (bytesR p) ∧ Below w.heap.size w w' := by
  obtain ⟨name, regs, code⟩ := p
  obtain ⟨ao, cap, rfl, -⟩ := hc.shape
  simp only at hc hw
  show Calls Tryd.prog 11 #[.agg #[.string name, .int .i64 regs, .slice ao code.length cap]] w _
  have HC := hide hc
  have HWF := hide hw
  obtain ⟨n, HN⟩ := named code.length
  rw [← HN.out] at HC ⊢
  obtain ⟨W, HW⟩ := named (w.alloc (.cells #[.string name, .int .i64 regs, .slice ao n cap] 24))
  have hbW : Below w.heap.size w W := by rw [HW.out]; exact (Below.refl _ _).alloc (Nat.le_refl _) _
  obtain ⟨pb, HPB⟩ := named w.heap.size
  have HP := hide (show C3 W pb (.string name) (.int .i64 regs) (.slice ao n cap) by rw [HW.out, HPB.out]; exact C3.new _ _ _ _ _)
  have HBW := hide hbW
  obtain ⟨R, HR⟩ := named (bytesR ⟨name, regs, code⟩)
  rw [← HR.out]
  obtain ⟨E, HE⟩ := named (errP ⟨name, regs, code⟩ 20)
  rw [← HE.out]
  clear hbW hc hw
  go_enter Tryd.func11, Tryd.ntmps11
  go_wp2_with fail
  rw [← HW.out, ← HPB.out]
  refine (refCheck_any ⟨name, regs, code⟩ (.slice ao n cap) 20 W (HC.out.below HBW.out)).mono ?_
  rintro e w1 ⟨rfl, hb1⟩
  have HB1 := hide (below_call HBW.out hb1)
  have HP1 := hide (HP.out.below hb1)
  clear hb1
  cases hok : okP ⟨name, regs, code⟩ 20 with
  | false =>
    rw [show errP ⟨name, regs, code⟩ 20 = 100 by unfold errP; rw [hok]; rfl]
    have hbr : R = [] := by rw [HR.out]; unfold bytesR; rw [hok]; rfl
    subst hbr
    go_wp2
    refine bodyPost_ret (v := .tuple #[.slice none 0 0, .int .i64 100]) (by simp [results, Tryd.results11, go_sem]) rfl ?_
    exact ⟨_, by rw [HE.out, errP, hok]; rfl, Own.nil _ _, HB1.out⟩
  | true =>
    rw [show errP ⟨name, regs, code⟩ 20 = 0 by unfold errP; rw [hok]; rfl]
    have HBR := hide (show R = bytesP ⟨name, regs, code⟩ by rw [HR.out]; unfold bytesR; rw [hok]; rfl)
    have HLEN := hide (bytesP_len _ hok)
    have hin := okP_in hok
    have HIN := hide hin
    have HOK := hide hok
    have hn5 : n ≤ 500 := by rw [HN.out]; exact hin.2.2.1
    have hrg : 1 ≤ regs ∧ regs ≤ 16 := hin.2.1
    have hns : name.size ≤ 40 := hin.1.2
    have hU := fun n => U_len n
    have hcv := conv_run name
    have HS1 := hide (conv_rd name w1 (by omega))
    have HBb := hide (below_bytesWorld w1 name)
    have hnl := nm_len name
    have q1 := u64_of regs (by omega) (by omega)
    have q2 := u64_of (n : Int) (by omega) (by omega)
    obtain ⟨-, x0, x1, x2, -⟩ := id HP1.out
    clear hin
    go_wp2_with fail
    refine (refBlob_any (.slice none 0 0) _ [] (nm name) (Lib.bytesWorld w1 5 name) (Rd.nil _) HS1.out (by rw [hnl]; simp; omega)).mono ?_
    rintro e w2 ⟨v2, rfl, ho2, hb2⟩
    have HB2 := hide (show Below w1.heap.size w1 w2 from below_call HBb.out hb2)
    have HP2 := hide (HP1.out.below HB2.out)
    obtain ⟨l1, HL1⟩ := named ([] ++ (U (nm name).length ++ nm name))
    have hl1 : l1.length ≤ 50 := by rw [HL1.out]; simp only [List.length_append, List.nil_append]; have := hU ((nm name).length : Int); omega
    rw [← HL1.out] at ho2
    have HO2 := hide (ho2.mono HBb.out.size)
    have hs0 : w2.drew.cell? ⟨pb, 0, none⟩ = some (.string name) ∧ w2.drew.cell? ⟨pb, 1, none⟩ = some (.int .i64 regs) ∧ w2.drew.cell? ⟨pb, 2, none⟩ = some (.slice ao n cap) := Cells3 HP2.out
    clear x0 x1 x2 ho2 hb2 hcv
    go_wp2_with fail
    refine wp_region_held_drew (S := (fun w' => w'.cell? ⟨pb, 0, none⟩ = some (.string name) ∧ w'.cell? ⟨pb, 1, none⟩ = some (.int .i64 regs) ∧ w'.cell? ⟨pb, 2, none⟩ = some (.slice ao n cap))) (by kernel_rfl) hs0 (fun _ => ?_)
    refine wpAnyH_take (i := 0) (oi := { dst := some 14, op := Go.Op.move (Go.Operand.tmp 4), type := 25, pos := "ref.go:98", after := #[], guard := none }) (v := ?_) rfl (by kernel_rfl) (by kernel_rfl) (by kernel_rfl) (fun _ _ _ h => h) (Or.inl ⟨by rfl, ?hy1⟩) hs0 ?_
    case hy1 =>
      intro u hu
      obtain ⟨u0, u1, u2⟩ := hu
      go_simp
      try with_reducible rfl
    simp only [Act.put, List.setIfInBounds_toArray, List.set_cons_zero, List.set_cons_succ]
    refine wpAnyH_take (i := 1) (oi := { dst := some 15, op := Go.Op.fieldAddr 24 (Go.Operand.tmp 1) 1, type := 0, pos := "ref.go:98", after := #[], guard := none }) (v := ?_) rfl (by kernel_rfl) (by kernel_rfl) (by kernel_rfl) (fun _ _ _ h => h) (Or.inl ⟨by rfl, ?hy2⟩) hs0 ?_
    case hy2 =>
      intro u hu
      obtain ⟨u0, u1, u2⟩ := hu
      go_simp
      try with_reducible rfl
    simp only [Act.put, List.setIfInBounds_toArray, List.set_cons_zero, List.set_cons_succ]
    refine wpAnyH_take (i := 2) (oi := { dst := some 16, op := Go.Op.load 3 (Go.Operand.tmp 15), type := 3, pos := "ref.go:98", after := #[{ on := 1, ground := Go.Ground.data }], guard := none }) (v := ?_) rfl (by kernel_rfl) (by kernel_rfl) (by kernel_rfl) (fun _ _ _ h => h) (Or.inl ⟨by rfl, ?hy3⟩) hs0 ?_
    case hy3 =>
      intro u hu
      obtain ⟨u0, u1, u2⟩ := hu
      go_simp
      try with_reducible rfl
    simp only [Act.put, List.setIfInBounds_toArray, List.set_cons_zero, List.set_cons_succ]
    refine wpAnyH_take (i := 3) (oi := { dst := some 17, op := Go.Op.convert 3 59 (Go.Operand.tmp 16), type := 59, pos := "ref.go:98", after := #[{ on := 2, ground := Go.Ground.data }], guard := none }) (v := ?_) rfl (by kernel_rfl) (by kernel_rfl) (by kernel_rfl) (fun _ _ _ h => h) (Or.inl ⟨by rfl, ?hy4⟩) hs0 ?_
    case hy4 =>
      intro u hu
      obtain ⟨u0, u1, u2⟩ := hu
      go_simp
      try with_reducible rfl
    simp only [Act.put, List.setIfInBounds_toArray, List.set_cons_zero, List.set_cons_succ]
    refine wpAnyH_take (i := 5) (oi := { dst := some 19, op := Go.Op.fieldAddr 24 (Go.Operand.tmp 1) 2, type := 0, pos := "ref.go:98", after := #[], guard := none }) (v := ?_) rfl (by kernel_rfl) (by kernel_rfl) (by kernel_rfl) (fun _ _ _ h => h) (Or.inl ⟨by rfl, ?hy5⟩) hs0 ?_
    case hy5 =>
      intro u hu
      obtain ⟨u0, u1, u2⟩ := hu
      go_simp
      try with_reducible rfl
    simp only [Act.put, List.setIfInBounds_toArray, List.set_cons_zero, List.set_cons_succ]
    refine wpAnyH_take (i := 6) (oi := { dst := some 20, op := Go.Op.load 22 (Go.Operand.tmp 19), type := 22, pos := "ref.go:98", after := #[{ on := 5, ground := Go.Ground.data }], guard := none }) (v := ?_) rfl (by kernel_rfl) (by kernel_rfl) (by kernel_rfl) (fun _ _ _ h => h) (Or.inl ⟨by rfl, ?hy6⟩) hs0 ?_
    case hy6 =>
      intro u hu
      obtain ⟨u0, u1, u2⟩ := hu
      go_simp
      try with_reducible rfl
    simp only [Act.put, List.setIfInBounds_toArray, List.set_cons_zero, List.set_cons_succ]
    refine wpAnyH_ready (rs := [4, 7]) (by kernel_rfl) (by simp) ?_
    refine AllReadyH.cons (o := { dst := some 18, op := Go.Op.call { callee := Go.Callee.value (Go.Operand.func 29), args := #[Go.Operand.tmp 14, Go.Operand.tmp 17], argTypes := #[25, 59] }, type := 25, pos := "ref.go:98", after := #[{ on := 0, ground := Go.Ground.data }, { on := 3, ground := Go.Ground.data }], guard := none }) rfl (fun K hK => ?b7_4) (AllReadyH.cons (o := { dst := some 21, op := Go.Op.call { callee := Go.Callee.builtin Go.Builtin.len, args := #[Go.Operand.tmp 20], argTypes := #[22] }, type := 3, pos := "ref.go:98", after := #[{ on := 6, ground := Go.Ground.data }], guard := none }) rfl (fun K hK => ?b7_7) AllReadyH.nil)
    case' b7_4 =>
      go_simp
      try rw [q1]
      refine (refUint_int v2 l1 regs w2.drew (by omega) (by omega) HO2.out.rd.drew (by omega)).mono ?_
      rintro e w3 ⟨v3, rfl, ho3, hb3⟩
      have HB3 := hide (show Below w2.heap.size w2 w3 from ⟨hb3.os, hb3.tape, hb3.output, hb3.size, hb3.block⟩)
      obtain ⟨l2, HL2⟩ := named (l1 ++ U regs)
      have hl2 : l2.length ≤ 60 := by rw [HL2.out, List.length_append]; have := hU regs; omega
      rw [← HL2.out] at ho3
      have HO3 := hide (show Own w3 w2.heap.size v3 l2 from ho3)
      have HP3 := hide (HP2.out.below HB3.out)
      have hs1 : w3.cell? ⟨pb, 0, none⟩ = some (.string name) ∧ w3.cell? ⟨pb, 1, none⟩ = some (.int .i64 regs) ∧ w3.cell? ⟨pb, 2, none⟩ = some (.slice ao n cap) := Cells3 HP3.out
      clear ho3 hb3
      refine hK.out _ _ hs1 (fun _ => ?_)
      clear hK K
      try simp only [Act.put, List.setIfInBounds_toArray, List.set_cons_zero, List.set_cons_succ]
      refine wpAnyH_ready (rs := [7]) (by kernel_rfl) (by simp) ?_
      refine AllReadyH.cons (o := { dst := some 21, op := Go.Op.call { callee := Go.Callee.builtin Go.Builtin.len, args := #[Go.Operand.tmp 20], argTypes := #[22] }, type := 3, pos := "ref.go:98", after := #[{ on := 6, ground := Go.Ground.data }], guard := none }) rfl (fun K hK => ?_) AllReadyH.nil
      go_simp
      refine hK.out _ _ hs1 (fun _ => ?_)
      clear hK K
      try simp only [Act.put, List.setIfInBounds_toArray, List.set_cons_zero, List.set_cons_succ]
      refine wpAnyH_take (i := 8) (oi := { dst := some 22, op := Go.Op.convert 3 59 (Go.Operand.tmp 21), type := 59, pos := "ref.go:98", after := #[{ on := 7, ground := Go.Ground.data }], guard := none }) (v := ?_) rfl (by kernel_rfl) (by kernel_rfl) (by kernel_rfl) (fun _ _ _ h => h) (Or.inl ⟨by rfl, ?hy9⟩) hs1 ?_
      case hy9 =>
        intro u hu
        obtain ⟨u0, u1, u2⟩ := hu
        go_simp
        try with_reducible rfl
      simp only [Act.put, List.setIfInBounds_toArray, List.set_cons_zero, List.set_cons_succ]
      refine wpAnyH_ready (rs := [9]) (by kernel_rfl) (by simp) ?_
      refine AllReadyH.cons (o := { dst := some 23, op := Go.Op.call { callee := Go.Callee.value (Go.Operand.func 29), args := #[Go.Operand.tmp 18, Go.Operand.tmp 22], argTypes := #[25, 59] }, type := 25, pos := "ref.go:98", after := #[{ on := 4, ground := Go.Ground.data }, { on := 8, ground := Go.Ground.data }, { on := 4, ground := Go.Ground.chain }], guard := none }) rfl (fun K hK => ?_) AllReadyH.nil
      go_simp
      try rw [q2]
      refine (refUint_int v3 l2 (n : Int) w3 (by omega) (by omega) HO3.out.rd (by omega)).mono ?_
      rintro e w4 ⟨v4, rfl, ho4, hb4⟩
      have HB4 := hide (show Below w3.heap.size w3 w4 from hb4)
      have HP4 := hide (HP3.out.below HB4.out)
      have hs2 : w4.cell? ⟨pb, 0, none⟩ = some (.string name) ∧ w4.cell? ⟨pb, 1, none⟩ = some (.int .i64 regs) ∧ w4.cell? ⟨pb, 2, none⟩ = some (.slice ao n cap) := Cells3 HP4.out
      have hhead : l2 ++ U (n : Int) = headL ⟨name, regs, code⟩ := by rw [HL2.out, HL1.out]; unfold headL blobL; simp [HN.out]
      rw [hhead] at ho4
      refine hK.out _ _ hs2 (fun _ => ?_)
      clear hK K
      try simp only [Act.put, List.setIfInBounds_toArray, List.set_cons_zero, List.set_cons_succ]
      refine wpAnyH_ready (rs := [10]) (by kernel_rfl) (by simp) ?_
      refine AllReadyH.cons (o := { dst := some 4, op := Go.Op.assign (Go.Operand.tmp 23), type := 25, pos := "ref.go:98", after := #[{ on := 9, ground := Go.Ground.data }, { on := 9, ground := Go.Ground.chain }, { on := 0, ground := Go.Ground.phase }, { on := 1, ground := Go.Ground.phase }, { on := 2, ground := Go.Ground.phase }, { on := 3, ground := Go.Ground.phase }, { on := 4, ground := Go.Ground.phase }, { on := 5, ground := Go.Ground.phase }, { on := 6, ground := Go.Ground.phase }, { on := 7, ground := Go.Ground.phase }, { on := 8, ground := Go.Ground.phase }, { on := 9, ground := Go.Ground.phase }], guard := none }) rfl (fun K hK => ?_) AllReadyH.nil
      go_simp
      refine hK.out _ _ hs2 (fun _ => ?_)
      clear hK K
      try simp only [Act.put, List.setIfInBounds_toArray, List.set_cons_zero, List.set_cons_succ]
      refine wpAnyH_done (by kernel_rfl) ?_ _
      go_wp2_with fail
      go_loopw [4, 5] (fun tv iv wr => ∃ k : Nat, k ≤ n ∧ iv = .int .i64 k ∧ Hid (Own wr w1.heap.size tv (headL ⟨name, regs, code⟩ ++ codeL (code.take k))) ∧ Hid (Below w1.heap.size w1 wr)) (fun _ iv _ => n - (intOf iv).toNat)
      case atStart => exact ⟨0, by omega, rfl, by show Own _ _ _ _; simp only [List.take_zero, codeL, List.map_nil, List.flatten_nil, List.append_nil]; exact ho4.mono (by have := HB2.out.size; have := HB3.out.size; omega), below_call HB2.out (below_call HB3.out HB4.out)⟩
      case round =>
        obtain ⟨k, hkn, rfl, HO, HQR⟩ := hrel
        have HPR := hide (HP1.out.below HQR.out)
        obtain ⟨-, x0, x1, x2, -⟩ := id HPR.out
        by_cases hlt : k < n
        · have hk5 : k < code.length := by rw [← HN.out]; exact hlt
          obtain ⟨b0, off0, hbe, hblt, c0, c1, c2, c3, c4, c5⟩ := (HC.out.below (below_call HB1.out HQR.out)).at k hk5
          subst hbe
          have hwi := HWF.out _ (List.getElem_mem hk5)
          have hrgi := insB_range (HIN.out.2.2.2.2 _ (List.getElem_mem hk5)) HIN.out.2.1.2
          have hcs := congrArg (fun x => headL ⟨name, regs, code⟩ ++ x) (codeL_succ code k hk5)
          obtain ⟨i, HI⟩ := named (code[k]'hk5)
          rw [← HI.out] at c0 c1 c2 c3 c4 c5 hwi hrgi
          rw [← HI.out] at hcs
          obtain ⟨m0, HM0⟩ := named (headL ⟨name, regs, code⟩ ++ codeL (code.take k))
          have hm0 : m0.length ≤ 100000 := by rw [HM0.out]; exact Nat.le_trans (take_len ⟨name, regs, code⟩ k) (by have := HLEN.out; omega)
          rw [← HM0.out] at HO
          have HCS := hide hcs
          have hop : 0 ≤ (i.op : Int) ∧ (i.op : Int) ≤ 255 := by have := hwi.op; omega
          have hni : -9223372036854775808 ≤ i.n ∧ i.n ≤ 9223372036854775807 := hwi.n
          have hsi := hrgi.2.2.2.1
          have hai := hrgi.1
          have hbi := hrgi.2.1
          have hci := hrgi.2.2.1
          have t0 := u64_of (i.op : Int) (by omega) (by omega)
          have t1 := u64_of i.a (by omega) (by omega)
          have t2 := u64_of i.b (by omega) (by omega)
          have t3 := u64_of i.c (by omega) (by omega)
          clear hcs hwi hrgi
          obtain ⟨y0, HY0⟩ := named (wr.alloc (.cells #[.int .u8 (i.op : Int), .int .i64 i.a, .int .i64 i.b, .int .i64 i.c, .int .i64 i.n, .string i.s] 28))
          obtain ⟨ib, HIB⟩ := named wr.heap.size
          have HI0 := hide (show C6 y0 ib (.int .u8 (i.op : Int)) (.int .i64 i.a) (.int .i64 i.b) (.int .i64 i.c) (.int .i64 i.n) (.string i.s) by rw [HY0.out, HIB.out]; exact C6.new _ _ _ _ _ _ _ _)
          have hby : Below wr.heap.size wr y0 := by rw [HY0.out]; exact (Below.refl _ _).alloc (Nat.le_refl _) _
          have HQY := hide (below_call HQR.out hby)
          have HZ0 := hide (HO.out.below hby)
          have hs0d : y0.drew.cell? ⟨ib, 0, none⟩ = some (.int .u8 (i.op : Int)) ∧ y0.drew.cell? ⟨ib, 1, none⟩ = some (.int .i64 i.a) ∧ y0.drew.cell? ⟨ib, 2, none⟩ = some (.int .i64 i.b) ∧ y0.drew.cell? ⟨ib, 3, none⟩ = some (.int .i64 i.c) ∧ y0.drew.cell? ⟨ib, 4, none⟩ = some (.int .i64 i.n) ∧ y0.drew.cell? ⟨ib, 5, none⟩ = some (.string i.s) := Cells6 HI0.out
          clear hby
          go_wp2_with fail
          rw [← HY0.out, ← HIB.out]
          refine wp_region_held_drew (S := (fun w' => w'.cell? ⟨ib, 0, none⟩ = some (.int .u8 (i.op : Int)) ∧ w'.cell? ⟨ib, 1, none⟩ = some (.int .i64 i.a) ∧ w'.cell? ⟨ib, 2, none⟩ = some (.int .i64 i.b) ∧ w'.cell? ⟨ib, 3, none⟩ = some (.int .i64 i.c) ∧ w'.cell? ⟨ib, 4, none⟩ = some (.int .i64 i.n) ∧ w'.cell? ⟨ib, 5, none⟩ = some (.string i.s))) (by kernel_rfl) hs0d (fun _ => ?_)
          refine wpAnyH_take (i := 0) (oi := { dst := some 36, op := Go.Op.move (Go.Operand.tmp 4), type := 25, pos := "ref.go:101", after := #[], guard := none }) (v := ?_) rfl (by kernel_rfl) (by kernel_rfl) (by kernel_rfl) (fun _ _ _ h => h) (Or.inl ⟨by rfl, ?hy12⟩) hs0d ?_
          case hy12 =>
            intro u hu
            obtain ⟨u0, u1, u2, u3, u4, u5⟩ := hu
            go_simp
            try with_reducible rfl
          simp only [Act.put, List.setIfInBounds_toArray, List.set_cons_zero, List.set_cons_succ]
          refine wpAnyH_take (i := 1) (oi := { dst := some 37, op := Go.Op.fieldAddr 28 (Go.Operand.tmp 6) 0, type := 0, pos := "ref.go:101", after := #[], guard := none }) (v := ?_) rfl (by kernel_rfl) (by kernel_rfl) (by kernel_rfl) (fun _ _ _ h => h) (Or.inl ⟨by rfl, ?hy13⟩) hs0d ?_
          case hy13 =>
            intro u hu
            obtain ⟨u0, u1, u2, u3, u4, u5⟩ := hu
            go_simp
            try with_reducible rfl
          simp only [Act.put, List.setIfInBounds_toArray, List.set_cons_zero, List.set_cons_succ]
          refine wpAnyH_take (i := 2) (oi := { dst := some 38, op := Go.Op.load 26 (Go.Operand.tmp 37), type := 26, pos := "ref.go:101", after := #[{ on := 1, ground := Go.Ground.data }], guard := none }) (v := ?_) rfl (by kernel_rfl) (by kernel_rfl) (by kernel_rfl) (fun _ _ _ h => h) (Or.inl ⟨by rfl, ?hy14⟩) hs0d ?_
          case hy14 =>
            intro u hu
            obtain ⟨u0, u1, u2, u3, u4, u5⟩ := hu
            go_simp
            try with_reducible rfl
          simp only [Act.put, List.setIfInBounds_toArray, List.set_cons_zero, List.set_cons_succ]
          refine wpAnyH_take (i := 3) (oi := { dst := some 39, op := Go.Op.convert 26 59 (Go.Operand.tmp 38), type := 59, pos := "ref.go:101", after := #[{ on := 2, ground := Go.Ground.data }], guard := none }) (v := ?_) rfl (by kernel_rfl) (by kernel_rfl) (by kernel_rfl) (fun _ _ _ h => h) (Or.inl ⟨by rfl, ?hy15⟩) hs0d ?_
          case hy15 =>
            intro u hu
            obtain ⟨u0, u1, u2, u3, u4, u5⟩ := hu
            go_simp
            try with_reducible rfl
          simp only [Act.put, List.setIfInBounds_toArray, List.set_cons_zero, List.set_cons_succ]
          refine wpAnyH_take (i := 5) (oi := { dst := some 41, op := Go.Op.fieldAddr 28 (Go.Operand.tmp 6) 1, type := 0, pos := "ref.go:101", after := #[], guard := none }) (v := ?_) rfl (by kernel_rfl) (by kernel_rfl) (by kernel_rfl) (fun _ _ _ h => h) (Or.inl ⟨by rfl, ?hy16⟩) hs0d ?_
          case hy16 =>
            intro u hu
            obtain ⟨u0, u1, u2, u3, u4, u5⟩ := hu
            go_simp
            try with_reducible rfl
          simp only [Act.put, List.setIfInBounds_toArray, List.set_cons_zero, List.set_cons_succ]
          refine wpAnyH_take (i := 6) (oi := { dst := some 42, op := Go.Op.load 3 (Go.Operand.tmp 41), type := 3, pos := "ref.go:101", after := #[{ on := 5, ground := Go.Ground.data }], guard := none }) (v := ?_) rfl (by kernel_rfl) (by kernel_rfl) (by kernel_rfl) (fun _ _ _ h => h) (Or.inl ⟨by rfl, ?hy17⟩) hs0d ?_
          case hy17 =>
            intro u hu
            obtain ⟨u0, u1, u2, u3, u4, u5⟩ := hu
            go_simp
            try with_reducible rfl
          simp only [Act.put, List.setIfInBounds_toArray, List.set_cons_zero, List.set_cons_succ]
          refine wpAnyH_take (i := 7) (oi := { dst := some 43, op := Go.Op.convert 3 59 (Go.Operand.tmp 42), type := 59, pos := "ref.go:101", after := #[{ on := 6, ground := Go.Ground.data }], guard := none }) (v := ?_) rfl (by kernel_rfl) (by kernel_rfl) (by kernel_rfl) (fun _ _ _ h => h) (Or.inl ⟨by rfl, ?hy18⟩) hs0d ?_
          case hy18 =>
            intro u hu
            obtain ⟨u0, u1, u2, u3, u4, u5⟩ := hu
            go_simp
            try with_reducible rfl
          simp only [Act.put, List.setIfInBounds_toArray, List.set_cons_zero, List.set_cons_succ]
          refine wpAnyH_ready (rs := [4]) (by kernel_rfl) (by simp) ?_
          refine AllReadyH.cons (o := { dst := some 40, op := Go.Op.call { callee := Go.Callee.value (Go.Operand.func 29), args := #[Go.Operand.tmp 36, Go.Operand.tmp 39], argTypes := #[25, 59] }, type := 25, pos := "ref.go:101", after := #[{ on := 0, ground := Go.Ground.data }, { on := 3, ground := Go.Ground.data }], guard := none }) rfl (fun K hK => ?_) AllReadyH.nil
          go_simp
          try rw [t0]
          refine (refUint_int u4 m0 (i.op : Int) y0.drew (by omega) (by omega) HZ0.out.rd.drew (by omega)).mono ?_
          rintro e y1 ⟨z1, rfl, hz, hb⟩
          have HD1 := hide (show Below y0.heap.size y0 y1 from ⟨hb.os, hb.tape, hb.output, hb.size, hb.block⟩)
          obtain ⟨m1, HM1⟩ := named (m0 ++ U (i.op : Int))
          have hm1 : m1.length ≤ 100000 + 10 := by rw [HM1.out, List.length_append]; have := hU ((i.op : Int)); omega
          rw [← HM1.out] at hz
          have HZ1 := hide (show Own y1 y0.heap.size z1 m1 from hz)
          have HI1 := hide (HI0.out.below HD1.out)
          have hs1 := Cells6 HI1.out
          clear hz hb
          refine hK.out _ _ hs1 (fun _ => ?_)
          clear hK K
          try simp only [Act.put, List.setIfInBounds_toArray, List.set_cons_zero, List.set_cons_succ]
          refine wpAnyH_ready (rs := [8]) (by kernel_rfl) (by simp) ?_
          refine AllReadyH.cons (o := { dst := some 44, op := Go.Op.call { callee := Go.Callee.value (Go.Operand.func 29), args := #[Go.Operand.tmp 40, Go.Operand.tmp 43], argTypes := #[25, 59] }, type := 25, pos := "ref.go:101", after := #[{ on := 4, ground := Go.Ground.data }, { on := 7, ground := Go.Ground.data }, { on := 4, ground := Go.Ground.chain }], guard := none }) rfl (fun K hK => ?_) AllReadyH.nil
          go_simp
          try rw [t1]
          refine (refUint_int z1 m1 i.a y1 (by omega) (by omega) HZ1.out.rd (by omega)).mono ?_
          rintro e y2 ⟨z2, rfl, hz, hb⟩
          have HD2 := hide (show Below y1.heap.size y1 y2 from ⟨hb.os, hb.tape, hb.output, hb.size, hb.block⟩)
          obtain ⟨m2, HM2⟩ := named (m1 ++ U i.a)
          have hm2 : m2.length ≤ 100000 + 20 := by rw [HM2.out, List.length_append]; have := hU (i.a); omega
          rw [← HM2.out] at hz
          have HZ2 := hide (show Own y2 y1.heap.size z2 m2 from hz)
          have HI2 := hide (HI1.out.below HD2.out)
          have hs2 := Cells6 HI2.out
          clear hz hb
          refine hK.out _ _ hs2 (fun _ => ?_)
          clear hK K
          try simp only [Act.put, List.setIfInBounds_toArray, List.set_cons_zero, List.set_cons_succ]
          refine wpAnyH_ready (rs := [9]) (by kernel_rfl) (by simp) ?_
          refine AllReadyH.cons (o := { dst := some 4, op := Go.Op.assign (Go.Operand.tmp 44), type := 25, pos := "ref.go:101", after := #[{ on := 8, ground := Go.Ground.data }, { on := 8, ground := Go.Ground.chain }, { on := 0, ground := Go.Ground.phase }, { on := 1, ground := Go.Ground.phase }, { on := 2, ground := Go.Ground.phase }, { on := 3, ground := Go.Ground.phase }, { on := 4, ground := Go.Ground.phase }, { on := 5, ground := Go.Ground.phase }, { on := 6, ground := Go.Ground.phase }, { on := 7, ground := Go.Ground.phase }, { on := 8, ground := Go.Ground.phase }], guard := none }) rfl (fun K hK => ?_) AllReadyH.nil
          go_simp
          refine hK.out _ _ hs2 (fun _ => ?_)
          clear hK K
          try simp only [Act.put, List.setIfInBounds_toArray, List.set_cons_zero, List.set_cons_succ]
          refine wpAnyH_done (by kernel_rfl) ?_ _
          go_wp2_with fail
          have hs2d : y2.drew.cell? ⟨ib, 0, none⟩ = some (.int .u8 (i.op : Int)) ∧ y2.drew.cell? ⟨ib, 1, none⟩ = some (.int .i64 i.a) ∧ y2.drew.cell? ⟨ib, 2, none⟩ = some (.int .i64 i.b) ∧ y2.drew.cell? ⟨ib, 3, none⟩ = some (.int .i64 i.c) ∧ y2.drew.cell? ⟨ib, 4, none⟩ = some (.int .i64 i.n) ∧ y2.drew.cell? ⟨ib, 5, none⟩ = some (.string i.s) := hs2
          refine wp_region_held_drew (S := (fun w' => w'.cell? ⟨ib, 0, none⟩ = some (.int .u8 (i.op : Int)) ∧ w'.cell? ⟨ib, 1, none⟩ = some (.int .i64 i.a) ∧ w'.cell? ⟨ib, 2, none⟩ = some (.int .i64 i.b) ∧ w'.cell? ⟨ib, 3, none⟩ = some (.int .i64 i.c) ∧ w'.cell? ⟨ib, 4, none⟩ = some (.int .i64 i.n) ∧ w'.cell? ⟨ib, 5, none⟩ = some (.string i.s))) (by kernel_rfl) hs2d (fun _ => ?_)
          refine wpAnyH_take (i := 0) (oi := { dst := some 45, op := Go.Op.move (Go.Operand.tmp 4), type := 25, pos := "ref.go:102", after := #[], guard := none }) (v := ?_) rfl (by kernel_rfl) (by kernel_rfl) (by kernel_rfl) (fun _ _ _ h => h) (Or.inl ⟨by rfl, ?hy22⟩) hs2d ?_
          case hy22 =>
            intro u hu
            obtain ⟨u0, u1, u2, u3, u4, u5⟩ := hu
            go_simp
            try with_reducible rfl
          simp only [Act.put, List.setIfInBounds_toArray, List.set_cons_zero, List.set_cons_succ]
          refine wpAnyH_take (i := 1) (oi := { dst := some 46, op := Go.Op.fieldAddr 28 (Go.Operand.tmp 6) 2, type := 0, pos := "ref.go:102", after := #[], guard := none }) (v := ?_) rfl (by kernel_rfl) (by kernel_rfl) (by kernel_rfl) (fun _ _ _ h => h) (Or.inl ⟨by rfl, ?hy23⟩) hs2d ?_
          case hy23 =>
            intro u hu
            obtain ⟨u0, u1, u2, u3, u4, u5⟩ := hu
            go_simp
            try with_reducible rfl
          simp only [Act.put, List.setIfInBounds_toArray, List.set_cons_zero, List.set_cons_succ]
          refine wpAnyH_take (i := 2) (oi := { dst := some 47, op := Go.Op.load 3 (Go.Operand.tmp 46), type := 3, pos := "ref.go:102", after := #[{ on := 1, ground := Go.Ground.data }], guard := none }) (v := ?_) rfl (by kernel_rfl) (by kernel_rfl) (by kernel_rfl) (fun _ _ _ h => h) (Or.inl ⟨by rfl, ?hy24⟩) hs2d ?_
          case hy24 =>
            intro u hu
            obtain ⟨u0, u1, u2, u3, u4, u5⟩ := hu
            go_simp
            try with_reducible rfl
          simp only [Act.put, List.setIfInBounds_toArray, List.set_cons_zero, List.set_cons_succ]
          refine wpAnyH_take (i := 3) (oi := { dst := some 48, op := Go.Op.convert 3 59 (Go.Operand.tmp 47), type := 59, pos := "ref.go:102", after := #[{ on := 2, ground := Go.Ground.data }], guard := none }) (v := ?_) rfl (by kernel_rfl) (by kernel_rfl) (by kernel_rfl) (fun _ _ _ h => h) (Or.inl ⟨by rfl, ?hy25⟩) hs2d ?_
          case hy25 =>
            intro u hu
            obtain ⟨u0, u1, u2, u3, u4, u5⟩ := hu
            go_simp
            try with_reducible rfl
          simp only [Act.put, List.setIfInBounds_toArray, List.set_cons_zero, List.set_cons_succ]
          refine wpAnyH_take (i := 5) (oi := { dst := some 50, op := Go.Op.fieldAddr 28 (Go.Operand.tmp 6) 3, type := 0, pos := "ref.go:102", after := #[], guard := none }) (v := ?_) rfl (by kernel_rfl) (by kernel_rfl) (by kernel_rfl) (fun _ _ _ h => h) (Or.inl ⟨by rfl, ?hy26⟩) hs2d ?_
          case hy26 =>
            intro u hu
            obtain ⟨u0, u1, u2, u3, u4, u5⟩ := hu
            go_simp
            try with_reducible rfl
          simp only [Act.put, List.setIfInBounds_toArray, List.set_cons_zero, List.set_cons_succ]
          refine wpAnyH_take (i := 6) (oi := { dst := some 51, op := Go.Op.load 3 (Go.Operand.tmp 50), type := 3, pos := "ref.go:102", after := #[{ on := 5, ground := Go.Ground.data }], guard := none }) (v := ?_) rfl (by kernel_rfl) (by kernel_rfl) (by kernel_rfl) (fun _ _ _ h => h) (Or.inl ⟨by rfl, ?hy27⟩) hs2d ?_
          case hy27 =>
            intro u hu
            obtain ⟨u0, u1, u2, u3, u4, u5⟩ := hu
            go_simp
            try with_reducible rfl
          simp only [Act.put, List.setIfInBounds_toArray, List.set_cons_zero, List.set_cons_succ]
          refine wpAnyH_take (i := 7) (oi := { dst := some 52, op := Go.Op.convert 3 59 (Go.Operand.tmp 51), type := 59, pos := "ref.go:102", after := #[{ on := 6, ground := Go.Ground.data }], guard := none }) (v := ?_) rfl (by kernel_rfl) (by kernel_rfl) (by kernel_rfl) (fun _ _ _ h => h) (Or.inl ⟨by rfl, ?hy28⟩) hs2d ?_
          case hy28 =>
            intro u hu
            obtain ⟨u0, u1, u2, u3, u4, u5⟩ := hu
            go_simp
            try with_reducible rfl
          simp only [Act.put, List.setIfInBounds_toArray, List.set_cons_zero, List.set_cons_succ]
          refine wpAnyH_ready (rs := [4]) (by kernel_rfl) (by simp) ?_
          refine AllReadyH.cons (o := { dst := some 49, op := Go.Op.call { callee := Go.Callee.value (Go.Operand.func 29), args := #[Go.Operand.tmp 45, Go.Operand.tmp 48], argTypes := #[25, 59] }, type := 25, pos := "ref.go:102", after := #[{ on := 0, ground := Go.Ground.data }, { on := 3, ground := Go.Ground.data }], guard := none }) rfl (fun K hK => ?_) AllReadyH.nil
          go_simp
          try rw [t2]
          refine (refUint_int z2 m2 i.b y2.drew (by omega) (by omega) HZ2.out.rd.drew (by omega)).mono ?_
          rintro e y3 ⟨z3, rfl, hz, hb⟩
          have HD3 := hide (show Below y2.heap.size y2 y3 from ⟨hb.os, hb.tape, hb.output, hb.size, hb.block⟩)
          obtain ⟨m3, HM3⟩ := named (m2 ++ U i.b)
          have hm3 : m3.length ≤ 100000 + 30 := by rw [HM3.out, List.length_append]; have := hU (i.b); omega
          rw [← HM3.out] at hz
          have HZ3 := hide (show Own y3 y2.heap.size z3 m3 from hz)
          have HI3 := hide (HI2.out.below HD3.out)
          have hs3 := Cells6 HI3.out
          clear hz hb
          refine hK.out _ _ hs3 (fun _ => ?_)
          clear hK K
          try simp only [Act.put, List.setIfInBounds_toArray, List.set_cons_zero, List.set_cons_succ]
          refine wpAnyH_ready (rs := [8]) (by kernel_rfl) (by simp) ?_
          refine AllReadyH.cons (o := { dst := some 53, op := Go.Op.call { callee := Go.Callee.value (Go.Operand.func 29), args := #[Go.Operand.tmp 49, Go.Operand.tmp 52], argTypes := #[25, 59] }, type := 25, pos := "ref.go:102", after := #[{ on := 4, ground := Go.Ground.data }, { on := 7, ground := Go.Ground.data }, { on := 4, ground := Go.Ground.chain }], guard := none }) rfl (fun K hK => ?_) AllReadyH.nil
          go_simp
          try rw [t3]
          refine (refUint_int z3 m3 i.c y3 (by omega) (by omega) HZ3.out.rd (by omega)).mono ?_
          rintro e y4 ⟨z4, rfl, hz, hb⟩
          have HD4 := hide (show Below y3.heap.size y3 y4 from ⟨hb.os, hb.tape, hb.output, hb.size, hb.block⟩)
          obtain ⟨m4, HM4⟩ := named (m3 ++ U i.c)
          have hm4 : m4.length ≤ 100000 + 40 := by rw [HM4.out, List.length_append]; have := hU (i.c); omega
          rw [← HM4.out] at hz
          have HZ4 := hide (show Own y4 y3.heap.size z4 m4 from hz)
          have HI4 := hide (HI3.out.below HD4.out)
          have hs4 := Cells6 HI4.out
          clear hz hb
          refine hK.out _ _ hs4 (fun _ => ?_)
          clear hK K
          try simp only [Act.put, List.setIfInBounds_toArray, List.set_cons_zero, List.set_cons_succ]
          refine wpAnyH_ready (rs := [9]) (by kernel_rfl) (by simp) ?_
          refine AllReadyH.cons (o := { dst := some 4, op := Go.Op.assign (Go.Operand.tmp 53), type := 25, pos := "ref.go:102", after := #[{ on := 8, ground := Go.Ground.data }, { on := 8, ground := Go.Ground.chain }, { on := 0, ground := Go.Ground.phase }, { on := 1, ground := Go.Ground.phase }, { on := 2, ground := Go.Ground.phase }, { on := 3, ground := Go.Ground.phase }, { on := 4, ground := Go.Ground.phase }, { on := 5, ground := Go.Ground.phase }, { on := 6, ground := Go.Ground.phase }, { on := 7, ground := Go.Ground.phase }, { on := 8, ground := Go.Ground.phase }], guard := none }) rfl (fun K hK => ?_) AllReadyH.nil
          go_simp
          refine hK.out _ _ hs4 (fun _ => ?_)
          clear hK K
          try simp only [Act.put, List.setIfInBounds_toArray, List.set_cons_zero, List.set_cons_succ]
          refine wpAnyH_done (by kernel_rfl) ?_ _
          go_wp2_with fail
          have hs4d : y4.drew.cell? ⟨ib, 0, none⟩ = some (.int .u8 (i.op : Int)) ∧ y4.drew.cell? ⟨ib, 1, none⟩ = some (.int .i64 i.a) ∧ y4.drew.cell? ⟨ib, 2, none⟩ = some (.int .i64 i.b) ∧ y4.drew.cell? ⟨ib, 3, none⟩ = some (.int .i64 i.c) ∧ y4.drew.cell? ⟨ib, 4, none⟩ = some (.int .i64 i.n) ∧ y4.drew.cell? ⟨ib, 5, none⟩ = some (.string i.s) := hs4
          have hcv := conv_run i.s
          refine wp_region_held_drew (S := (fun w' => w'.cell? ⟨ib, 0, none⟩ = some (.int .u8 (i.op : Int)) ∧ w'.cell? ⟨ib, 1, none⟩ = some (.int .i64 i.a) ∧ w'.cell? ⟨ib, 2, none⟩ = some (.int .i64 i.b) ∧ w'.cell? ⟨ib, 3, none⟩ = some (.int .i64 i.c) ∧ w'.cell? ⟨ib, 4, none⟩ = some (.int .i64 i.n) ∧ w'.cell? ⟨ib, 5, none⟩ = some (.string i.s))) (by kernel_rfl) hs4d (fun _ => ?_)
          refine wpAnyH_take (i := 0) (oi := { dst := some 54, op := Go.Op.move (Go.Operand.tmp 4), type := 25, pos := "ref.go:103", after := #[], guard := none }) (v := ?_) rfl (by kernel_rfl) (by kernel_rfl) (by kernel_rfl) (fun _ _ _ h => h) (Or.inl ⟨by rfl, ?hy32⟩) hs4d ?_
          case hy32 =>
            intro u hu
            obtain ⟨u0, u1, u2, u3, u4, u5⟩ := hu
            go_simp
            try with_reducible rfl
          simp only [Act.put, List.setIfInBounds_toArray, List.set_cons_zero, List.set_cons_succ]
          refine wpAnyH_take (i := 1) (oi := { dst := some 55, op := Go.Op.fieldAddr 28 (Go.Operand.tmp 6) 4, type := 0, pos := "ref.go:103", after := #[], guard := none }) (v := ?_) rfl (by kernel_rfl) (by kernel_rfl) (by kernel_rfl) (fun _ _ _ h => h) (Or.inl ⟨by rfl, ?hy33⟩) hs4d ?_
          case hy33 =>
            intro u hu
            obtain ⟨u0, u1, u2, u3, u4, u5⟩ := hu
            go_simp
            try with_reducible rfl
          simp only [Act.put, List.setIfInBounds_toArray, List.set_cons_zero, List.set_cons_succ]
          refine wpAnyH_take (i := 2) (oi := { dst := some 56, op := Go.Op.load 2 (Go.Operand.tmp 55), type := 2, pos := "ref.go:103", after := #[{ on := 1, ground := Go.Ground.data }], guard := none }) (v := ?_) rfl (by kernel_rfl) (by kernel_rfl) (by kernel_rfl) (fun _ _ _ h => h) (Or.inl ⟨by rfl, ?hy34⟩) hs4d ?_
          case hy34 =>
            intro u hu
            obtain ⟨u0, u1, u2, u3, u4, u5⟩ := hu
            go_simp
            try with_reducible rfl
          simp only [Act.put, List.setIfInBounds_toArray, List.set_cons_zero, List.set_cons_succ]
          refine wpAnyH_take (i := 4) (oi := { dst := some 58, op := Go.Op.fieldAddr 28 (Go.Operand.tmp 6) 5, type := 0, pos := "ref.go:103", after := #[], guard := none }) (v := ?_) rfl (by kernel_rfl) (by kernel_rfl) (by kernel_rfl) (fun _ _ _ h => h) (Or.inl ⟨by rfl, ?hy35⟩) hs4d ?_
          case hy35 =>
            intro u hu
            obtain ⟨u0, u1, u2, u3, u4, u5⟩ := hu
            go_simp
            try with_reducible rfl
          simp only [Act.put, List.setIfInBounds_toArray, List.set_cons_zero, List.set_cons_succ]
          refine wpAnyH_take (i := 5) (oi := { dst := some 59, op := Go.Op.load 9 (Go.Operand.tmp 58), type := 9, pos := "ref.go:103", after := #[{ on := 4, ground := Go.Ground.data }], guard := none }) (v := ?_) rfl (by kernel_rfl) (by kernel_rfl) (by kernel_rfl) (fun _ _ _ h => h) (Or.inl ⟨by rfl, ?hy36⟩) hs4d ?_
          case hy36 =>
            intro u hu
            obtain ⟨u0, u1, u2, u3, u4, u5⟩ := hu
            go_simp
            try with_reducible rfl
          simp only [Act.put, List.setIfInBounds_toArray, List.set_cons_zero, List.set_cons_succ]
          refine wpAnyH_ready (rs := [3, 6]) (by kernel_rfl) (by simp) ?_
          refine AllReadyH.cons (o := { dst := some 57, op := Go.Op.call { callee := Go.Callee.value (Go.Operand.func 30), args := #[Go.Operand.tmp 54, Go.Operand.tmp 56], argTypes := #[25, 2] }, type := 25, pos := "ref.go:103", after := #[{ on := 0, ground := Go.Ground.data }, { on := 2, ground := Go.Ground.data }], guard := none }) rfl (fun K hK => ?b37_3) (AllReadyH.cons (o := { dst := some 60, op := Go.Op.convert 9 25 (Go.Operand.tmp 59), type := 25, pos := "ref.go:103", after := #[{ on := 5, ground := Go.Ground.data }], guard := none }) rfl (fun K hK => ?b37_6) AllReadyH.nil)
          case' b37_3 =>
            go_simp
            refine (refInt_any z4 m4 i.n y4.drew (by omega) (by omega) HZ4.out.rd.drew (by omega)).mono ?_
            rintro e y5 ⟨z5, rfl, hz, hb⟩
            have HD5 := hide (show Below y4.heap.size y4 y5 from ⟨hb.os, hb.tape, hb.output, hb.size, hb.block⟩)
            obtain ⟨m5, HM5⟩ := named (m4 ++ U (foldI i.n))
            have hm5 : m5.length ≤ 100000 + 50 := by rw [HM5.out, List.length_append]; have := hU ((foldI i.n)); omega
            rw [← HM5.out] at hz
            have HZ5 := hide (show Own y5 y4.heap.size z5 m5 from hz)
            have HI5 := hide (HI4.out.below HD5.out)
            have hs5 := Cells6 HI5.out
            clear hz hb
            refine hK.out _ _ hs5 (fun _ => ?_)
            clear hK K
            try simp only [Act.put, List.setIfInBounds_toArray, List.set_cons_zero, List.set_cons_succ]
            refine wpAnyH_ready (rs := [6]) (by kernel_rfl) (by simp) ?_
            refine AllReadyH.cons (o := { dst := some 60, op := Go.Op.convert 9 25 (Go.Operand.tmp 59), type := 25, pos := "ref.go:103", after := #[{ on := 5, ground := Go.Ground.data }], guard := none }) rfl (fun K hK => ?_) AllReadyH.nil
            go_simp
            have HS5 := hide (conv_rd i.s y5 (by omega))
            have HDb := hide (below_bytesWorld y5 i.s)
            have hsb := Cells6 (HI5.out.below HDb.out)
            refine hK.out _ _ hsb (fun _ => ?_)
            clear hK K
            try simp only [Act.put, List.setIfInBounds_toArray, List.set_cons_zero, List.set_cons_succ]
            refine wpAnyH_ready (rs := [7]) (by kernel_rfl) (by simp) ?_
            refine AllReadyH.cons (o := { dst := some 61, op := Go.Op.call { callee := Go.Callee.value (Go.Operand.func 28), args := #[Go.Operand.tmp 57, Go.Operand.tmp 60], argTypes := #[25, 25] }, type := 25, pos := "ref.go:103", after := #[{ on := 3, ground := Go.Ground.data }, { on := 6, ground := Go.Ground.data }, { on := 3, ground := Go.Ground.chain }], guard := none }) rfl (fun K hK => ?_) AllReadyH.nil
            go_simp
            refine (refBlob_any z5 _ m5 (nm i.s) (Lib.bytesWorld y5 5 i.s) (HZ5.out.rd.below HDb.out) HS5.out (by have := nm_len i.s; omega)).mono ?_
            rintro e y6 ⟨z6, rfl, hz, hb⟩
            have hz := hz.mono HDb.out.size
            have hb := below_call HDb.out hb
            have HD6 := hide (show Below y5.heap.size y5 y6 from hb)
            have HI6 := hide (HI5.out.below HD6.out)
            have hs6 := Cells6 HI6.out
            have HZ6 := hide (show Own y6 y5.heap.size z6 _ from hz)
            clear hz hb
            refine hK.out _ _ hs6 (fun _ => ?_)
            clear hK K
            try simp only [Act.put, List.setIfInBounds_toArray, List.set_cons_zero, List.set_cons_succ]
            refine wpAnyH_ready (rs := [8]) (by kernel_rfl) (by simp) ?_
            refine AllReadyH.cons (o := { dst := some 4, op := Go.Op.assign (Go.Operand.tmp 61), type := 25, pos := "ref.go:103", after := #[{ on := 7, ground := Go.Ground.data }, { on := 7, ground := Go.Ground.chain }, { on := 0, ground := Go.Ground.phase }, { on := 1, ground := Go.Ground.phase }, { on := 2, ground := Go.Ground.phase }, { on := 3, ground := Go.Ground.phase }, { on := 4, ground := Go.Ground.phase }, { on := 5, ground := Go.Ground.phase }, { on := 6, ground := Go.Ground.phase }, { on := 7, ground := Go.Ground.phase }], guard := none }) rfl (fun K hK => ?_) AllReadyH.nil
            go_simp
            refine hK.out _ _ hs6 (fun _ => ?_)
            clear hK K
            try simp only [Act.put, List.setIfInBounds_toArray, List.set_cons_zero, List.set_cons_succ]
            refine wpAnyH_done (by kernel_rfl) ?_ _
            go_wp2
            go_roundw
            case rel =>
              have HBF := hide (below_call HQY.out (below_call (below_call (below_call (below_call (below_call HD1.out HD2.out) HD3.out) HD4.out) HD5.out) HD6.out))
              refine ⟨k + 1, by omega, by go_num, ?_, HBF.out⟩
              show Own _ _ _ _
              have e : headL ⟨name, regs, code⟩ ++ codeL (code.take (k + 1)) = m5 ++ (U (nm i.s).length ++ nm i.s) := by
                rw [HCS.out, HM5.out, HM4.out, HM3.out, HM2.out, HM1.out, HM0.out]
                simp [insL, blobL]
              rw [e]
              exact HZ6.out.mono (below_call HQY.out (below_call (below_call (below_call (below_call HD1.out HD2.out) HD3.out) HD4.out) HD5.out)).size
            case measure => simp [intOf]; omega
          case' b37_6 =>
            go_simp
            have hsb := Cells6 (HI4.out.below (below_bytesWorld y4 i.s))
            have hsb : (Lib.bytesWorld y4.drew 5 i.s).cell? ⟨ib, 0, none⟩ = some (.int .u8 (i.op : Int)) ∧ (Lib.bytesWorld y4.drew 5 i.s).cell? ⟨ib, 1, none⟩ = some (.int .i64 i.a) ∧ (Lib.bytesWorld y4.drew 5 i.s).cell? ⟨ib, 2, none⟩ = some (.int .i64 i.b) ∧ (Lib.bytesWorld y4.drew 5 i.s).cell? ⟨ib, 3, none⟩ = some (.int .i64 i.c) ∧ (Lib.bytesWorld y4.drew 5 i.s).cell? ⟨ib, 4, none⟩ = some (.int .i64 i.n) ∧ (Lib.bytesWorld y4.drew 5 i.s).cell? ⟨ib, 5, none⟩ = some (.string i.s) := Cells6 ((C6.below HI4.out (Below.refl _ _).drew).below (below_bytesWorld y4.drew i.s))
            refine hK.out _ _ hsb (fun _ => ?_)
            clear hK K
            try simp only [Act.put, List.setIfInBounds_toArray, List.set_cons_zero, List.set_cons_succ]
            refine wpAnyH_ready (rs := [3]) (by kernel_rfl) (by simp) ?_
            refine AllReadyH.cons (o := { dst := some 57, op := Go.Op.call { callee := Go.Callee.value (Go.Operand.func 30), args := #[Go.Operand.tmp 54, Go.Operand.tmp 56], argTypes := #[25, 2] }, type := 25, pos := "ref.go:103", after := #[{ on := 0, ground := Go.Ground.data }, { on := 2, ground := Go.Ground.data }], guard := none }) rfl (fun K hK => ?_) AllReadyH.nil
            go_simp
            refine (refInt_any z4 m4 i.n (Lib.bytesWorld y4.drew 5 i.s) (by omega) (by omega) (HZ4.out.rd.drew.below (below_bytesWorld y4.drew i.s)) (by omega)).mono ?_
            rintro e y5 ⟨z5, rfl, hz, hb⟩
            have HS5 := hide ((conv_rd i.s y4.drew (by omega)).below hb)
            have hb := below_call (below_bytesWorld y4.drew i.s) hb
            have hz := hz.mono (below_bytesWorld y4.drew i.s).size
            have HD5 := hide (show Below y4.heap.size y4 y5 from ⟨hb.os, hb.tape, hb.output, hb.size, hb.block⟩)
            obtain ⟨m5, HM5⟩ := named (m4 ++ U (foldI i.n))
            have hm5 : m5.length ≤ 100000 + 50 := by rw [HM5.out, List.length_append]; have := hU ((foldI i.n)); omega
            rw [← HM5.out] at hz
            have HZ5 := hide (show Own y5 y4.heap.size z5 m5 from hz)
            have HI5 := hide (HI4.out.below HD5.out)
            have hs5 := Cells6 HI5.out
            clear hz hb
            refine hK.out _ _ hs5 (fun _ => ?_)
            clear hK K
            try simp only [Act.put, List.setIfInBounds_toArray, List.set_cons_zero, List.set_cons_succ]
            refine wpAnyH_ready (rs := [7]) (by kernel_rfl) (by simp) ?_
            refine AllReadyH.cons (o := { dst := some 61, op := Go.Op.call { callee := Go.Callee.value (Go.Operand.func 28), args := #[Go.Operand.tmp 57, Go.Operand.tmp 60], argTypes := #[25, 25] }, type := 25, pos := "ref.go:103", after := #[{ on := 3, ground := Go.Ground.data }, { on := 6, ground := Go.Ground.data }, { on := 3, ground := Go.Ground.chain }], guard := none }) rfl (fun K hK => ?_) AllReadyH.nil
            go_simp
            refine (refBlob_any z5 _ m5 (nm i.s) y5 HZ5.out.rd HS5.out (by have := nm_len i.s; omega)).mono ?_
            rintro e y6 ⟨z6, rfl, hz, hb⟩
            have HD6 := hide (show Below y5.heap.size y5 y6 from hb)
            have HI6 := hide (HI5.out.below HD6.out)
            have hs6 := Cells6 HI6.out
            have HZ6 := hide (show Own y6 y5.heap.size z6 _ from hz)
            clear hz hb
            refine hK.out _ _ hs6 (fun _ => ?_)
            clear hK K
            try simp only [Act.put, List.setIfInBounds_toArray, List.set_cons_zero, List.set_cons_succ]
            refine wpAnyH_ready (rs := [8]) (by kernel_rfl) (by simp) ?_
            refine AllReadyH.cons (o := { dst := some 4, op := Go.Op.assign (Go.Operand.tmp 61), type := 25, pos := "ref.go:103", after := #[{ on := 7, ground := Go.Ground.data }, { on := 7, ground := Go.Ground.chain }, { on := 0, ground := Go.Ground.phase }, { on := 1, ground := Go.Ground.phase }, { on := 2, ground := Go.Ground.phase }, { on := 3, ground := Go.Ground.phase }, { on := 4, ground := Go.Ground.phase }, { on := 5, ground := Go.Ground.phase }, { on := 6, ground := Go.Ground.phase }, { on := 7, ground := Go.Ground.phase }], guard := none }) rfl (fun K hK => ?_) AllReadyH.nil
            go_simp
            refine hK.out _ _ hs6 (fun _ => ?_)
            clear hK K
            try simp only [Act.put, List.setIfInBounds_toArray, List.set_cons_zero, List.set_cons_succ]
            refine wpAnyH_done (by kernel_rfl) ?_ _
            go_wp2
            go_roundw
            case rel =>
              have HBF := hide (below_call HQY.out (below_call (below_call (below_call (below_call (below_call HD1.out HD2.out) HD3.out) HD4.out) HD5.out) HD6.out))
              refine ⟨k + 1, by omega, by go_num, ?_, HBF.out⟩
              show Own _ _ _ _
              have e : headL ⟨name, regs, code⟩ ++ codeL (code.take (k + 1)) = m5 ++ (U (nm i.s).length ++ nm i.s) := by
                rw [HCS.out, HM5.out, HM4.out, HM3.out, HM2.out, HM1.out, HM0.out]
                simp [insL, blobL]
              rw [e]
              exact HZ6.out.mono (below_call HQY.out (below_call (below_call (below_call (below_call HD1.out HD2.out) HD3.out) HD4.out) HD5.out)).size
            case measure => simp [intOf]; omega
        · have hkn2 : n = k := by omega
          subst hkn2
          have hfull : code.take n = code := List.take_of_length_le (by rw [HN.out]; exact Nat.le_refl _)
          rw [hfull] at HO
          have hb8 := below_call HB1.out HQR.out
          have HOF := hide HO.out
          go_wp2
          refine bodyPost_ret (v := .tuple #[u4, .int .i64 0]) (by simp [results, Tryd.results11, go_sem]) rfl ?_
          exact ⟨_, by rw [HE.out, errP, HOK.out]; rfl, by rw [HBR.out]; exact HOF.out.mono HB1.out.size, hb8⟩
    case' b7_7 =>
      go_simp
      refine hK.out _ _ hs0 (fun _ => ?_)
      clear hK K
      try simp only [Act.put, List.setIfInBounds_toArray, List.set_cons_zero, List.set_cons_succ]
      refine wpAnyH_take (i := 8) (oi := { dst := some 22, op := Go.Op.convert 3 59 (Go.Operand.tmp 21), type := 59, pos := "ref.go:98", after := #[{ on := 7, ground := Go.Ground.data }], guard := none }) (v := ?_) rfl (by kernel_rfl) (by kernel_rfl) (by kernel_rfl) (fun _ _ _ h => h) (Or.inl ⟨by rfl, ?hy44⟩) hs0 ?_
      case hy44 =>
        intro u hu
        obtain ⟨u0, u1, u2⟩ := hu
        go_simp
        try with_reducible rfl
      simp only [Act.put, List.setIfInBounds_toArray, List.set_cons_zero, List.set_cons_succ]
      refine wpAnyH_ready (rs := [4]) (by kernel_rfl) (by simp) ?_
      refine AllReadyH.cons (o := { dst := some 18, op := Go.Op.call { callee := Go.Callee.value (Go.Operand.func 29), args := #[Go.Operand.tmp 14, Go.Operand.tmp 17], argTypes := #[25, 59] }, type := 25, pos := "ref.go:98", after := #[{ on := 0, ground := Go.Ground.data }, { on := 3, ground := Go.Ground.data }], guard := none }) rfl (fun K hK => ?_) AllReadyH.nil
      go_simp
      try rw [q1]
      refine (refUint_int v2 l1 regs w2.drew (by omega) (by omega) HO2.out.rd.drew (by omega)).mono ?_
      rintro e w3 ⟨v3, rfl, ho3, hb3⟩
      have HB3 := hide (show Below w2.heap.size w2 w3 from ⟨hb3.os, hb3.tape, hb3.output, hb3.size, hb3.block⟩)
      obtain ⟨l2, HL2⟩ := named (l1 ++ U regs)
      have hl2 : l2.length ≤ 60 := by rw [HL2.out, List.length_append]; have := hU regs; omega
      rw [← HL2.out] at ho3
      have HO3 := hide (show Own w3 w2.heap.size v3 l2 from ho3)
      have HP3 := hide (HP2.out.below HB3.out)
      have hs1 : w3.cell? ⟨pb, 0, none⟩ = some (.string name) ∧ w3.cell? ⟨pb, 1, none⟩ = some (.int .i64 regs) ∧ w3.cell? ⟨pb, 2, none⟩ = some (.slice ao n cap) := Cells3 HP3.out
      clear ho3 hb3
      refine hK.out _ _ hs1 (fun _ => ?_)
      clear hK K
      try simp only [Act.put, List.setIfInBounds_toArray, List.set_cons_zero, List.set_cons_succ]
      refine wpAnyH_ready (rs := [9]) (by kernel_rfl) (by simp) ?_
      refine AllReadyH.cons (o := { dst := some 23, op := Go.Op.call { callee := Go.Callee.value (Go.Operand.func 29), args := #[Go.Operand.tmp 18, Go.Operand.tmp 22], argTypes := #[25, 59] }, type := 25, pos := "ref.go:98", after := #[{ on := 4, ground := Go.Ground.data }, { on := 8, ground := Go.Ground.data }, { on := 4, ground := Go.Ground.chain }], guard := none }) rfl (fun K hK => ?_) AllReadyH.nil
      go_simp
      try rw [q2]
      refine (refUint_int v3 l2 (n : Int) w3 (by omega) (by omega) HO3.out.rd (by omega)).mono ?_
      rintro e w4 ⟨v4, rfl, ho4, hb4⟩
      have HB4 := hide (show Below w3.heap.size w3 w4 from hb4)
      have HP4 := hide (HP3.out.below HB4.out)
      have hs2 : w4.cell? ⟨pb, 0, none⟩ = some (.string name) ∧ w4.cell? ⟨pb, 1, none⟩ = some (.int .i64 regs) ∧ w4.cell? ⟨pb, 2, none⟩ = some (.slice ao n cap) := Cells3 HP4.out
      have hhead : l2 ++ U (n : Int) = headL ⟨name, regs, code⟩ := by rw [HL2.out, HL1.out]; unfold headL blobL; simp [HN.out]
      rw [hhead] at ho4
      refine hK.out _ _ hs2 (fun _ => ?_)
      clear hK K
      try simp only [Act.put, List.setIfInBounds_toArray, List.set_cons_zero, List.set_cons_succ]
      refine wpAnyH_ready (rs := [10]) (by kernel_rfl) (by simp) ?_
      refine AllReadyH.cons (o := { dst := some 4, op := Go.Op.assign (Go.Operand.tmp 23), type := 25, pos := "ref.go:98", after := #[{ on := 9, ground := Go.Ground.data }, { on := 9, ground := Go.Ground.chain }, { on := 0, ground := Go.Ground.phase }, { on := 1, ground := Go.Ground.phase }, { on := 2, ground := Go.Ground.phase }, { on := 3, ground := Go.Ground.phase }, { on := 4, ground := Go.Ground.phase }, { on := 5, ground := Go.Ground.phase }, { on := 6, ground := Go.Ground.phase }, { on := 7, ground := Go.Ground.phase }, { on := 8, ground := Go.Ground.phase }, { on := 9, ground := Go.Ground.phase }], guard := none }) rfl (fun K hK => ?_) AllReadyH.nil
      go_simp
      refine hK.out _ _ hs2 (fun _ => ?_)
      clear hK K
      try simp only [Act.put, List.setIfInBounds_toArray, List.set_cons_zero, List.set_cons_succ]
      refine wpAnyH_done (by kernel_rfl) ?_ _
      go_wp2_with fail
      go_loopw [4, 5] (fun tv iv wr => ∃ k : Nat, k ≤ n ∧ iv = .int .i64 k ∧ Hid (Own wr w1.heap.size tv (headL ⟨name, regs, code⟩ ++ codeL (code.take k))) ∧ Hid (Below w1.heap.size w1 wr)) (fun _ iv _ => n - (intOf iv).toNat)
      case atStart => exact ⟨0, by omega, rfl, by show Own _ _ _ _; simp only [List.take_zero, codeL, List.map_nil, List.flatten_nil, List.append_nil]; exact ho4.mono (by have := HB2.out.size; have := HB3.out.size; omega), below_call HB2.out (below_call HB3.out HB4.out)⟩
      case round =>
        obtain ⟨k, hkn, rfl, HO, HQR⟩ := hrel
        have HPR := hide (HP1.out.below HQR.out)
        obtain ⟨-, x0, x1, x2, -⟩ := id HPR.out
        by_cases hlt : k < n
        · have hk5 : k < code.length := by rw [← HN.out]; exact hlt
          obtain ⟨b0, off0, hbe, hblt, c0, c1, c2, c3, c4, c5⟩ := (HC.out.below (below_call HB1.out HQR.out)).at k hk5
          subst hbe
          have hwi := HWF.out _ (List.getElem_mem hk5)
          have hrgi := insB_range (HIN.out.2.2.2.2 _ (List.getElem_mem hk5)) HIN.out.2.1.2
          have hcs := congrArg (fun x => headL ⟨name, regs, code⟩ ++ x) (codeL_succ code k hk5)
          obtain ⟨i, HI⟩ := named (code[k]'hk5)
          rw [← HI.out] at c0 c1 c2 c3 c4 c5 hwi hrgi
          rw [← HI.out] at hcs
          obtain ⟨m0, HM0⟩ := named (headL ⟨name, regs, code⟩ ++ codeL (code.take k))
          have hm0 : m0.length ≤ 100000 := by rw [HM0.out]; exact Nat.le_trans (take_len ⟨name, regs, code⟩ k) (by have := HLEN.out; omega)
          rw [← HM0.out] at HO
          have HCS := hide hcs
          have hop : 0 ≤ (i.op : Int) ∧ (i.op : Int) ≤ 255 := by have := hwi.op; omega
          have hni : -9223372036854775808 ≤ i.n ∧ i.n ≤ 9223372036854775807 := hwi.n
          have hsi := hrgi.2.2.2.1
          have hai := hrgi.1
          have hbi := hrgi.2.1
          have hci := hrgi.2.2.1
          have t0 := u64_of (i.op : Int) (by omega) (by omega)
          have t1 := u64_of i.a (by omega) (by omega)
          have t2 := u64_of i.b (by omega) (by omega)
          have t3 := u64_of i.c (by omega) (by omega)
          clear hcs hwi hrgi
          obtain ⟨y0, HY0⟩ := named (wr.alloc (.cells #[.int .u8 (i.op : Int), .int .i64 i.a, .int .i64 i.b, .int .i64 i.c, .int .i64 i.n, .string i.s] 28))
          obtain ⟨ib, HIB⟩ := named wr.heap.size
          have HI0 := hide (show C6 y0 ib (.int .u8 (i.op : Int)) (.int .i64 i.a) (.int .i64 i.b) (.int .i64 i.c) (.int .i64 i.n) (.string i.s) by rw [HY0.out, HIB.out]; exact C6.new _ _ _ _ _ _ _ _)
          have hby : Below wr.heap.size wr y0 := by rw [HY0.out]; exact (Below.refl _ _).alloc (Nat.le_refl _) _
          have HQY := hide (below_call HQR.out hby)
          have HZ0 := hide (HO.out.below hby)
          have hs0d : y0.drew.cell? ⟨ib, 0, none⟩ = some (.int .u8 (i.op : Int)) ∧ y0.drew.cell? ⟨ib, 1, none⟩ = some (.int .i64 i.a) ∧ y0.drew.cell? ⟨ib, 2, none⟩ = some (.int .i64 i.b) ∧ y0.drew.cell? ⟨ib, 3, none⟩ = some (.int .i64 i.c) ∧ y0.drew.cell? ⟨ib, 4, none⟩ = some (.int .i64 i.n) ∧ y0.drew.cell? ⟨ib, 5, none⟩ = some (.string i.s) := Cells6 HI0.out
          clear hby
          go_wp2_with fail
          rw [← HY0.out, ← HIB.out]
          refine wp_region_held_drew (S := (fun w' => w'.cell? ⟨ib, 0, none⟩ = some (.int .u8 (i.op : Int)) ∧ w'.cell? ⟨ib, 1, none⟩ = some (.int .i64 i.a) ∧ w'.cell? ⟨ib, 2, none⟩ = some (.int .i64 i.b) ∧ w'.cell? ⟨ib, 3, none⟩ = some (.int .i64 i.c) ∧ w'.cell? ⟨ib, 4, none⟩ = some (.int .i64 i.n) ∧ w'.cell? ⟨ib, 5, none⟩ = some (.string i.s))) (by kernel_rfl) hs0d (fun _ => ?_)
          refine wpAnyH_take (i := 0) (oi := { dst := some 36, op := Go.Op.move (Go.Operand.tmp 4), type := 25, pos := "ref.go:101", after := #[], guard := none }) (v := ?_) rfl (by kernel_rfl) (by kernel_rfl) (by kernel_rfl) (fun _ _ _ h => h) (Or.inl ⟨by rfl, ?hy48⟩) hs0d ?_
          case hy48 =>
            intro u hu
            obtain ⟨u0, u1, u2, u3, u4, u5⟩ := hu
            go_simp
            try with_reducible rfl
          simp only [Act.put, List.setIfInBounds_toArray, List.set_cons_zero, List.set_cons_succ]
          refine wpAnyH_take (i := 1) (oi := { dst := some 37, op := Go.Op.fieldAddr 28 (Go.Operand.tmp 6) 0, type := 0, pos := "ref.go:101", after := #[], guard := none }) (v := ?_) rfl (by kernel_rfl) (by kernel_rfl) (by kernel_rfl) (fun _ _ _ h => h) (Or.inl ⟨by rfl, ?hy49⟩) hs0d ?_
          case hy49 =>
            intro u hu
            obtain ⟨u0, u1, u2, u3, u4, u5⟩ := hu
            go_simp
            try with_reducible rfl
          simp only [Act.put, List.setIfInBounds_toArray, List.set_cons_zero, List.set_cons_succ]
          refine wpAnyH_take (i := 2) (oi := { dst := some 38, op := Go.Op.load 26 (Go.Operand.tmp 37), type := 26, pos := "ref.go:101", after := #[{ on := 1, ground := Go.Ground.data }], guard := none }) (v := ?_) rfl (by kernel_rfl) (by kernel_rfl) (by kernel_rfl) (fun _ _ _ h => h) (Or.inl ⟨by rfl, ?hy50⟩) hs0d ?_
          case hy50 =>
            intro u hu
            obtain ⟨u0, u1, u2, u3, u4, u5⟩ := hu
            go_simp
            try with_reducible rfl
          simp only [Act.put, List.setIfInBounds_toArray, List.set_cons_zero, List.set_cons_succ]
          refine wpAnyH_take (i := 3) (oi := { dst := some 39, op := Go.Op.convert 26 59 (Go.Operand.tmp 38), type := 59, pos := "ref.go:101", after := #[{ on := 2, ground := Go.Ground.data }], guard := none }) (v := ?_) rfl (by kernel_rfl) (by kernel_rfl) (by kernel_rfl) (fun _ _ _ h => h) (Or.inl ⟨by rfl, ?hy51⟩) hs0d ?_
          case hy51 =>
            intro u hu
            obtain ⟨u0, u1, u2, u3, u4, u5⟩ := hu
            go_simp
            try with_reducible rfl
          simp only [Act.put, List.setIfInBounds_toArray, List.set_cons_zero, List.set_cons_succ]
          refine wpAnyH_take (i := 5) (oi := { dst := some 41, op := Go.Op.fieldAddr 28 (Go.Operand.tmp 6) 1, type := 0, pos := "ref.go:101", after := #[], guard := none }) (v := ?_) rfl (by kernel_rfl) (by kernel_rfl) (by kernel_rfl) (fun _ _ _ h => h) (Or.inl ⟨by rfl, ?hy52⟩) hs0d ?_
          case hy52 =>
            intro u hu
            obtain ⟨u0, u1, u2, u3, u4, u5⟩ := hu
            go_simp
            try with_reducible rfl
          simp only [Act.put, List.setIfInBounds_toArray, List.set_cons_zero, List.set_cons_succ]
          refine wpAnyH_take (i := 6) (oi := { dst := some 42, op := Go.Op.load 3 (Go.Operand.tmp 41), type := 3, pos := "ref.go:101", after := #[{ on := 5, ground := Go.Ground.data }], guard := none }) (v := ?_) rfl (by kernel_rfl) (by kernel_rfl) (by kernel_rfl) (fun _ _ _ h => h) (Or.inl ⟨by rfl, ?hy53⟩) hs0d ?_
          case hy53 =>
            intro u hu
            obtain ⟨u0, u1, u2, u3, u4, u5⟩ := hu
            go_simp
            try with_reducible rfl
          simp only [Act.put, List.setIfInBounds_toArray, List.set_cons_zero, List.set_cons_succ]
          refine wpAnyH_take (i := 7) (oi := { dst := some 43, op := Go.Op.convert 3 59 (Go.Operand.tmp 42), type := 59, pos := "ref.go:101", after := #[{ on := 6, ground := Go.Ground.data }], guard := none }) (v := ?_) rfl (by kernel_rfl) (by kernel_rfl) (by kernel_rfl) (fun _ _ _ h => h) (Or.inl ⟨by rfl, ?hy54⟩) hs0d ?_
          case hy54 =>
            intro u hu
            obtain ⟨u0, u1, u2, u3, u4, u5⟩ := hu
            go_simp
            try with_reducible rfl
          simp only [Act.put, List.setIfInBounds_toArray, List.set_cons_zero, List.set_cons_succ]
          refine wpAnyH_ready (rs := [4]) (by kernel_rfl) (by simp) ?_
          refine AllReadyH.cons (o := { dst := some 40, op := Go.Op.call { callee := Go.Callee.value (Go.Operand.func 29), args := #[Go.Operand.tmp 36, Go.Operand.tmp 39], argTypes := #[25, 59] }, type := 25, pos := "ref.go:101", after := #[{ on := 0, ground := Go.Ground.data }, { on := 3, ground := Go.Ground.data }], guard := none }) rfl (fun K hK => ?_) AllReadyH.nil
          go_simp
          try rw [t0]
          refine (refUint_int u4 m0 (i.op : Int) y0.drew (by omega) (by omega) HZ0.out.rd.drew (by omega)).mono ?_
          rintro e y1 ⟨z1, rfl, hz, hb⟩
          have HD1 := hide (show Below y0.heap.size y0 y1 from ⟨hb.os, hb.tape, hb.output, hb.size, hb.block⟩)
          obtain ⟨m1, HM1⟩ := named (m0 ++ U (i.op : Int))
          have hm1 : m1.length ≤ 100000 + 10 := by rw [HM1.out, List.length_append]; have := hU ((i.op : Int)); omega
          rw [← HM1.out] at hz
          have HZ1 := hide (show Own y1 y0.heap.size z1 m1 from hz)
          have HI1 := hide (HI0.out.below HD1.out)
          have hs1 := Cells6 HI1.out
          clear hz hb
          refine hK.out _ _ hs1 (fun _ => ?_)
          clear hK K
          try simp only [Act.put, List.setIfInBounds_toArray, List.set_cons_zero, List.set_cons_succ]
          refine wpAnyH_ready (rs := [8]) (by kernel_rfl) (by simp) ?_
          refine AllReadyH.cons (o := { dst := some 44, op := Go.Op.call { callee := Go.Callee.value (Go.Operand.func 29), args := #[Go.Operand.tmp 40, Go.Operand.tmp 43], argTypes := #[25, 59] }, type := 25, pos := "ref.go:101", after := #[{ on := 4, ground := Go.Ground.data }, { on := 7, ground := Go.Ground.data }, { on := 4, ground := Go.Ground.chain }], guard := none }) rfl (fun K hK => ?_) AllReadyH.nil
          go_simp
          try rw [t1]
          refine (refUint_int z1 m1 i.a y1 (by omega) (by omega) HZ1.out.rd (by omega)).mono ?_
          rintro e y2 ⟨z2, rfl, hz, hb⟩
          have HD2 := hide (show Below y1.heap.size y1 y2 from ⟨hb.os, hb.tape, hb.output, hb.size, hb.block⟩)
          obtain ⟨m2, HM2⟩ := named (m1 ++ U i.a)
          have hm2 : m2.length ≤ 100000 + 20 := by rw [HM2.out, List.length_append]; have := hU (i.a); omega
          rw [← HM2.out] at hz
          have HZ2 := hide (show Own y2 y1.heap.size z2 m2 from hz)
          have HI2 := hide (HI1.out.below HD2.out)
          have hs2 := Cells6 HI2.out
          clear hz hb
          refine hK.out _ _ hs2 (fun _ => ?_)
          clear hK K
          try simp only [Act.put, List.setIfInBounds_toArray, List.set_cons_zero, List.set_cons_succ]
          refine wpAnyH_ready (rs := [9]) (by kernel_rfl) (by simp) ?_
          refine AllReadyH.cons (o := { dst := some 4, op := Go.Op.assign (Go.Operand.tmp 44), type := 25, pos := "ref.go:101", after := #[{ on := 8, ground := Go.Ground.data }, { on := 8, ground := Go.Ground.chain }, { on := 0, ground := Go.Ground.phase }, { on := 1, ground := Go.Ground.phase }, { on := 2, ground := Go.Ground.phase }, { on := 3, ground := Go.Ground.phase }, { on := 4, ground := Go.Ground.phase }, { on := 5, ground := Go.Ground.phase }, { on := 6, ground := Go.Ground.phase }, { on := 7, ground := Go.Ground.phase }, { on := 8, ground := Go.Ground.phase }], guard := none }) rfl (fun K hK => ?_) AllReadyH.nil
          go_simp
          refine hK.out _ _ hs2 (fun _ => ?_)
          clear hK K
          try simp only [Act.put, List.setIfInBounds_toArray, List.set_cons_zero, List.set_cons_succ]
          refine wpAnyH_done (by kernel_rfl) ?_ _
          go_wp2_with fail
          have hs2d : y2.drew.cell? ⟨ib, 0, none⟩ = some (.int .u8 (i.op : Int)) ∧ y2.drew.cell? ⟨ib, 1, none⟩ = some (.int .i64 i.a) ∧ y2.drew.cell? ⟨ib, 2, none⟩ = some (.int .i64 i.b) ∧ y2.drew.cell? ⟨ib, 3, none⟩ = some (.int .i64 i.c) ∧ y2.drew.cell? ⟨ib, 4, none⟩ = some (.int .i64 i.n) ∧ y2.drew.cell? ⟨ib, 5, none⟩ = some (.string i.s) := hs2
          refine wp_region_held_drew (S := (fun w' => w'.cell? ⟨ib, 0, none⟩ = some (.int .u8 (i.op : Int)) ∧ w'.cell? ⟨ib, 1, none⟩ = some (.int .i64 i.a) ∧ w'.cell? ⟨ib, 2, none⟩ = some (.int .i64 i.b) ∧ w'.cell? ⟨ib, 3, none⟩ = some (.int .i64 i.c) ∧ w'.cell? ⟨ib, 4, none⟩ = some (.int .i64 i.n) ∧ w'.cell? ⟨ib, 5, none⟩ = some (.string i.s))) (by kernel_rfl) hs2d (fun _ => ?_)
          refine wpAnyH_take (i := 0) (oi := { dst := some 45, op := Go.Op.move (Go.Operand.tmp 4), type := 25, pos := "ref.go:102", after := #[], guard := none }) (v := ?_) rfl (by kernel_rfl) (by kernel_rfl) (by kernel_rfl) (fun _ _ _ h => h) (Or.inl ⟨by rfl, ?hy58⟩) hs2d ?_
          case hy58 =>
            intro u hu
            obtain ⟨u0, u1, u2, u3, u4, u5⟩ := hu
            go_simp
            try with_reducible rfl
          simp only [Act.put, List.setIfInBounds_toArray, List.set_cons_zero, List.set_cons_succ]
          refine wpAnyH_take (i := 1) (oi := { dst := some 46, op := Go.Op.fieldAddr 28 (Go.Operand.tmp 6) 2, type := 0, pos := "ref.go:102", after := #[], guard := none }) (v := ?_) rfl (by kernel_rfl) (by kernel_rfl) (by kernel_rfl) (fun _ _ _ h => h) (Or.inl ⟨by rfl, ?hy59⟩) hs2d ?_
          case hy59 =>
            intro u hu
            obtain ⟨u0, u1, u2, u3, u4, u5⟩ := hu
            go_simp
            try with_reducible rfl
          simp only [Act.put, List.setIfInBounds_toArray, List.set_cons_zero, List.set_cons_succ]
          refine wpAnyH_take (i := 2) (oi := { dst := some 47, op := Go.Op.load 3 (Go.Operand.tmp 46), type := 3, pos := "ref.go:102", after := #[{ on := 1, ground := Go.Ground.data }], guard := none }) (v := ?_) rfl (by kernel_rfl) (by kernel_rfl) (by kernel_rfl) (fun _ _ _ h => h) (Or.inl ⟨by rfl, ?hy60⟩) hs2d ?_
          case hy60 =>
            intro u hu
            obtain ⟨u0, u1, u2, u3, u4, u5⟩ := hu
            go_simp
            try with_reducible rfl
          simp only [Act.put, List.setIfInBounds_toArray, List.set_cons_zero, List.set_cons_succ]
          refine wpAnyH_take (i := 3) (oi := { dst := some 48, op := Go.Op.convert 3 59 (Go.Operand.tmp 47), type := 59, pos := "ref.go:102", after := #[{ on := 2, ground := Go.Ground.data }], guard := none }) (v := ?_) rfl (by kernel_rfl) (by kernel_rfl) (by kernel_rfl) (fun _ _ _ h => h) (Or.inl ⟨by rfl, ?hy61⟩) hs2d ?_
          case hy61 =>
            intro u hu
            obtain ⟨u0, u1, u2, u3, u4, u5⟩ := hu
            go_simp
            try with_reducible rfl
          simp only [Act.put, List.setIfInBounds_toArray, List.set_cons_zero, List.set_cons_succ]
          refine wpAnyH_take (i := 5) (oi := { dst := some 50, op := Go.Op.fieldAddr 28 (Go.Operand.tmp 6) 3, type := 0, pos := "ref.go:102", after := #[], guard := none }) (v := ?_) rfl (by kernel_rfl) (by kernel_rfl) (by kernel_rfl) (fun _ _ _ h => h) (Or.inl ⟨by rfl, ?hy62⟩) hs2d ?_
          case hy62 =>
            intro u hu
            obtain ⟨u0, u1, u2, u3, u4, u5⟩ := hu
            go_simp
            try with_reducible rfl
          simp only [Act.put, List.setIfInBounds_toArray, List.set_cons_zero, List.set_cons_succ]
          refine wpAnyH_take (i := 6) (oi := { dst := some 51, op := Go.Op.load 3 (Go.Operand.tmp 50), type := 3, pos := "ref.go:102", after := #[{ on := 5, ground := Go.Ground.data }], guard := none }) (v := ?_) rfl (by kernel_rfl) (by kernel_rfl) (by kernel_rfl) (fun _ _ _ h => h) (Or.inl ⟨by rfl, ?hy63⟩) hs2d ?_
          case hy63 =>
            intro u hu
            obtain ⟨u0, u1, u2, u3, u4, u5⟩ := hu
            go_simp
            try with_reducible rfl
          simp only [Act.put, List.setIfInBounds_toArray, List.set_cons_zero, List.set_cons_succ]
          refine wpAnyH_take (i := 7) (oi := { dst := some 52, op := Go.Op.convert 3 59 (Go.Operand.tmp 51), type := 59, pos := "ref.go:102", after := #[{ on := 6, ground := Go.Ground.data }], guard := none }) (v := ?_) rfl (by kernel_rfl) (by kernel_rfl) (by kernel_rfl) (fun _ _ _ h => h) (Or.inl ⟨by rfl, ?hy64⟩) hs2d ?_
          case hy64 =>
            intro u hu
            obtain ⟨u0, u1, u2, u3, u4, u5⟩ := hu
            go_simp
            try with_reducible rfl
          simp only [Act.put, List.setIfInBounds_toArray, List.set_cons_zero, List.set_cons_succ]
          refine wpAnyH_ready (rs := [4]) (by kernel_rfl) (by simp) ?_
          refine AllReadyH.cons (o := { dst := some 49, op := Go.Op.call { callee := Go.Callee.value (Go.Operand.func 29), args := #[Go.Operand.tmp 45, Go.Operand.tmp 48], argTypes := #[25, 59] }, type := 25, pos := "ref.go:102", after := #[{ on := 0, ground := Go.Ground.data }, { on := 3, ground := Go.Ground.data }], guard := none }) rfl (fun K hK => ?_) AllReadyH.nil
          go_simp
          try rw [t2]
          refine (refUint_int z2 m2 i.b y2.drew (by omega) (by omega) HZ2.out.rd.drew (by omega)).mono ?_
          rintro e y3 ⟨z3, rfl, hz, hb⟩
          have HD3 := hide (show Below y2.heap.size y2 y3 from ⟨hb.os, hb.tape, hb.output, hb.size, hb.block⟩)
          obtain ⟨m3, HM3⟩ := named (m2 ++ U i.b)
          have hm3 : m3.length ≤ 100000 + 30 := by rw [HM3.out, List.length_append]; have := hU (i.b); omega
          rw [← HM3.out] at hz
          have HZ3 := hide (show Own y3 y2.heap.size z3 m3 from hz)
          have HI3 := hide (HI2.out.below HD3.out)
          have hs3 := Cells6 HI3.out
          clear hz hb
          refine hK.out _ _ hs3 (fun _ => ?_)
          clear hK K
          try simp only [Act.put, List.setIfInBounds_toArray, List.set_cons_zero, List.set_cons_succ]
          refine wpAnyH_ready (rs := [8]) (by kernel_rfl) (by simp) ?_
          refine AllReadyH.cons (o := { dst := some 53, op := Go.Op.call { callee := Go.Callee.value (Go.Operand.func 29), args := #[Go.Operand.tmp 49, Go.Operand.tmp 52], argTypes := #[25, 59] }, type := 25, pos := "ref.go:102", after := #[{ on := 4, ground := Go.Ground.data }, { on := 7, ground := Go.Ground.data }, { on := 4, ground := Go.Ground.chain }], guard := none }) rfl (fun K hK => ?_) AllReadyH.nil
          go_simp
          try rw [t3]
          refine (refUint_int z3 m3 i.c y3 (by omega) (by omega) HZ3.out.rd (by omega)).mono ?_
          rintro e y4 ⟨z4, rfl, hz, hb⟩
          have HD4 := hide (show Below y3.heap.size y3 y4 from ⟨hb.os, hb.tape, hb.output, hb.size, hb.block⟩)
          obtain ⟨m4, HM4⟩ := named (m3 ++ U i.c)
          have hm4 : m4.length ≤ 100000 + 40 := by rw [HM4.out, List.length_append]; have := hU (i.c); omega
          rw [← HM4.out] at hz
          have HZ4 := hide (show Own y4 y3.heap.size z4 m4 from hz)
          have HI4 := hide (HI3.out.below HD4.out)
          have hs4 := Cells6 HI4.out
          clear hz hb
          refine hK.out _ _ hs4 (fun _ => ?_)
          clear hK K
          try simp only [Act.put, List.setIfInBounds_toArray, List.set_cons_zero, List.set_cons_succ]
          refine wpAnyH_ready (rs := [9]) (by kernel_rfl) (by simp) ?_
          refine AllReadyH.cons (o := { dst := some 4, op := Go.Op.assign (Go.Operand.tmp 53), type := 25, pos := "ref.go:102", after := #[{ on := 8, ground := Go.Ground.data }, { on := 8, ground := Go.Ground.chain }, { on := 0, ground := Go.Ground.phase }, { on := 1, ground := Go.Ground.phase }, { on := 2, ground := Go.Ground.phase }, { on := 3, ground := Go.Ground.phase }, { on := 4, ground := Go.Ground.phase }, { on := 5, ground := Go.Ground.phase }, { on := 6, ground := Go.Ground.phase }, { on := 7, ground := Go.Ground.phase }, { on := 8, ground := Go.Ground.phase }], guard := none }) rfl (fun K hK => ?_) AllReadyH.nil
          go_simp
          refine hK.out _ _ hs4 (fun _ => ?_)
          clear hK K
          try simp only [Act.put, List.setIfInBounds_toArray, List.set_cons_zero, List.set_cons_succ]
          refine wpAnyH_done (by kernel_rfl) ?_ _
          go_wp2_with fail
          have hs4d : y4.drew.cell? ⟨ib, 0, none⟩ = some (.int .u8 (i.op : Int)) ∧ y4.drew.cell? ⟨ib, 1, none⟩ = some (.int .i64 i.a) ∧ y4.drew.cell? ⟨ib, 2, none⟩ = some (.int .i64 i.b) ∧ y4.drew.cell? ⟨ib, 3, none⟩ = some (.int .i64 i.c) ∧ y4.drew.cell? ⟨ib, 4, none⟩ = some (.int .i64 i.n) ∧ y4.drew.cell? ⟨ib, 5, none⟩ = some (.string i.s) := hs4
          have hcv := conv_run i.s
          refine wp_region_held_drew (S := (fun w' => w'.cell? ⟨ib, 0, none⟩ = some (.int .u8 (i.op : Int)) ∧ w'.cell? ⟨ib, 1, none⟩ = some (.int .i64 i.a) ∧ w'.cell? ⟨ib, 2, none⟩ = some (.int .i64 i.b) ∧ w'.cell? ⟨ib, 3, none⟩ = some (.int .i64 i.c) ∧ w'.cell? ⟨ib, 4, none⟩ = some (.int .i64 i.n) ∧ w'.cell? ⟨ib, 5, none⟩ = some (.string i.s))) (by kernel_rfl) hs4d (fun _ => ?_)
          refine wpAnyH_take (i := 0) (oi := { dst := some 54, op := Go.Op.move (Go.Operand.tmp 4), type := 25, pos := "ref.go:103", after := #[], guard := none }) (v := ?_) rfl (by kernel_rfl) (by kernel_rfl) (by kernel_rfl) (fun _ _ _ h => h) (Or.inl ⟨by rfl, ?hy68⟩) hs4d ?_
          case hy68 =>
            intro u hu
            obtain ⟨u0, u1, u2, u3, u4, u5⟩ := hu
            go_simp
            try with_reducible rfl
          simp only [Act.put, List.setIfInBounds_toArray, List.set_cons_zero, List.set_cons_succ]
          refine wpAnyH_take (i := 1) (oi := { dst := some 55, op := Go.Op.fieldAddr 28 (Go.Operand.tmp 6) 4, type := 0, pos := "ref.go:103", after := #[], guard := none }) (v := ?_) rfl (by kernel_rfl) (by kernel_rfl) (by kernel_rfl) (fun _ _ _ h => h) (Or.inl ⟨by rfl, ?hy69⟩) hs4d ?_
          case hy69 =>
            intro u hu
            obtain ⟨u0, u1, u2, u3, u4, u5⟩ := hu
            go_simp
            try with_reducible rfl
          simp only [Act.put, List.setIfInBounds_toArray, List.set_cons_zero, List.set_cons_succ]
          refine wpAnyH_take (i := 2) (oi := { dst := some 56, op := Go.Op.load 2 (Go.Operand.tmp 55), type := 2, pos := "ref.go:103", after := #[{ on := 1, ground := Go.Ground.data }], guard := none }) (v := ?_) rfl (by kernel_rfl) (by kernel_rfl) (by kernel_rfl) (fun _ _ _ h => h) (Or.inl ⟨by rfl, ?hy70⟩) hs4d ?_
          case hy70 =>
            intro u hu
            obtain ⟨u0, u1, u2, u3, u4, u5⟩ := hu
            go_simp
            try with_reducible rfl
          simp only [Act.put, List.setIfInBounds_toArray, List.set_cons_zero, List.set_cons_succ]
          refine wpAnyH_take (i := 4) (oi := { dst := some 58, op := Go.Op.fieldAddr 28 (Go.Operand.tmp 6) 5, type := 0, pos := "ref.go:103", after := #[], guard := none }) (v := ?_) rfl (by kernel_rfl) (by kernel_rfl) (by kernel_rfl) (fun _ _ _ h => h) (Or.inl ⟨by rfl, ?hy71⟩) hs4d ?_
          case hy71 =>
            intro u hu
            obtain ⟨u0, u1, u2, u3, u4, u5⟩ := hu
            go_simp
            try with_reducible rfl
          simp only [Act.put, List.setIfInBounds_toArray, List.set_cons_zero, List.set_cons_succ]
          refine wpAnyH_take (i := 5) (oi := { dst := some 59, op := Go.Op.load 9 (Go.Operand.tmp 58), type := 9, pos := "ref.go:103", after := #[{ on := 4, ground := Go.Ground.data }], guard := none }) (v := ?_) rfl (by kernel_rfl) (by kernel_rfl) (by kernel_rfl) (fun _ _ _ h => h) (Or.inl ⟨by rfl, ?hy72⟩) hs4d ?_
          case hy72 =>
            intro u hu
            obtain ⟨u0, u1, u2, u3, u4, u5⟩ := hu
            go_simp
            try with_reducible rfl
          simp only [Act.put, List.setIfInBounds_toArray, List.set_cons_zero, List.set_cons_succ]
          refine wpAnyH_ready (rs := [3, 6]) (by kernel_rfl) (by simp) ?_
          refine AllReadyH.cons (o := { dst := some 57, op := Go.Op.call { callee := Go.Callee.value (Go.Operand.func 30), args := #[Go.Operand.tmp 54, Go.Operand.tmp 56], argTypes := #[25, 2] }, type := 25, pos := "ref.go:103", after := #[{ on := 0, ground := Go.Ground.data }, { on := 2, ground := Go.Ground.data }], guard := none }) rfl (fun K hK => ?b73_3) (AllReadyH.cons (o := { dst := some 60, op := Go.Op.convert 9 25 (Go.Operand.tmp 59), type := 25, pos := "ref.go:103", after := #[{ on := 5, ground := Go.Ground.data }], guard := none }) rfl (fun K hK => ?b73_6) AllReadyH.nil)
          case' b73_3 =>
            go_simp
            refine (refInt_any z4 m4 i.n y4.drew (by omega) (by omega) HZ4.out.rd.drew (by omega)).mono ?_
            rintro e y5 ⟨z5, rfl, hz, hb⟩
            have HD5 := hide (show Below y4.heap.size y4 y5 from ⟨hb.os, hb.tape, hb.output, hb.size, hb.block⟩)
            obtain ⟨m5, HM5⟩ := named (m4 ++ U (foldI i.n))
            have hm5 : m5.length ≤ 100000 + 50 := by rw [HM5.out, List.length_append]; have := hU ((foldI i.n)); omega
            rw [← HM5.out] at hz
            have HZ5 := hide (show Own y5 y4.heap.size z5 m5 from hz)
            have HI5 := hide (HI4.out.below HD5.out)
            have hs5 := Cells6 HI5.out
            clear hz hb
            refine hK.out _ _ hs5 (fun _ => ?_)
            clear hK K
            try simp only [Act.put, List.setIfInBounds_toArray, List.set_cons_zero, List.set_cons_succ]
            refine wpAnyH_ready (rs := [6]) (by kernel_rfl) (by simp) ?_
            refine AllReadyH.cons (o := { dst := some 60, op := Go.Op.convert 9 25 (Go.Operand.tmp 59), type := 25, pos := "ref.go:103", after := #[{ on := 5, ground := Go.Ground.data }], guard := none }) rfl (fun K hK => ?_) AllReadyH.nil
            go_simp
            have HS5 := hide (conv_rd i.s y5 (by omega))
            have HDb := hide (below_bytesWorld y5 i.s)
            have hsb := Cells6 (HI5.out.below HDb.out)
            refine hK.out _ _ hsb (fun _ => ?_)
            clear hK K
            try simp only [Act.put, List.setIfInBounds_toArray, List.set_cons_zero, List.set_cons_succ]
            refine wpAnyH_ready (rs := [7]) (by kernel_rfl) (by simp) ?_
            refine AllReadyH.cons (o := { dst := some 61, op := Go.Op.call { callee := Go.Callee.value (Go.Operand.func 28), args := #[Go.Operand.tmp 57, Go.Operand.tmp 60], argTypes := #[25, 25] }, type := 25, pos := "ref.go:103", after := #[{ on := 3, ground := Go.Ground.data }, { on := 6, ground := Go.Ground.data }, { on := 3, ground := Go.Ground.chain }], guard := none }) rfl (fun K hK => ?_) AllReadyH.nil
            go_simp
            refine (refBlob_any z5 _ m5 (nm i.s) (Lib.bytesWorld y5 5 i.s) (HZ5.out.rd.below HDb.out) HS5.out (by have := nm_len i.s; omega)).mono ?_
            rintro e y6 ⟨z6, rfl, hz, hb⟩
            have hz := hz.mono HDb.out.size
            have hb := below_call HDb.out hb
            have HD6 := hide (show Below y5.heap.size y5 y6 from hb)
            have HI6 := hide (HI5.out.below HD6.out)
            have hs6 := Cells6 HI6.out
            have HZ6 := hide (show Own y6 y5.heap.size z6 _ from hz)
            clear hz hb
            refine hK.out _ _ hs6 (fun _ => ?_)
            clear hK K
            try simp only [Act.put, List.setIfInBounds_toArray, List.set_cons_zero, List.set_cons_succ]
            refine wpAnyH_ready (rs := [8]) (by kernel_rfl) (by simp) ?_
            refine AllReadyH.cons (o := { dst := some 4, op := Go.Op.assign (Go.Operand.tmp 61), type := 25, pos := "ref.go:103", after := #[{ on := 7, ground := Go.Ground.data }, { on := 7, ground := Go.Ground.chain }, { on := 0, ground := Go.Ground.phase }, { on := 1, ground := Go.Ground.phase }, { on := 2, ground := Go.Ground.phase }, { on := 3, ground := Go.Ground.phase }, { on := 4, ground := Go.Ground.phase }, { on := 5, ground := Go.Ground.phase }, { on := 6, ground := Go.Ground.phase }, { on := 7, ground := Go.Ground.phase }], guard := none }) rfl (fun K hK => ?_) AllReadyH.nil
            go_simp
            refine hK.out _ _ hs6 (fun _ => ?_)
            clear hK K
            try simp only [Act.put, List.setIfInBounds_toArray, List.set_cons_zero, List.set_cons_succ]
            refine wpAnyH_done (by kernel_rfl) ?_ _
            go_wp2
            go_roundw
            case rel =>
              have HBF := hide (below_call HQY.out (below_call (below_call (below_call (below_call (below_call HD1.out HD2.out) HD3.out) HD4.out) HD5.out) HD6.out))
              refine ⟨k + 1, by omega, by go_num, ?_, HBF.out⟩
              show Own _ _ _ _
              have e : headL ⟨name, regs, code⟩ ++ codeL (code.take (k + 1)) = m5 ++ (U (nm i.s).length ++ nm i.s) := by
                rw [HCS.out, HM5.out, HM4.out, HM3.out, HM2.out, HM1.out, HM0.out]
                simp [insL, blobL]
              rw [e]
              exact HZ6.out.mono (below_call HQY.out (below_call (below_call (below_call (below_call HD1.out HD2.out) HD3.out) HD4.out) HD5.out)).size
            case measure => simp [intOf]; omega
          case' b73_6 =>
            go_simp
            have hsb := Cells6 (HI4.out.below (below_bytesWorld y4 i.s))
            have hsb : (Lib.bytesWorld y4.drew 5 i.s).cell? ⟨ib, 0, none⟩ = some (.int .u8 (i.op : Int)) ∧ (Lib.bytesWorld y4.drew 5 i.s).cell? ⟨ib, 1, none⟩ = some (.int .i64 i.a) ∧ (Lib.bytesWorld y4.drew 5 i.s).cell? ⟨ib, 2, none⟩ = some (.int .i64 i.b) ∧ (Lib.bytesWorld y4.drew 5 i.s).cell? ⟨ib, 3, none⟩ = some (.int .i64 i.c) ∧ (Lib.bytesWorld y4.drew 5 i.s).cell? ⟨ib, 4, none⟩ = some (.int .i64 i.n) ∧ (Lib.bytesWorld y4.drew 5 i.s).cell? ⟨ib, 5, none⟩ = some (.string i.s) := Cells6 ((C6.below HI4.out (Below.refl _ _).drew).below (below_bytesWorld y4.drew i.s))
            refine hK.out _ _ hsb (fun _ => ?_)
            clear hK K
            try simp only [Act.put, List.setIfInBounds_toArray, List.set_cons_zero, List.set_cons_succ]
            refine wpAnyH_ready (rs := [3]) (by kernel_rfl) (by simp) ?_
            refine AllReadyH.cons (o := { dst := some 57, op := Go.Op.call { callee := Go.Callee.value (Go.Operand.func 30), args := #[Go.Operand.tmp 54, Go.Operand.tmp 56], argTypes := #[25, 2] }, type := 25, pos := "ref.go:103", after := #[{ on := 0, ground := Go.Ground.data }, { on := 2, ground := Go.Ground.data }], guard := none }) rfl (fun K hK => ?_) AllReadyH.nil
            go_simp
            refine (refInt_any z4 m4 i.n (Lib.bytesWorld y4.drew 5 i.s) (by omega) (by omega) (HZ4.out.rd.drew.below (below_bytesWorld y4.drew i.s)) (by omega)).mono ?_
            rintro e y5 ⟨z5, rfl, hz, hb⟩
            have HS5 := hide ((conv_rd i.s y4.drew (by omega)).below hb)
            have hb := below_call (below_bytesWorld y4.drew i.s) hb
            have hz := hz.mono (below_bytesWorld y4.drew i.s).size
            have HD5 := hide (show Below y4.heap.size y4 y5 from ⟨hb.os, hb.tape, hb.output, hb.size, hb.block⟩)
            obtain ⟨m5, HM5⟩ := named (m4 ++ U (foldI i.n))
            have hm5 : m5.length ≤ 100000 + 50 := by rw [HM5.out, List.length_append]; have := hU ((foldI i.n)); omega
            rw [← HM5.out] at hz
            have HZ5 := hide (show Own y5 y4.heap.size z5 m5 from hz)
            have HI5 := hide (HI4.out.below HD5.out)
            have hs5 := Cells6 HI5.out
            clear hz hb
            refine hK.out _ _ hs5 (fun _ => ?_)
            clear hK K
            try simp only [Act.put, List.setIfInBounds_toArray, List.set_cons_zero, List.set_cons_succ]
            refine wpAnyH_ready (rs := [7]) (by kernel_rfl) (by simp) ?_
            refine AllReadyH.cons (o := { dst := some 61, op := Go.Op.call { callee := Go.Callee.value (Go.Operand.func 28), args := #[Go.Operand.tmp 57, Go.Operand.tmp 60], argTypes := #[25, 25] }, type := 25, pos := "ref.go:103", after := #[{ on := 3, ground := Go.Ground.data }, { on := 6, ground := Go.Ground.data }, { on := 3, ground := Go.Ground.chain }], guard := none }) rfl (fun K hK => ?_) AllReadyH.nil
            go_simp
            refine (refBlob_any z5 _ m5 (nm i.s) y5 HZ5.out.rd HS5.out (by have := nm_len i.s; omega)).mono ?_
            rintro e y6 ⟨z6, rfl, hz, hb⟩
            have HD6 := hide (show Below y5.heap.size y5 y6 from hb)
            have HI6 := hide (HI5.out.below HD6.out)
            have hs6 := Cells6 HI6.out
            have HZ6 := hide (show Own y6 y5.heap.size z6 _ from hz)
            clear hz hb
            refine hK.out _ _ hs6 (fun _ => ?_)
            clear hK K
            try simp only [Act.put, List.setIfInBounds_toArray, List.set_cons_zero, List.set_cons_succ]
            refine wpAnyH_ready (rs := [8]) (by kernel_rfl) (by simp) ?_
            refine AllReadyH.cons (o := { dst := some 4, op := Go.Op.assign (Go.Operand.tmp 61), type := 25, pos := "ref.go:103", after := #[{ on := 7, ground := Go.Ground.data }, { on := 7, ground := Go.Ground.chain }, { on := 0, ground := Go.Ground.phase }, { on := 1, ground := Go.Ground.phase }, { on := 2, ground := Go.Ground.phase }, { on := 3, ground := Go.Ground.phase }, { on := 4, ground := Go.Ground.phase }, { on := 5, ground := Go.Ground.phase }, { on := 6, ground := Go.Ground.phase }, { on := 7, ground := Go.Ground.phase }], guard := none }) rfl (fun K hK => ?_) AllReadyH.nil
            go_simp
            refine hK.out _ _ hs6 (fun _ => ?_)
            clear hK K
            try simp only [Act.put, List.setIfInBounds_toArray, List.set_cons_zero, List.set_cons_succ]
            refine wpAnyH_done (by kernel_rfl) ?_ _
            go_wp2
            go_roundw
            case rel =>
              have HBF := hide (below_call HQY.out (below_call (below_call (below_call (below_call (below_call HD1.out HD2.out) HD3.out) HD4.out) HD5.out) HD6.out))
              refine ⟨k + 1, by omega, by go_num, ?_, HBF.out⟩
              show Own _ _ _ _
              have e : headL ⟨name, regs, code⟩ ++ codeL (code.take (k + 1)) = m5 ++ (U (nm i.s).length ++ nm i.s) := by
                rw [HCS.out, HM5.out, HM4.out, HM3.out, HM2.out, HM1.out, HM0.out]
                simp [insL, blobL]
              rw [e]
              exact HZ6.out.mono (below_call HQY.out (below_call (below_call (below_call (below_call HD1.out HD2.out) HD3.out) HD4.out) HD5.out)).size
            case measure => simp [intOf]; omega
        · have hkn2 : n = k := by omega
          subst hkn2
          have hfull : code.take n = code := List.take_of_length_le (by rw [HN.out]; exact Nat.le_refl _)
          rw [hfull] at HO
          have hb8 := below_call HB1.out HQR.out
          have HOF := hide HO.out
          go_wp2
          refine bodyPost_ret (v := .tuple #[u4, .int .i64 0]) (by simp [results, Tryd.results11, go_sem]) rfl ?_
          exact ⟨_, by rw [HE.out, errP, HOK.out]; rfl, by rw [HBR.out]; exact HOF.out.mono HB1.out.size, hb8⟩
end Go.Proofs.YtpiiehenmkinaaaDoor

/-
  The contract of the document's GetUint. Own work.
-/
namespace Go.Proofs.YtpiiehenmkinaaaDoor
open Go.RowKit

def byt (l : List UInt8) (j : Nat) : Nat := (l.getD j 0).toNat
theorem byt_lt (l : List UInt8) (j : Nat) : byt l j < 256 := UInt8.toNat_lt _
theorem byt_eq (l : List UInt8) (j : Nat) (h : j < l.length) : byt l j = (l[j]).toNat := by
  unfold byt
  rw [List.getD_eq_getElem?_getD, List.getElem?_eq_getElem h]
  rfl
/-- what the first m sevens come to -/
def val (l : List UInt8) (q : Nat) : Nat → Nat
  | 0 => 0
  | m + 1 => val l q m + byt l (q + m) % 128 * 2 ^ (7 * m)
theorem rdU_skip (p q k : Nat) (l : List UInt8) (hk : k ≤ 9) (h : ∀ j, j < k → q + j < l.length ∧ 127 < byt l (q + j)) : rdU p 0 0 (l.drop q) = rdU p k (val l q k) (l.drop (q + k)) := by
  induction k with
  | zero => rfl
  | succ k ih =>
    rw [ih (by omega) (fun j hj => h j (by omega))]
    have hk2 := h k (by omega)
    rw [drop_at l (q + k) hk2.1, rdU_cons _ _ _ _ _ (by omega)]
    rw [byt_eq l _ hk2.1] at hk2
    rw [if_neg (by
      have h1 : ((k : Int) == 9) = false := by rw [beq_eq_false_iff_ne]; omega
      have h2 : (((l[q + k]'hk2.1).toNat : Int) != 0) = true := by rw [bne_iff_ne]; omega
      simp only [mayB, h1, h2]
      simp), if_neg (by omega)]
    have e := byt_eq l _ hk2.1
    exact congrArg (fun z => rdU p (k + 1) (val l q k + z % 128 * 2 ^ (7 * k)) (l.drop (q + k + 1))) e.symm
theorem rdU_ok (p q k : Nat) (l : List UInt8) (hk : k ≤ 9) (h : ∀ j, j < k → q + j < l.length ∧ 127 < byt l (q + j)) (hq : q + k < l.length) (hx : byt l (q + k) < 128) (h9 : k = 9 → byt l (q + k) ≤ 1) (h0 : byt l (q + k) = 0 → k = 0) :
    rdU p 0 0 (l.drop q) = (val l q (k + 1), p + k + 1, 0) := by
  rw [rdU_skip p q k l hk h, drop_at l (q + k) hq, rdU_cons _ _ _ _ _ (by omega)]
  have e := byt_eq l _ hq
  rw [← e, val, if_neg (by
      rw [Bool.not_eq_false]
      simp only [mayB, Bool.and_eq_true, Bool.not_eq_true', Bool.and_eq_false_iff, beq_eq_false_iff_ne, decide_eq_false_iff_not, Bool.or_eq_true, bne_iff_ne, beq_iff_eq]
      omega), if_pos hx]
theorem rdU_bad (p q k : Nat) (l : List UInt8) (hk : k ≤ 9) (h : ∀ j, j < k → q + j < l.length ∧ 127 < byt l (q + j)) (hq : q + k < l.length) (hx : k = 9 ∧ 1 < byt l (q + k) ∨ byt l (q + k) = 0 ∧ 0 < k) :
    rdU p 0 0 (l.drop q) = (0, 0, 10) := by
  rw [rdU_skip p q k l hk h, drop_at l (q + k) hq, rdU_cons _ _ _ _ _ (by omega)]
  have e := byt_eq l _ hq
  rw [← e, if_pos (by
      rw [← Bool.not_eq_true]
      simp only [mayB, Bool.and_eq_true, Bool.not_eq_true', Bool.and_eq_false_iff, beq_eq_false_iff_ne, decide_eq_false_iff_not, Bool.or_eq_true, bne_iff_ne, beq_iff_eq]
      omega)]
theorem rdU_none (p q k : Nat) (l : List UInt8) (hk : k ≤ 9) (h : ∀ j, j < k → q + j < l.length ∧ 127 < byt l (q + j)) (hq : l.length ≤ q + k) :
    rdU p 0 0 (l.drop q) = (0, 0, 11) := by
  rw [rdU_skip p q k l hk h, List.drop_eq_nil_of_le hq, rdU]

set_option maxRecDepth 100000 in
set_option maxHeartbeats 2000000 in
theorem refGetUint_in (v : Value) (l : List UInt8) (p : Nat) (w : World) (hrd : Rd w v l) (hp : p ≤ l.length) (hl : l.length ≤ 140737488355328) :
    Calls Tryd.prog 57 #[v, .int .i64 p] w fun e w' => e = .returned (.tuple #[.int .u64 (rdU p 0 0 (l.drop p)).1, .int .i64 (rdU p 0 0 (l.drop p)).2.1, .int .i64 (rdU p 0 0 (l.drop p)).2.2]) ∧ w = w' := by
  rcases hrd.cases with ⟨rfl, ao, cap, rfl, h1, h2⟩ | ⟨b, off, cap, rfl, h1, h2, h3, h4, h5⟩
  · have hp0 : p = 0 := by simp at hp; exact hp
    subst hp0
    clear h1 h2 hrd
    go_enter Tryd.func57, Tryd.ntmps57
    go_wp2
    refine wp_loop_rounds 1 ?_
    rw [rounds_succ]
    go_wp2
    go_ret3
    exact ⟨rfl, rfl⟩
  · have HC : Hid (∀ j, j < l.length → w.cell? ⟨b, off + j, none⟩ = some (.int .u8 (byt l j : Int))) := fun j hj => by
      rw [byt_eq l j hj]
      exact h5 j hj
    have HLT : Hid _ := rdU_lt p 0 0 (l.drop p) (by omega) (by decide)
    have HN : Hid _ := rdU_none p p
    have HB : Hid _ := rdU_bad p p
    have HO : Hid _ := rdU_ok p p
    obtain ⟨n, HNN⟩ := named l.length
    rw [← HNN.out] at hp hl h1 h2 ⊢
    obtain ⟨R, HR⟩ := named (rdU p 0 0 (l.drop p))
    rw [← HR.out] at HLT ⊢
    clear h5 hrd
    unfold maxLen at h3
    have hp' : ¬ ((n : Int) < p) := by omega
    go_enter Tryd.func57, Tryd.ntmps57
    go_wp2
    go_loop [7] (fun iv => ∃ k : Nat, k ≤ 10 ∧ p + k ≤ n ∧ iv = .int .i64 k ∧ Hid (∀ j, j < k → p + j < l.length ∧ 127 < byt l (p + j))) (fun iv => 10 - (intOf iv).toNat)
    case atStart => exact ⟨0, by omega, by omega, rfl, fun j hj => by omega⟩
    case round =>
      obtain ⟨k, hk, hkn, rfl, HJ⟩ := hrel
      by_cases hlt : p + k < n
      · have hltI : (p : Int) + k < n := by omega
        have hne : ¬ (p : Int) + k = n := by omega
        have hc := HC.out (p + k) (by rw [← HNN.out]; exact hlt)
        have hx8 := byt_lt l (p + k)
        obtain ⟨x, HX⟩ := named (byt l (p + k))
        rw [← HX.out] at hc hx8
        by_cases hk10 : k < 10
        · have hk10I : (k : Int) < 10 := by omega
          have hk10n : ¬ (k : Int) = 10 := by omega
          by_cases hx : 127 < x
          · have hxI : (127 : Int) < x := by omega
            go_wp2
            go_round
            case rel =>
              refine ⟨k + 1, by omega, by omega, by go_num, fun j hj => ?_⟩
              by_cases e : j = k
              · subst e
                rw [← HX.out, ← HNN.out]
                exact ⟨hlt, hx⟩
              · exact HJ.out j (by omega)
            case measure => first | (simp [intOf]; done) | (simp [intOf]; omega)
          · have hxI : ¬ (127 : Int) < x := by omega
            by_cases hbd : k = 9 ∧ 1 < x ∨ x = 0 ∧ 0 < k
            · have hbad := HB.out k l (by omega) HJ.out (by rw [← HNN.out]; exact hlt) (by rw [← HX.out]; exact hbd)
              rw [← HR.out] at hbad
              have HBAD : Hid _ := hbad
              clear hbad
              by_cases h9 : k = 9
              · subst h9
                by_cases hx1 : 1 < x
                · have hx1I : (1 : Int) < x := by omega
                  clear hbd
                  go_wp2
                  go_ret3
                  exact ⟨by rw [HBAD.out]; rfl, rfl⟩
                · obtain rfl : x = 0 := by omega
                  clear hbd
                  go_wp2
                  go_ret3
                  exact ⟨by rw [HBAD.out]; rfl, rfl⟩
              · obtain rfl : x = 0 := by omega
                have h9I : ¬ (k : Int) = 9 := by omega
                have h0I : (0 : Int) < k := by omega
                clear hbd
                go_wp2
                go_ret3
                exact ⟨by rw [HBAD.out]; rfl, rfl⟩
            · have hok := HO.out k l (by omega) HJ.out (by rw [← HNN.out]; exact hlt) (by rw [← HX.out]; omega) (by rw [← HX.out]; omega) (by rw [← HX.out]; omega)
              rw [← HR.out] at hok
              have HOK : Hid _ := hok
              have HV : Hid (val l p (k + 1) < 18446744073709551616) := by
                have := HLT.out
                rw [hok] at this
                exact this
              have HCK : Hid (∀ m, m < k + 1 → p + m < l.length) := fun m hm => by rw [← HNN.out]; omega
              obtain ⟨V, HVV⟩ := named (val l p (k + 1))
              rw [← HVV.out] at HV HOK
              clear hok
              by_cases h9 : k = 9
              · subst h9
                have hx1I : ¬ (1 : Int) < x := by omega
                have hx0I : ¬ (x : Int) = 0 := by omega
                clear hbd
                go_wp2
                go_loop [8, 9] (fun nv iv => ∃ m a : Nat, m ≤ 9 + 1 ∧ iv = .int .i64 ((m : Int) - 1) ∧ nv = .int .u64 a ∧ Hid (val l p m + a * 2 ^ (7 * m) = V)) (fun _ iv => (intOf iv + 1).toNat)
                case atStart => exact ⟨9 + 1, 0, by omega, by simp, rfl, by rw [HVV.out]; show val l p (9 + 1) + 0 * 2 ^ (7 * (9 + 1)) = val l p (9 + 1); omega⟩
                case round =>
                  obtain ⟨m, a, hm, rfl, rfl, HS⟩ := hrel
                  cases m with
                  | zero =>
                    have haV : a = V := by
                      have := HS.out
                      rw [val] at this
                      omega
                    subst haV
                    go_wp2
                    go_ret3
                    exact ⟨by rw [HOK.out]; exact ret3 rfl (by go_num) rfl, rfl⟩
                  | succ m =>
                    have hmm : ((m + 1 : Nat) : Int) - 1 = (m : Int) := by omega
                    have hc2 := HC.out (p + m) (HCK.out m (by omega))
                    have hy8 := byt_lt l (p + m)
                    have hst : val l p m + (128 * a + byt l (p + m) % 128) * 2 ^ (7 * m) = V := by
                      rw [← HS.out, val, show 7 * (m + 1) = 7 * m + 7 by omega, Nat.pow_add, Nat.add_mul, Nat.add_assoc]
                      congr 1
                      rw [Nat.add_comm, Nat.mul_comm 128 a, Nat.mul_assoc, Nat.mul_comm 128]
                    obtain ⟨y, HY⟩ := named (byt l (p + m))
                    rw [← HY.out] at hc2 hy8 hst
                    have hle : 128 * a + y % 128 ≤ V := by
                      have h1 : (128 * a + y % 128) * 1 ≤ (128 * a + y % 128) * 2 ^ (7 * m) := Nat.mul_le_mul_left _ (Nat.two_pow_pos _)
                      omega
                    have hVV := HV.out
                    have hpm : (p : Int) + (m : Int) < n := by omega
                    have hpmN : p + m < n := by omega
                    have HS2 : Hid _ := hst
                    rw [hmm]
                    clear hst hmm
                    go_wp2
                    go_round
                    case rel => exact ⟨m, 128 * a + y % 128, by omega, by go_num, by go_num, HS2.out⟩
                    case measure => first | (simp [intOf]; done) | (simp [intOf]; omega)
              · have h9I : ¬ (k : Int) = 9 := by omega
                by_cases h0 : k = 0
                · subst h0
                  clear hbd
                  simp only [Nat.add_zero, Int.add_zero, Int.natCast_zero] at hc hltI hne hlt
                  go_wp2
                  go_loop [8, 9] (fun nv iv => ∃ m a : Nat, m ≤ 0 + 1 ∧ iv = .int .i64 ((m : Int) - 1) ∧ nv = .int .u64 a ∧ Hid (val l p m + a * 2 ^ (7 * m) = V)) (fun _ iv => (intOf iv + 1).toNat)
                  case atStart => exact ⟨0 + 1, 0, by omega, by simp, rfl, by rw [HVV.out]; show val l p (0 + 1) + 0 * 2 ^ (7 * (0 + 1)) = val l p (0 + 1); omega⟩
                  case round =>
                    obtain ⟨m, a, hm, rfl, rfl, HS⟩ := hrel
                    cases m with
                    | zero =>
                      have haV : a = V := by
                        have := HS.out
                        rw [val] at this
                        omega
                      subst haV
                      go_wp2
                      go_ret3
                      exact ⟨by rw [HOK.out]; exact ret3 rfl (by go_num) rfl, rfl⟩
                    | succ m =>
                      have hmm : ((m + 1 : Nat) : Int) - 1 = (m : Int) := by omega
                      have hc2 := HC.out (p + m) (HCK.out m (by omega))
                      have hy8 := byt_lt l (p + m)
                      have hst : val l p m + (128 * a + byt l (p + m) % 128) * 2 ^ (7 * m) = V := by
                        rw [← HS.out, val, show 7 * (m + 1) = 7 * m + 7 by omega, Nat.pow_add, Nat.add_mul, Nat.add_assoc]
                        congr 1
                        rw [Nat.add_comm, Nat.mul_comm 128 a, Nat.mul_assoc, Nat.mul_comm 128]
                      obtain ⟨y, HY⟩ := named (byt l (p + m))
                      rw [← HY.out] at hc2 hy8 hst
                      have hle : 128 * a + y % 128 ≤ V := by
                        have h1 : (128 * a + y % 128) * 1 ≤ (128 * a + y % 128) * 2 ^ (7 * m) := Nat.mul_le_mul_left _ (Nat.two_pow_pos _)
                        omega
                      have hVV := HV.out
                      have hpm : (p : Int) + (m : Int) < n := by omega
                      have hpmN : p + m < n := by omega
                      have HS2 : Hid _ := hst
                      rw [hmm]
                      clear hst hmm
                      go_wp2
                      go_round
                      case rel => exact ⟨m, 128 * a + y % 128, by omega, by go_num, by go_num, HS2.out⟩
                      case measure => first | (simp [intOf]; done) | (simp [intOf]; omega)
                · have h0I : (0 : Int) < k := by omega
                  have hx0I : ¬ (x : Int) = 0 := by omega
                  have hb1 : ((k : Int) == 10) = false := by rw [beq_eq_false_iff_ne]; omega
                  have hb2 : ((x : Int) == 0) = false := by rw [beq_eq_false_iff_ne]; omega
                  clear hbd
                  go_wp2
                  go_loop [8, 9] (fun nv iv => ∃ m a : Nat, m ≤ k + 1 ∧ iv = .int .i64 ((m : Int) - 1) ∧ nv = .int .u64 a ∧ Hid (val l p m + a * 2 ^ (7 * m) = V)) (fun _ iv => (intOf iv + 1).toNat)
                  case atStart => exact ⟨k + 1, 0, by omega, by simp, rfl, by rw [HVV.out]; show val l p (k + 1) + 0 * 2 ^ (7 * (k + 1)) = val l p (k + 1); omega⟩
                  case round =>
                    obtain ⟨m, a, hm, rfl, rfl, HS⟩ := hrel
                    cases m with
                    | zero =>
                      have haV : a = V := by
                        have := HS.out
                        rw [val] at this
                        omega
                      subst haV
                      go_wp2
                      go_ret3
                      exact ⟨by rw [HOK.out]; exact ret3 rfl (by go_num) rfl, rfl⟩
                    | succ m =>
                      have hmm : ((m + 1 : Nat) : Int) - 1 = (m : Int) := by omega
                      have hc2 := HC.out (p + m) (HCK.out m (by omega))
                      have hy8 := byt_lt l (p + m)
                      have hst : val l p m + (128 * a + byt l (p + m) % 128) * 2 ^ (7 * m) = V := by
                        rw [← HS.out, val, show 7 * (m + 1) = 7 * m + 7 by omega, Nat.pow_add, Nat.add_mul, Nat.add_assoc]
                        congr 1
                        rw [Nat.add_comm, Nat.mul_comm 128 a, Nat.mul_assoc, Nat.mul_comm 128]
                      obtain ⟨y, HY⟩ := named (byt l (p + m))
                      rw [← HY.out] at hc2 hy8 hst
                      have hle : 128 * a + y % 128 ≤ V := by
                        have h1 : (128 * a + y % 128) * 1 ≤ (128 * a + y % 128) * 2 ^ (7 * m) := Nat.mul_le_mul_left _ (Nat.two_pow_pos _)
                        omega
                      have hVV := HV.out
                      have hpm : (p : Int) + (m : Int) < n := by omega
                      have hpmN : p + m < n := by omega
                      have HS2 : Hid _ := hst
                      rw [hmm]
                      clear hst hmm
                      go_wp2
                      go_round
                      case rel => exact ⟨m, 128 * a + y % 128, by omega, by go_num, by go_num, HS2.out⟩
                      case measure => first | (simp [intOf]; done) | (simp [intOf]; omega)
        · obtain rfl : k = 10 := by omega
          have hbad := HB.out 9 l (by omega) (fun j hj => HJ.out j (by omega)) (HJ.out 9 (by omega)).1 (.inl ⟨rfl, by have := (HJ.out 9 (by omega)).2; omega⟩)
          rw [← HR.out] at hbad
          have HBAD : Hid _ := hbad
          clear hbad
          go_wp2
          go_ret3
          exact ⟨by rw [HBAD.out]; rfl, rfl⟩
      · obtain rfl : n = p + k := by omega
        have hltI : ¬ (p : Int) + k < ((p + k : Nat) : Int) := by omega
        by_cases hk10 : k < 10
        · have hk10I : (k : Int) < 10 := by omega
          have hno := HN.out k l (by omega) HJ.out (by rw [← HNN.out]; exact Nat.le_refl _)
          rw [← HR.out] at hno
          have HNO : Hid _ := hno
          clear hno
          go_wp2
          go_ret3
          exact ⟨by rw [HNO.out]; rfl, rfl⟩
        · obtain rfl : k = 10 := by omega
          have hbad := HB.out 9 l (by omega) (fun j hj => HJ.out j (by omega)) (HJ.out 9 (by omega)).1 (.inl ⟨rfl, by have := (HJ.out 9 (by omega)).2; omega⟩)
          rw [← HR.out] at hbad
          have HBAD : Hid _ := hbad
          clear hbad
          go_wp2
          go_ret3
          exact ⟨by rw [HBAD.out]; rfl, rfl⟩

set_option maxRecDepth 100000 in
set_option maxHeartbeats 800000 in
theorem refGetUint_any (v : Value) (l : List UInt8) (p : Int) (w : World) (hrd : Rd w v l) (hl : l.length ≤ 140737488355328) :
    Calls Tryd.prog 57 #[v, .int .i64 p] w fun e w' => e = .returned (.tuple #[.int .u64 (getU l p).1, .int .i64 (getU l p).2.1, .int .i64 (getU l p).2.2]) ∧ w = w' := by
  by_cases hb : p < 0 ∨ (l.length : Int) < p
  · have e : getU l p = (0, 0, 2) := by unfold getU; rw [if_pos hb]
    rw [e]
    obtain ⟨ao, cap, rfl, -⟩ := hrd
    by_cases h0 : p < 0
    · go_enter Tryd.func57, Tryd.ntmps57
      go_wp2
      go_ret3
      exact ⟨rfl, rfl⟩
    · have h1 : (l.length : Int) < p := by omega
      clear hb
      go_enter Tryd.func57, Tryd.ntmps57
      go_wp2
      go_ret3
      exact ⟨rfl, rfl⟩
  · have e : getU l p = rdU p.toNat 0 0 (l.drop p.toNat) := by unfold getU; rw [if_neg hb]
    rw [e]
    obtain ⟨q, rfl⟩ := Int.eq_ofNat_of_zero_le (a := p) (by omega)
    rw [show ((q : Nat) : Int).toNat = q from by omega]
    exact refGetUint_in v l q w hrd (by omega) hl
theorem rdU_err (p i acc : Nat) (l : List UInt8) : (rdU p i acc l).2.2 ≠ 0 → (rdU p i acc l).1 = 0 ∧ (rdU p i acc l).2.1 = 0 := by
  induction l generalizing i acc with
  | nil => simp [rdU]
  | cons x t ih =>
    rw [rdU]
    split
    · simp
    · split
      · simp
      · split
        · simp
        · exact ih (i + 1) _
theorem getU_err (l : List UInt8) (p : Int) (h : (getU l p).2.2 ≠ 0) : (getU l p).1 = 0 ∧ (getU l p).2.1 = 0 := by
  unfold getU at h ⊢
  split at h
  · rename_i hb
    rw [if_pos hb]
    simp
  · rename_i hb
    rw [if_neg hb]
    exact rdU_err _ _ _ _ h
end Go.Proofs.YtpiiehenmkinaaaDoor

/-
  The contracts of the document's GetInt and GetBlob. Own work.
-/
namespace Go.Proofs.YtpiiehenmkinaaaDoor
open Go.RowKit

set_option maxRecDepth 100000 in
set_option maxHeartbeats 800000 in
theorem refGetInt_any (v : Value) (l : List UInt8) (p : Int) (w : World) (hrd : Rd w v l) (hl : l.length ≤ 140737488355328) :
    Calls Tryd.prog 34 #[v, .int .i64 p] w fun e w' => e = .returned (.tuple #[.int .i64 (unfoldI (getU l p).1), .int .i64 (getU l p).2.1, .int .i64 (getU l p).2.2]) ∧ w = w' := by
  have hg := getU_lt l p
  have he := getU_err l p
  obtain ⟨R, HR⟩ := named (getU l p)
  rw [← HR.out] at hg he ⊢
  obtain ⟨ao, cap, hv, -⟩ := id hrd
  subst hv
  have hcall : Calls Tryd.prog 57 #[.slice ao l.length cap, .int .i64 p] w fun e w' => e = .returned (.tuple #[.int .u64 R.1, .int .i64 R.2.1, .int .i64 R.2.2]) ∧ w = w' := by
    rw [HR.out]
    exact refGetUint_any _ l p _ hrd hl
  obtain ⟨n, nx, er⟩ := R
  simp only at hg he hcall ⊢
  clear HR
  by_cases h0 : er = 0
  · subst h0
    clear he
    by_cases h2 : n % 2 = 0
    · have h2I : (n : Int) % 2 = 0 := by omega
      have e : unfoldI n = (n : Int) / 2 := by unfold unfoldI; rw [if_pos h2I]
      rw [e]
      clear e
      go_enter Tryd.func34, Tryd.ntmps34
      go_wp2_with fail
      refine hcall.mono ?_
      rintro e w1 ⟨rfl, hw1⟩
      subst hw1
      clear hcall
      go_wp2
      go_ret3
      exact ⟨rfl, rfl⟩
    · have h2I : ¬ (n : Int) % 2 = 0 := by omega
      have e : unfoldI n = -1 - (n : Int) / 2 := by unfold unfoldI; rw [if_neg h2I]; omega
      rw [e]
      clear e
      go_enter Tryd.func34, Tryd.ntmps34
      go_wp2_with fail
      refine hcall.mono ?_
      rintro e w1 ⟨rfl, hw1⟩
      subst hw1
      clear hcall
      go_wp2
      go_ret3
      exact ⟨rfl, rfl⟩
  · obtain ⟨rfl, rfl⟩ := he h0
    have her : ((er : Int) != 0) = true := by simp only [bne_iff_ne]; omega
    have HE : Hid _ := h0
    clear h0 he
    go_enter Tryd.func34, Tryd.ntmps34
    go_wp2_with fail
    refine hcall.mono ?_
    rintro e w1 ⟨rfl, hw1⟩
    subst hw1
    clear hcall
    go_wp2
    go_ret3
    exact ⟨rfl, rfl⟩

set_option maxRecDepth 100000 in
set_option maxHeartbeats 2000000 in
theorem refGetBlob_any (v : Value) (l : List UInt8) (p q : Int) (w : World) (hrd : Rd w v l) (hl : l.length ≤ 140737488355000) (hq : q ≤ 9223372036854775807) :
    Calls Tryd.prog 56 #[v, .int .i64 p, .int .i64 q] w fun e w' => ∃ v, e = .returned (.tuple #[v, .int .i64 (getB l p q).2.1, .int .i64 (getB l p q).2.2]) ∧ Own w' w.heap.size v (getB l p q).1 ∧ Below w.heap.size w w' := by
  have hpl := getU_place l p
  have hG : getB l p q = if (getU l p).2.2 ≠ 0 then ([], 0, (getU l p).2.2)
    else if q < 0 ∨ q < (getU l p).1 then ([], 0, 3)
    else if l.length - (getU l p).2.1 < (getU l p).1 then ([], 0, 11)
    else ((l.drop (getU l p).2.1).take (getU l p).1, (getU l p).2.1 + (getU l p).1, 0) := rfl
  have hlt := getU_lt l p
  have HGU : Hid (getU l p = getU l p) := rfl
  have hcall := fun w => fun h => refGetUint_any v l p w h (by omega)
  obtain ⟨R, HR⟩ := named (getU l p)
  obtain ⟨n, from_, er⟩ := R
  rw [← HR.out] at hpl hG hlt
  simp only at hpl hG hlt
  rw [hG]
  clear hG HGU
  obtain ⟨ao, cap, hv, h1, h2, -⟩ := id hrd
  subst hv
  have hc2 : Calls Tryd.prog 57 #[.slice ao l.length cap, .int .i64 p] w fun e w' => e = .returned (.tuple #[.int .u64 n, .int .i64 from_, .int .i64 er]) ∧ w = w' := by
    have := hcall w hrd
    rw [← HR.out] at this
    exact this
  clear hcall
  by_cases he : er = 0
  · rw [if_neg (by simpa using he)]
    subst he
    obtain ⟨hp0, hp1, hp2⟩ := hpl rfl
    by_cases hm : q < 0 ∨ q < n
    · rw [if_pos hm]
      by_cases hq0 : q < 0
      · clear hm hpl hlt
        go_enter Tryd.func56, Tryd.ntmps56
        go_wp2_with fail
        refine hc2.mono ?_
        rintro e w1 ⟨rfl, hw1⟩
        subst hw1
        clear hc2
        go_wp2
        go_ret3
        exact ⟨_, rfl, Own.nil _ _, Below.refl _ _⟩
      · have hqn : q < n := by omega
        have HQ : Hid (q ≤ 9223372036854775807) := hq
        clear hm hpl hlt
        go_enter Tryd.func56, Tryd.ntmps56
        go_wp2_with fail
        refine hc2.mono ?_
        rintro e w1 ⟨rfl, hw1⟩
        subst hw1
        clear hc2
        go_wp2
        go_ret3
        exact ⟨_, rfl, Own.nil _ _, Below.refl _ _⟩
    · rw [if_neg hm]
      have hq0 : 0 ≤ q := by omega
      have hqn : (n : Int) ≤ q := by omega
      clear hm hpl hlt
      by_cases hs : l.length - from_ < n
      · rw [if_pos hs]
        obtain ⟨d, hd⟩ : ∃ d, l.length = from_ + d := ⟨l.length - from_, by omega⟩
        have hdn : d < n := by omega
        have hl2 : from_ + d ≤ 140737488355000 := by omega
        have HQ : Hid (q ≤ 9223372036854775807) := hq
        have HRD : Hid _ := hrd
        clear hs hrd
        rw [hd] at hc2 hp2 hl h1 ⊢
        clear hd
        go_enter Tryd.func56, Tryd.ntmps56
        go_wp2_with fail
        refine hc2.mono ?_
        rintro e w1 ⟨rfl, hw1⟩
        subst hw1
        clear hc2
        go_wp2
        go_loop [12] (fun iv => ∃ k : Nat, k ≤ d ∧ iv = .int .u64 k) (fun iv => n - (intOf iv).toNat)
        case atStart => exact ⟨0, by omega, rfl⟩
        case round =>
          obtain ⟨k, hk, rfl⟩ := hrel
          have hkn : (k : Int) < n := by omega
          by_cases hkd : k < d
          · have hkl : (from_ : Int) + k < ((from_ + d : Nat) : Int) := by omega
            go_wp2
            go_round
            case rel => exact ⟨k + 1, by omega, by go_num⟩
            case measure => simp [intOf]; omega
          · obtain rfl : k = d := by omega
            go_wp2
            go_ret3
            exact ⟨_, rfl, Own.nil _ _, Below.refl _ _⟩
      · rw [if_neg hs]
        have hn1 : from_ + n ≤ l.length := by omega
        have hln : ((l.drop from_).take n).length ≤ 140737488355000 := by rw [List.length_take, List.length_drop]; omega
        have HLN : Hid _ := hln
        clear hln
        unfold maxLen at h2
        by_cases hcf : cap = from_
        · obtain rfl : n = 0 := by omega
          subst hcf
          have hrdC : Rd w (.slice ao 0 0) ((l.drop cap).take 0) := by
            simp only [List.take_zero]
            exact ⟨ao, 0, rfl, Nat.le_refl _, by simp [maxLen], fun _ => rfl, fun a _ i hi => by simp at hi⟩
          obtain ⟨lC, HC⟩ := named ((l.drop cap).take 0)
          rw [← HC.out] at hrdC HLN ⊢
          go_enter Tryd.func56, Tryd.ntmps56
          go_wp2_with fail
          refine hc2.mono ?_
          rintro e w1 ⟨rfl, hw1⟩
          subst hw1
          clear hc2
          go_wp2
          refine wp_loop_rounds 1 ?_
          rw [rounds_succ]
          go_wp2_with fail
          refine (both_any _ _ [] lC _ (Rd.nil _) hrdC (by have := HLN.out; simp; omega)).mono ?_
          rintro e w3 ⟨v3, rfl, hown3, hb3⟩
          go_wp2
          go_ret3
          exact ⟨_, rfl, hown3, hb3⟩
        · have hrdC : Rd w (.slice (Option.map (fun x => x.add from_) ao) n (cap - from_)) ((l.drop from_).take n) := by
            have := hrd.cut from_ (from_ + n) (by omega) hn1
            rw [List.drop_take, show from_ + n - from_ = n by omega] at this
            exact this
          obtain ⟨lC, HC⟩ := named ((l.drop from_).take n)
          rw [← HC.out] at hrdC HLN ⊢
          go_enter Tryd.func56, Tryd.ntmps56
          go_wp2_with fail
          refine hc2.mono ?_
          rintro e w1 ⟨rfl, hw1⟩
          subst hw1
          clear hc2
          go_wp2
          go_loop [12] (fun iv => ∃ k : Nat, k ≤ n ∧ iv = .int .u64 k) (fun iv => n - (intOf iv).toNat)
          case atStart => exact ⟨0, by omega, rfl⟩
          case round =>
            obtain ⟨k, hk, rfl⟩ := hrel
            by_cases hkd : k < n
            · have hkl : (from_ : Int) + k < (l.length : Int) := by omega
              have hkn : (k : Int) < n := by omega
              go_wp2
              go_round
              case rel => exact ⟨k + 1, by omega, by go_num⟩
              case measure => simp [intOf]; omega
            · obtain rfl : k = n := by omega
              go_wp2_with fail
              refine (both_any _ _ [] lC _ (Rd.nil _) hrdC (by have := HLN.out; simp; omega)).mono ?_
              rintro e w3 ⟨v3, rfl, hown3, hb3⟩
              go_wp2
              go_ret3
              exact ⟨_, by simp, hown3, hb3⟩
  · rw [if_pos (by simpa using he)]
    have her : ((er : Int) != 0) = true := by simp only [bne_iff_ne]; omega
    have HE : Hid _ := he
    clear he hpl hlt
    go_enter Tryd.func56, Tryd.ntmps56
    go_wp2_with fail
    refine hc2.mono ?_
    rintro e w1 ⟨rfl, hw1⟩
    subst hw1
    clear hc2
    go_wp2
    go_ret3
    exact ⟨_, rfl, Own.nil _ _, Below.refl _ _⟩
end Go.Proofs.YtpiiehenmkinaaaDoor

/-
  The independent reading's eye: num, text. Own work.
-/
namespace Go.Proofs.YtpiiehenmkinaaaDoor
open Go.RowKit

/-- what text tells -/
def txtQ (l : List UInt8) (st : RS) : List UInt8 × RS :=
  if st.2 = true ∨ (getB l st.1 40).2.2 ≠ 0 then ([], (st.1, true)) else ((getB l st.1 40).1, ((getB l st.1 40).2.1, false))
set_option maxRecDepth 100000 in
set_option maxHeartbeats 1600000 in
theorem eyeNum_any {w0 w : World} {rb : Nat} {bv : Value} {l : List UInt8} {st : RS} (h : Rdr w0 w rb bv l st) (hl : l.length ≤ 1000000) :
    Calls Tryd.prog 33 #[.pointer (some ⟨rb, 0, none⟩)] w fun e w' => e = .returned (.int .i64 ((numR l 1000 st).1 : Int)) ∧ Rdr w0 w' rb bv l (numR l 1000 st).2 ∧ ChgB rb w w' := by
  obtain ⟨p, wrong⟩ := st
  obtain ⟨ao, cap, hv, -⟩ := id h.rd
  subst hv
  have H := hide h
  have hc := h.c
  obtain ⟨-, c0, c1, c2, f0, f1, f2⟩ := id hc
  obtain ⟨n, HN⟩ := named l.length
  rw [← HN.out] at H hc c0 ⊢
  have hrd := h.small
  rw [← HN.out] at hrd
  have e : numR l 1000 (p, wrong) = if wrong = true then (0, (p, wrong)) else if (getU l p).2.2 ≠ 0 ∨ 1000 < (getU l p).1 then (0, (p, true)) else ((getU l p).1, ((getU l p).2.1, false)) := rfl
  have hgl := getU_lt l p
  have kc := refGetUint_any (.slice ao n cap) l p w.drew hrd (by omega)
  obtain ⟨g1, G1⟩ := named (getU l p).1
  obtain ⟨g2, G2⟩ := named (getU l p).2.1
  obtain ⟨g3, G3⟩ := named (getU l p).2.2
  rw [← G1.out, ← G2.out, ← G3.out] at e kc
  rw [← G1.out] at hgl
  obtain ⟨R, HR⟩ := named (numR l 1000 (p, wrong))
  rw [← HR.out] at e ⊢
  have HE := hide e
  have hs0 : w.drew.cell? ⟨rb, 0, none⟩ = some (.slice ao n cap) ∧ w.drew.cell? ⟨rb, 1, none⟩ = some (.int .i64 p) := ⟨c0, c1⟩
  clear e h hrd hc
  go_enter Tryd.func33, Tryd.ntmps33
  go_wp2_with fail
  go_region_held3 (fun w' => w'.cell? ⟨rb, 0, none⟩ = some (.slice ao n cap) ∧ w'.cell? ⟨rb, 1, none⟩ = some (.int .i64 p)) (first | exact hs0) (first | (go_at_call 57; refine Calls.mono kc ?_; rintro e w1 ⟨rfl, rfl⟩))
  have HCD := hide (show C3 w.drew rb (.slice ao n cap) (.int .i64 (p : Int)) (.bool wrong) from H.out.c)
  have d0 : w.drew.cell? ⟨rb, 1, none⟩ = some (.int .i64 p) := c1
  have d2 : w.drew.cell? ⟨rb, 2, none⟩ = some (.bool wrong) := c2
  have e1 : w.drew.frozen? ⟨rb, 1, none⟩ = false := f1
  have e2 : w.drew.frozen? ⟨rb, 2, none⟩ = false := f2
  have hlast : R = (0, (p, true)) → Rdr w0 (w.drew.setCell ⟨rb, 2, none⟩ (.bool true)) rb (.slice ao n cap) l R.2 ∧ ChgB rb w (w.drew.setCell ⟨rb, 2, none⟩ (.bool true)) := fun hr => by
    rw [hr]
    have hch : ChgB rb w (w.drew.setCell ⟨rb, 2, none⟩ (.bool true)) := (ChgB.refl rb w).drew.setCell _
    exact ⟨H.out.go hch (HCD.out.third _), hch⟩
  have HLA := hide hlast
  clear hs0 c0 c1 c2 f0 f1 f2 hlast
  cases wrong with
  | true =>
    have hR : R = (0, (p, true)) := HE.out
    go_wp2
    go_ret
    obtain ⟨k1, k2⟩ := HLA.out hR
    rw [hR] at k1
    try rw [hR]
    exact ⟨rfl, k1, k2⟩
  | false =>
    by_cases h3 : g3 = 0
    · subst h3
      by_cases h1 : g1 ≤ 1000
      · have h1' : ¬ (1000 : Int) < (g1 : Int) := by omega
        have hR : R = (g1, (g2, false)) := by rw [HE.out, if_neg (by simp), if_neg (by omega)]
        have hw : wrap64 (g1 : Int) = (g1 : Int) := by unfold wrap64; omega
        go_wp2
        go_ret
        have hch : ChgB rb w (w.drew.setCell ⟨rb, 1, none⟩ (.int .i64 (g2 : Int))) := (ChgB.refl rb w).drew.setCell _
        exact ⟨rfl, H.out.go (st' := (g2, false)) hch (HCD.out.second _), hch⟩
      · have h1' : (1000 : Int) < (g1 : Int) := by omega
        have hR : R = (0, (p, true)) := by rw [HE.out, if_neg (by simp), if_pos (.inr (by omega))]
        go_wp2
        go_ret
        obtain ⟨k1, k2⟩ := HLA.out hR
        rw [hR] at k1
        try rw [hR]
        exact ⟨rfl, k1, k2⟩
    · have h3' : ¬ (g3 : Int) = 0 := by omega
      have hR : R = (0, (p, true)) := by rw [HE.out, if_neg (by simp), if_pos (.inl h3)]
      go_wp2
      go_ret
      obtain ⟨k1, k2⟩ := HLA.out hR
      rw [hR] at k1
      try rw [hR]
      exact ⟨rfl, k1, k2⟩
set_option maxRecDepth 100000 in
set_option maxHeartbeats 1600000 in
theorem eyeText_any {w0 w : World} {rb : Nat} {bv : Value} {l : List UInt8} {st : RS} (h : Rdr w0 w rb bv l st) (hl : l.length ≤ 1000000) :
    Calls Tryd.prog 32 #[.pointer (some ⟨rb, 0, none⟩)] w fun e w' => e = .returned (.string ⟨(txtQ l st).1.toArray⟩) ∧ Rdr w0 w' rb bv l (txtQ l st).2 ∧ ChgB rb w w' := by
  obtain ⟨p, wrong⟩ := st
  obtain ⟨ao, cap, hv, -⟩ := id h.rd
  subst hv
  have H := hide h
  have hc := h.c
  obtain ⟨-, c0, c1, c2, f0, f1, f2⟩ := id hc
  obtain ⟨n, HN⟩ := named l.length
  rw [← HN.out] at H hc c0 ⊢
  have hrd := h.small
  rw [← HN.out] at hrd
  have e : txtQ l (p, wrong) = if wrong = true ∨ (getB l p 40).2.2 ≠ 0 then ([], (p, true)) else ((getB l p 40).1, ((getB l p 40).2.1, false)) := rfl
  have kc := refGetBlob_any (.slice ao n cap) l p 40 w.drew hrd (by omega) (by omega)
  obtain ⟨z1, G1⟩ := named (getB l p 40).1
  obtain ⟨g2, G2⟩ := named (getB l p 40).2.1
  obtain ⟨g3, G3⟩ := named (getB l p 40).2.2
  rw [← G1.out, ← G2.out, ← G3.out] at e kc
  obtain ⟨R, HR⟩ := named (txtQ l (p, wrong))
  rw [← HR.out] at e ⊢
  have HE := hide e
  have hs0 : w.drew.cell? ⟨rb, 0, none⟩ = some (.slice ao n cap) ∧ w.drew.cell? ⟨rb, 1, none⟩ = some (.int .i64 p) := ⟨c0, c1⟩
  have hlt : rb < w.heap.size := hc.1
  have hts := run_toStr
  clear e h hrd hc
  go_enter Tryd.func32, Tryd.ntmps32
  go_wp2_with fail
  go_region_held3 (fun w' => w'.cell? ⟨rb, 0, none⟩ = some (.slice ao n cap) ∧ w'.cell? ⟨rb, 1, none⟩ = some (.int .i64 p)) (first | exact hs1 | exact hs0) (first | (go_at_call 56; refine Calls.mono kc ?_; rintro e w1 ⟨v1, rfl, ho1, hb1⟩; have hb1 : Below w.heap.size w w1 := ⟨hb1.os, hb1.tape, hb1.output, hb1.size, hb1.block⟩; have hs1 : w1.cell? ⟨rb, 0, none⟩ = some (.slice ao n cap) ∧ w1.cell? ⟨rb, 1, none⟩ = some (.int .i64 p) := ⟨(hb1.cell (p := ⟨rb, 0, none⟩) hlt).trans c0, (hb1.cell (p := ⟨rb, 1, none⟩) hlt).trans c1⟩))
  have ho : Own w1 w.heap.size v1 z1 := ho1
  have HCD := hide (H.out.c.below hb1)
  obtain ⟨-, d0, d1, d2, e0, e1, e2⟩ := id HCD.out
  have hlast : R = ([], (p, true)) → Rdr w0 (w1.setCell ⟨rb, 2, none⟩ (.bool true)) rb (.slice ao n cap) l R.2 ∧ ChgB rb w (w1.setCell ⟨rb, 2, none⟩ (.bool true)) := fun hr => by
    rw [hr]
    have hch : ChgB rb w (w1.setCell ⟨rb, 2, none⟩ (.bool true)) := (ChgB.ofBelow hb1).setCell _
    exact ⟨H.out.go (st' := (p, true)) hch (HCD.out.third _), hch⟩
  have HLA := hide hlast
  have hgood : (toStr v1).run Tryd.prog (w1.setCell ⟨rb, 1, none⟩ (.int .i64 (g2 : Int))) = .ok (.string ⟨z1.toArray⟩) (w1.setCell ⟨rb, 1, none⟩ (.int .i64 (g2 : Int))) := run_str _ _ _ (ho.farCell hlt _).rd
  have HCH := hide (show ChgB rb w (w1.setCell ⟨rb, 1, none⟩ (.int .i64 (g2 : Int))) from (ChgB.ofBelow hb1).setCell _)
  clear hs0 hs1 c0 c1 c2 f0 f1 f2 hlast ho ho1 hb1
  cases wrong with
  | true =>
    have hR : R = ([], (p, true)) := by rw [HE.out, if_pos (.inl rfl)]
    go_wp2
    go_ret
    obtain ⟨k1, k2⟩ := HLA.out hR
    rw [hR] at k1
    try rw [hR]
    exact ⟨rfl, k1, k2⟩
  | false =>
    by_cases h3 : g3 = 0
    · subst h3
      have hR : R = (z1, (g2, false)) := by rw [HE.out, if_neg (by simp)]
      go_wp2
      go_ret
      exact ⟨rfl, H.out.go (st' := (g2, false)) HCH.out (HCD.out.second _), HCH.out⟩
    · have h3' : ¬ (g3 : Int) = 0 := by omega
      have hR : R = ([], (p, true)) := by rw [HE.out, if_pos (.inr h3)]
      go_wp2
      go_ret
      obtain ⟨k1, k2⟩ := HLA.out hR
      rw [hR] at k1
      try rw [hR]
      exact ⟨rfl, k1, k2⟩
end Go.Proofs.YtpiiehenmkinaaaDoor

/-
  What the independent reading's Read tells, as lists: it is what Read tells. Own work, no walk.
-/
namespace Go.Proofs.YtpiiehenmkinaaaDoor
open Go.RowKit

def q0 (l : List UInt8) (st : RS) : Nat × RS := numR l 1000 st
def q1 (l : List UInt8) (st : RS) : Nat × RS := numR l 1000 (q0 l st).2
def q2 (l : List UInt8) (st : RS) : Nat × RS := numR l 1000 (q1 l st).2
def q3 (l : List UInt8) (st : RS) : Nat × RS := numR l 1000 (q2 l st).2
def brkQ (l : List UInt8) (st : RS) : Bool := (q3 l st).2.2 || decide ((getU l (q3 l st).2.1).2.2 ≠ 0)
def q5 (l : List UInt8) (st : RS) : List UInt8 × RS := txtQ l ((getU l (q3 l st).2.1).2.1, false)
def insQ (l : List UInt8) (st : RS) : Ins := ⟨(q0 l st).1 % 256, (q1 l st).1, (q2 l st).1, (q3 l st).1, unfoldI (getU l (q3 l st).2.1).1, ⟨(q5 l st).1.toArray⟩⟩
def codeQ (l : List UInt8) : Nat → RS → List Ins → List Ins × RS
  | 0, st, acc => (acc, st)
  | k + 1, st, acc => if st.2 = true then (acc, st) else if brkQ l st = true then (acc, ((q3 l st).2.1, true)) else codeQ l k (q5 l st).2 (acc ++ [insQ l st])
def nameQ (l : List UInt8) : List UInt8 × RS := txtQ l (0, false)
def regsQ (l : List UInt8) : Nat × RS := numR l 1000 (nameQ l).2
def cntQ (l : List UInt8) : Nat × RS := numR l 1000 (regsQ l).2
def endQ (l : List UInt8) : List Ins × RS := codeQ l (cntQ l).1 (cntQ l).2 []
def prgQ (l : List UInt8) : Prg := ⟨⟨(nameQ l).1.toArray⟩, ((regsQ l).1 : Nat), (endQ l).1⟩
def goodQ (l : List UInt8) : Bool := !(endQ l).2.2 && (okP (prgQ l) 20 && decide (bytesP (prgQ l) = l))

theorem txtQ_len (l : List UInt8) (st : RS) : (txtQ l st).1.length ≤ 40 := by
  unfold txtQ
  split
  · simp
  · rename_i h
    have := (getB_at l st.1 40 (by omega)).2
    show (getB l st.1 40).1.length ≤ 40
    omega
theorem insQ_wf (l : List UInt8) (st : RS) : (insQ l st).wf := by
  have hlt := getU_lt l (q3 l st).2.1
  have h1 := numR_le l 1000 (q0 l st).2
  have h2 := numR_le l 1000 (q1 l st).2
  have h3 := numR_le l 1000 (q2 l st).2
  have h5 := txtQ_len l ((getU l (q3 l st).2.1).2.1, false)
  refine ⟨Nat.mod_lt _ (by decide), ?_, ?_, ?_, unfoldI_range _ (by omega) (by omega), ?_⟩
  · show IR ((numR l 1000 (q0 l st).2).1 : Int)
    unfold IR; omega
  · show IR ((numR l 1000 (q1 l st).2).1 : Int)
    unfold IR; omega
  · show IR ((numR l 1000 (q2 l st).2).1 : Int)
    unfold IR; omega
  · show (txtQ l ((getU l (q3 l st).2.1).2.1, false)).1.toArray.size ≤ maxLen
    simp only [List.size_toArray]
    unfold maxLen
    omega
theorem codeQ_wf (l : List UInt8) (k : Nat) (st : RS) (acc : List Ins) (h : ∀ i ∈ acc, i.wf) : ∀ i ∈ (codeQ l k st acc).1, i.wf := by
  induction k generalizing st acc with
  | zero => exact h
  | succ k ih =>
    rw [codeQ]
    split
    · exact h
    · split
      · exact h
      · refine ih _ _ (fun i hi => ?_)
        rcases List.mem_append.1 hi with hi | hi
        · exact h i hi
        · obtain rfl := List.mem_singleton.1 hi
          exact insQ_wf l st
theorem prgQ_wf (l : List UInt8) : ∀ i ∈ (prgQ l).code, i.wf := codeQ_wf l _ _ [] (fun i hi => by cases hi)
theorem txtQ_back {l : List UInt8} {p q : Nat} (b : List UInt8) (h : At l p (blobL b) q) (hb : b.length ≤ 40) : txtQ l (p, false) = (b, (q, false)) := by
  obtain ⟨e1, e2⟩ := h.form
  have hg := getB_blob b (l.take p) (l.drop q) 40 (by omega) (by omega)
  rw [← e1, e2, ← h.2.2] at hg
  unfold txtQ
  simp only [hg]
  rw [if_neg (by simp)]
theorem insQ_back {l : List UInt8} {p q : Nat} {i : Ins} (h : At l p (insL i) q) (hw : i.wf) (ha : 0 ≤ i.a ∧ i.a ≤ 16) (hb : 0 ≤ i.b ∧ i.b ≤ 16) (hc : 0 ≤ i.c ∧ i.c ≤ 20) (hs : i.s.size ≤ 40) : brkQ l (p, false) = false ∧ insQ l (p, false) = i ∧ (q5 l (p, false)).2 = (q, false) := by
  obtain ⟨op, a, b, c, n, s⟩ := i
  unfold insL at h
  obtain ⟨h1, h⟩ := h.split
  obtain ⟨h2, h⟩ := h.split
  obtain ⟨h3, h⟩ := h.split
  obtain ⟨h4, h⟩ := h.split
  obtain ⟨h5, h6⟩ := h.split
  have hop := hw.op
  have hn := hw.n
  have e0 := numR_back (op : Int) 1000 h1 (by omega) (by simp only at hop; omega) (by omega)
  have e1 := numR_back a 1000 h2 ha.1 (by simp only at ha; omega) (by omega)
  have e2 := numR_back b 1000 h3 hb.1 (by simp only at hb; omega) (by omega)
  have e3 := numR_back c 1000 h4 hc.1 (by simp only at hc; omega) (by omega)
  have e6 := txtQ_back (nm s) h6 (by rw [nm_len]; exact hs)
  have hr := foldI_range n hn.1 hn.2
  have e5 : getU l (p + (U (op : Int)).length + (U a).length + (U b).length + (U c).length : Nat) = ((foldI n).toNat, p + (U (op : Int)).length + (U a).length + (U b).length + (U c).length + (U (foldI n)).length, 0) := by
    obtain ⟨m, hm⟩ := Int.eq_ofNat_of_zero_le hr.1
    simp only at h5
    rw [hm] at h5 ⊢
    obtain ⟨k1, k2⟩ := h5.form
    have hg := getU_U m (by omega) (l.take (p + (U (op : Int)).length + (U a).length + (U b).length + (U c).length)) (l.drop (p + (U (op : Int)).length + (U a).length + (U b).length + (U c).length + (U ((m : Nat) : Int)).length))
    rw [← k1, k2] at hg
    rw [hg]
    rfl
  have f0 := e0
  have f1 := (congrArg (fun x : Nat × RS => numR l 1000 x.2) f0).trans e1
  have f2 := (congrArg (fun x : Nat × RS => numR l 1000 x.2) f1).trans e2
  have f3 := (congrArg (fun x : Nat × RS => numR l 1000 x.2) f2).trans e3
  change q0 l (p, false) = _ at f0
  change q1 l (p, false) = _ at f1
  change q2 l (p, false) = _ at f2
  change q3 l (p, false) = _ at f3
  have f4 : (q3 l (p, false)).2.2 = false := by rw [f3]
  have f5 := (congrArg (fun x : Nat × RS => getU l x.2.1) f3).trans e5
  change getU l (q3 l (p, false)).2.1 = _ at f5
  have f6 := (congrArg (fun x : Nat × Nat × Nat => txtQ l (x.2.1, false)) f5).trans e6
  change q5 l (p, false) = _ at f6
  refine ⟨by unfold brkQ; rw [f4, f5]; rfl, ?_, by rw [f6]⟩
  unfold insQ
  rw [f0, f1, f2, f5, f6, f3]
  simp only at ha hb hc hop hn
  have hun : unfoldI (foldI n).toNat = n := by
    obtain ⟨m, hm⟩ := Int.eq_ofNat_of_zero_le hr.1
    rw [hm]
    show unfoldI m = n
    have := unfold_fold n
    rw [hm] at this
    exact this
  show (⟨op % 256, (a.toNat : Int), (b.toNat : Int), (c.toNat : Int), unfoldI (foldI n).toNat, ⟨(nm s).toArray⟩⟩ : Ins) = _
  rw [hun, mk_nm, Int.toNat_of_nonneg ha.1, Int.toNat_of_nonneg hb.1, Int.toNat_of_nonneg hc.1, Nat.mod_eq_of_lt hop]
theorem codeQ_back {l : List UInt8} (code : List Ins) {p q : Nat} (acc : List Ins) (h : At l p (codeL code) q) (hw : ∀ i ∈ code, i.wf ∧ (0 ≤ i.a ∧ i.a ≤ 16) ∧ (0 ≤ i.b ∧ i.b ≤ 16) ∧ (0 ≤ i.c ∧ i.c ≤ 20) ∧ i.s.size ≤ 40) :
    codeQ l code.length (p, false) acc = (acc ++ code, (q, false)) := by
  induction code generalizing p acc with
  | nil =>
    have : q = p := h.2.2
    rw [this]
    simp [codeQ]
  | cons i code ih =>
    have e : codeL (i :: code) = insL i ++ codeL code := by simp [codeL]
    rw [e] at h
    obtain ⟨h1, h2⟩ := h.split
    obtain ⟨w1, w2, w3, w4, w5⟩ := hw i (by simp)
    obtain ⟨e1, e2, e3⟩ := insQ_back h1 w1 w2 w3 w4 w5
    rw [List.length_cons, codeQ, if_neg (by simp), if_neg (by rw [e1]; simp), e2, e3]
    rw [ih (acc ++ [i]) h2 (fun j hj => hw j (by simp [hj]))]
    simp
theorem prgQ_back (p : Prg) (h : okP p 20 = true) (hw : ∀ i ∈ p.code, i.wf) : prgQ (bytesP p) = p ∧ (endQ (bytesP p)).2.2 = false := by
  have hok := h
  unfold okP at h
  simp only [Bool.and_eq_true, decide_eq_true_eq, List.all_eq_true] at h
  obtain ⟨⟨⟨⟨hn, hr⟩, hl⟩, he⟩, hi⟩ := h
  have hA := At.whole (bytesP p) []
  rw [List.append_nil] at hA
  obtain ⟨L, HL⟩ : ∃ L, L = bytesP p := ⟨_, rfl⟩
  rw [← HL] at hA ⊢
  obtain ⟨Q, HQ⟩ : ∃ Q, Q = L.length := ⟨_, rfl⟩
  have hA2 : At L 0 (bytesP p) Q := by rw [← HL, HQ]; exact hA
  clear hA HL HQ
  unfold bytesP headL at hA2
  obtain ⟨h1, h4⟩ := hA2.split
  obtain ⟨h1, h2⟩ := h1.split
  obtain ⟨h2, h3⟩ := h2.split
  have e1 := txtQ_back (nm p.name) h1 (by rw [nm_len]; exact hn.2)
  have e2 := numR_back p.regs 1000 h2 (by omega) (by omega) (by omega)
  have e3 := numR_back (p.code.length : Int) 1000 h3 (by omega) (by omega) (by omega)
  rw [Int.toNat_natCast] at e3
  have e4 := codeQ_back p.code [] h4 (fun i hm => by
    have := insB_range (hi i hm) hr.2
    exact ⟨hw i hm, this.1, this.2.1, this.2.2.1, this.2.2.2.1⟩)
  have f1 := e1
  have f2 := (congrArg (fun x : List UInt8 × RS => numR L 1000 x.2) f1).trans e2
  have f3 := (congrArg (fun x : Nat × RS => numR L 1000 x.2) f2).trans e3
  change nameQ L = _ at f1
  change regsQ L = _ at f2
  change cntQ L = _ at f3
  have f4 : endQ L = (p.code, (Q, false)) := by
    unfold endQ
    rw [f3]
    exact e4
  refine ⟨?_, by rw [f4]⟩
  unfold prgQ
  rw [f1, f2, f4]
  show (⟨⟨(nm p.name).toArray⟩, (p.regs.toNat : Int), p.code⟩ : Prg) = p
  rw [mk_nm, Int.toNat_of_nonneg (by omega)]
/-- both readings of any bytes are one -/
theorem readQ_eq (l : List UInt8) : readR l = if goodQ l = true then (prgQ l, 0) else (noP, 100) := by
  by_cases hg : goodQ l = true
  · rw [if_pos hg]
    unfold goodQ at hg
    simp only [Bool.and_eq_true, Bool.not_eq_true', decide_eq_true_eq] at hg
    obtain ⟨g1, g2, g3⟩ := hg
    have := read_bytes (prgQ l) g2 (prgQ_wf l)
    rw [g3] at this
    exact this
  · rw [if_neg hg]
    by_cases h0 : (readR l).2 = 0
    · exfalso
      obtain ⟨-, -, h3, h4, h5⟩ := read_inv l h0
      obtain ⟨k1, k2⟩ := prgQ_back _ h3 h5
      rw [h4] at k1 k2
      apply hg
      unfold goodQ
      rw [k2, k1, h3, decide_eq_true h4]
      rfl
    · unfold readR at h0 ⊢
      split
      · rename_i hh; rw [if_pos hh] at h0; exact absurd rfl h0
      · rfl
end Go.Proofs.YtpiiehenmkinaaaDoor
