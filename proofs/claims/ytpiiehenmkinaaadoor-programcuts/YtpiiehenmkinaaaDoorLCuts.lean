/-
  ProgramCuts: of any beginning of the bytes of a program, and with a byte more, no program is read. Own work.
-/
import Derived.Test.YtpiiehenmkinaaaDoorEd
import Derived.Test.YtpiiehenmkinaaaDoorEi
namespace Go.Proofs.YtpiiehenmkinaaaDoor
open Go.RowKit

theorem read_none (l : List UInt8) (h : (readR l).2 = 100) : readR l = (noP, 100) := by
  unfold readR at h ⊢
  split
  · rename_i hg
    rw [if_pos hg] at h
    cases h
  · rfl
set_option maxRecDepth 100000 in
set_option maxHeartbeats 3200000 in
theorem cuts_walk (W : World) (hl : Laid W) (p q : Prg) (cv dv : Value) (hc : RdC W cv p.code) (hd : RdC W dv q.code) (hw : ∀ i ∈ p.code, i.wf) (hv : ∀ i ∈ q.code, i.wf) (c : Int) (hcc : 0 ≤ c ∧ c ≤ 65535) :
    Calls Tryd.prog 7 #[prgV p cv, prgV q dv, .int .u16 c] W fun e w' => e = .returned (.bool true) ∧ Below W.heap.size W w' := by
  obtain ⟨name, regs, code⟩ := p
  obtain ⟨name', regs', code'⟩ := q
  obtain ⟨ao, cap, rfl, -⟩ := hc.shape
  obtain ⟨bo, dap, rfl, -⟩ := hd.shape
  simp only at hc hd hw hv
  show Calls Tryd.prog 7 #[.agg #[.string name, .int .i64 regs, .slice ao code.length cap], .agg #[.string name', .int .i64 regs', .slice bo code'.length dap], .int .u16 c] W _
  obtain ⟨n, HN⟩ := named code.length
  obtain ⟨m, HM⟩ := named code'.length
  rw [← HN.out] at hc ⊢
  rw [← HM.out] at hd ⊢
  have HC := hide hc
  have HD := hide hd
  have HWF := hide hw
  have HVF := hide hv
  have HL := hide hl
  obtain ⟨pb, HPB⟩ := named W.heap.size
  obtain ⟨qb, HQB⟩ := named (W.heap.size + 1)
  obtain ⟨W0, HW0⟩ := named (W.alloc (.cells #[.string name, .int .i64 regs, .slice ao n cap] 24))
  obtain ⟨W1, HW1⟩ := named (W0.alloc (.cells #[.string name', .int .i64 regs', .slice bo m dap] 24))
  have hz0 : W0.heap.size = W.heap.size + 1 := by rw [HW0.out]; simp
  have hb0 : Below W.heap.size W W0 := by rw [HW0.out]; exact (Below.refl _ _).alloc (Nat.le_refl _) _
  have hb1 : Below W0.heap.size W0 W1 := by rw [HW1.out]; exact (Below.refl _ _).alloc (Nat.le_refl _) _
  have hp0 : C3 W0 pb (.string name) (.int .i64 regs) (.slice ao n cap) := by rw [HW0.out, HPB.out]; exact C3.new _ _ _ _ _
  have HP1 := hide (hp0.below hb1)
  have HQ1 := hide (show C3 W1 qb (.string name') (.int .i64 regs') (.slice bo m dap) by rw [HW1.out, HQB.out, ← hz0]; exact C3.new _ _ _ _ _)
  have HB1 := hide (below_call hb0 hb1)
  clear hc hd hw hv hl hb0 hb1 hp0 hz0
  go_enter Tryd.func7, Tryd.ntmps7
  go_wp2_with fail
  rw [← HW0.out, ← HW1.out, ← HQB.out, ← HPB.out]
  refine (great_any ⟨name, regs, code⟩ (.slice ao n cap) W1 (HC.out.below HB1.out)).mono ?_
  rintro e w2 ⟨v2, rfl, hg, hb2⟩
  have HB2 := hide (below_call HB1.out hb2)
  have HP2 := hide (HP1.out.below hb2)
  have HQ2 := hide (HQ1.out.below hb2)
  clear hb2
  obtain ⟨g, rfl, hgf⟩ := hg
  clear hgf
  cases g with
  | true =>
    go_wp2_with fail
    refine (awake_true w2 (HL.out.below HB2.out)).mono ?_
    rintro e w9 ⟨rfl, hb9⟩
    go_wp2
    go_ret
    exact ⟨rfl, below_call HB2.out hb9⟩
  | false =>
    obtain ⟨-, y0, y1, y2, -⟩ := id HQ2.out
    go_wp2_with fail
    refine (great_any ⟨name', regs', code'⟩ (.slice bo m dap) w2 (HD.out.below HB2.out)).mono ?_
    rintro e w3 ⟨v3, rfl, hg, hb3⟩
    have HB3 := hide (below_call HB2.out hb3)
    have HP3 := hide (HP2.out.below hb3)
    have HQ3 := hide (HQ2.out.below hb3)
    clear hb3 y0 y1 y2
    obtain ⟨g, rfl, hgf⟩ := hg
    clear hgf
    cases g with
    | true =>
      go_wp2_with fail
      refine (awake_true w3 (HL.out.below HB3.out)).mono ?_
      rintro e w9 ⟨rfl, hb9⟩
      go_wp2
      go_ret
      exact ⟨rfl, below_call HB3.out hb9⟩
    | false =>
      obtain ⟨-, x0, x1, x2, -⟩ := id HP3.out
      go_wp2_with fail
      refine (bytes_any ⟨name, regs, code⟩ (.slice ao n cap) w3 (HL.out.below HB3.out).kinds (HC.out.below HB3.out) HWF.out).mono ?_
      rintro e w4 ⟨va, rfl, hoa, hb4⟩
      obtain ⟨oa, cpa, hva, -⟩ := id hoa.rd
      subst hva
      have HB4 := hide (below_call HB3.out hb4)
      have HP4 := hide (HP3.out.below hb4)
      have HQ4 := hide (HQ3.out.below hb4)
      clear x0 x1 x2 hb4
      obtain ⟨-, y0, y1, y2, -⟩ := id HQ4.out
      go_wp2_with fail
      refine (bytes_any ⟨name', regs', code'⟩ (.slice bo m dap) w4 (HL.out.below HB4.out).kinds (HD.out.below HB4.out) HVF.out).mono ?_
      rintro e w5 ⟨vb, rfl, hob, hb5⟩
      obtain ⟨ob, cpb, hvb, -⟩ := id hob.rd
      subst hvb
      have HB5 := hide (below_call HB4.out hb5)
      have HP5 := hide (HP4.out.below hb5)
      have HQ5 := hide (HQ4.out.below hb5)
      have hoa5 := hoa.below hb5
      clear y0 y1 y2 hb5 hoa
      cases hok : okP ⟨name, regs, code⟩ 20 with
      | false =>
        rw [show errP ⟨name, regs, code⟩ 20 = 100 by unfold errP; rw [hok]; rfl]
        go_wp2_with fail
        refine (awake_true w5 (HL.out.below HB5.out)).mono ?_
        rintro e w9 ⟨rfl, hb9⟩
        go_wp2
        go_ret
        exact ⟨rfl, below_call HB5.out hb9⟩
      | true =>
        rw [show errP ⟨name, regs, code⟩ 20 = 0 by unfold errP; rw [hok]; rfl]
        rw [show bytesR ⟨name, regs, code⟩ = bytesP ⟨name, regs, code⟩ by unfold bytesR; rw [hok, if_pos rfl]] at hoa5 ⊢
        have HOK := hide hok
        have HLZ := hide (bytesP_len _ hok)
        have hzp := bytesP_pos ⟨name, regs, code⟩
        obtain ⟨z, HZ⟩ := named (bytesP ⟨name, regs, code⟩).length
        rw [← HZ.out] at hzp hoa5 HLZ ⊢
        have hzn : ¬ ((z : Int) = 0) := by omega
        have hznb : ((z : Int) == 0) = false := beq_eq_false_iff_ne.2 hzn
        obtain ⟨ga, hga, hcz⟩ : ∃ g, oa = some ⟨g, 0, none⟩ ∧ z ≤ cpa := by
          rcases hoa5.shape with ⟨h1, h2⟩ | ⟨g, cp, h1, -, -, h4, -⟩
          · have := congrArg List.length h2
            rw [← HZ.out] at this
            simp at this
            omega
          · rw [← HZ.out] at h1 h4
            cases h1
            exact ⟨g, rfl, h4⟩
        subst hga
        have HOA := hide hoa5
        have hs0 : w5.drew.cell? ⟨pb, 0, none⟩ = some (.string name) ∧ w5.drew.cell? ⟨pb, 1, none⟩ = some (.int .i64 regs) ∧ w5.drew.cell? ⟨pb, 2, none⟩ = some (.slice ao n cap) ∧ w5.drew.cell? ⟨qb, 0, none⟩ = some (.string name') ∧ w5.drew.cell? ⟨qb, 1, none⟩ = some (.int .i64 regs') ∧ w5.drew.cell? ⟨qb, 2, none⟩ = some (.slice bo m dap) := ⟨HP5.out.2.1, HP5.out.2.2.1, HP5.out.2.2.2.1, HQ5.out.2.1, HQ5.out.2.2.1, HQ5.out.2.2.2.1⟩
        cases hok2 : okP ⟨name', regs', code'⟩ 20 with
        | false =>
          rw [show errP ⟨name', regs', code'⟩ 20 = 100 by unfold errP; rw [hok2]; rfl]
          obtain ⟨nb, HNB⟩ := named (bytesR ⟨name', regs', code'⟩).length
          rw [← HNB.out] at hob ⊢
          go_wp2_with fail
          refine wp_region_held_drew (S := (fun u => u.cell? ⟨pb, 0, none⟩ = some (.string name) ∧ u.cell? ⟨pb, 1, none⟩ = some (.int .i64 regs) ∧ u.cell? ⟨pb, 2, none⟩ = some (.slice ao n cap) ∧ u.cell? ⟨qb, 0, none⟩ = some (.string name') ∧ u.cell? ⟨qb, 1, none⟩ = some (.int .i64 regs') ∧ u.cell? ⟨qb, 2, none⟩ = some (.slice bo m dap))) (by kernel_rfl) hs0 (fun _ => ?_)
          refine wpAnyH_take (i := 0) (oi := { dst := some 35, op := Go.Op.move (Go.Operand.tmp 7), type := 25, pos := "outright.go:99", after := #[], guard := none }) (v := ?_) rfl (by kernel_rfl) (by kernel_rfl) (by kernel_rfl) (fun _ _ _ h => h) (Or.inl ⟨by rfl, ?hy1⟩) hs0 ?_
          case hy1 =>
            intro u hu
            obtain ⟨u0, u1, u2, u3, u4, u5⟩ := hu
            go_simp
            try with_reducible rfl
          simp only [Act.put, List.setIfInBounds_toArray, List.set_cons_zero, List.set_cons_succ]
          refine wpAnyH_ready (rs := [1]) (by kernel_rfl) (by simp) ?_
          refine AllReadyH.cons (o := { dst := some 36, op := Go.Op.call { callee := Go.Callee.builtin Go.Builtin.len, args := #[Go.Operand.tmp 35], argTypes := #[25] }, type := 3, pos := "outright.go:99", after := #[{ on := 0, ground := Go.Ground.data }], guard := none }) rfl (fun K hK => ?_) AllReadyH.nil
          go_simp
          refine hK.out _ _ hs0 (fun _ => ?_)
          clear hK K
          try simp only [Act.put, List.setIfInBounds_toArray, List.set_cons_zero, List.set_cons_succ]
          refine wpAnyH_take (i := 2) (oi := { dst := some 37, op := Go.Op.binOp Go.BinOp.eql 3 (Go.Operand.tmp 36) (Go.Operand.const (Go.Value.int Go.IntKind.i64 0)) 3, type := 4, pos := "outright.go:99", after := #[{ on := 1, ground := Go.Ground.data }], guard := none }) (v := ?_) rfl (by kernel_rfl) (by kernel_rfl) (by kernel_rfl) (fun _ _ _ h => h) (Or.inl ⟨by rfl, ?hy3⟩) hs0 ?_
          case hy3 =>
            intro u hu
            obtain ⟨u0, u1, u2, u3, u4, u5⟩ := hu
            go_simp
            try with_reducible rfl
          simp only [Act.put, List.setIfInBounds_toArray, List.set_cons_zero, List.set_cons_succ]
          refine wpAnyH_take (i := 3) (oi := { dst := some 38, op := Go.Op.move (Go.Operand.tmp 37), type := 4, pos := "outright.go:99", after := #[{ on := 2, ground := Go.Ground.data }], guard := none }) (v := ?_) rfl (by kernel_rfl) (by kernel_rfl) (by kernel_rfl) (fun _ _ _ h => h) (Or.inl ⟨by rfl, ?hy4⟩) hs0 ?_
          case hy4 =>
            intro u hu
            obtain ⟨u0, u1, u2, u3, u4, u5⟩ := hu
            go_simp
            try with_reducible rfl
          simp only [Act.put, List.setIfInBounds_toArray, List.set_cons_zero, List.set_cons_succ]
          refine wpAnyH_take (i := 4) (oi := { dst := some 39, op := Go.Op.move (Go.Operand.tmp 10), type := 33, pos := "outright.go:99", after := #[{ on := 3, ground := Go.Ground.guard }], guard := some (3, false) }) (v := ?_) rfl (by kernel_rfl) (by kernel_rfl) (by kernel_rfl) (fun _ _ _ h => h) (Or.inl ⟨by rfl, ?hy5⟩) hs0 ?_
          case hy5 =>
            intro u hu
            obtain ⟨u0, u1, u2, u3, u4, u5⟩ := hu
            go_simp
            try with_reducible rfl
          simp only [Act.put, List.setIfInBounds_toArray, List.set_cons_zero, List.set_cons_succ]
          refine wpAnyH_take (i := 5) (oi := { dst := some 40, op := Go.Op.binOp Go.BinOp.eql 33 (Go.Operand.tmp 39) (Go.Operand.const (Go.Value.int Go.IntKind.i64 0)) 33, type := 4, pos := "outright.go:99", after := #[{ on := 4, ground := Go.Ground.data }, { on := 3, ground := Go.Ground.guard }], guard := some (3, false) }) (v := ?_) rfl (by kernel_rfl) (by kernel_rfl) (by kernel_rfl) (fun _ _ _ h => h) (Or.inl ⟨by rfl, ?hy6⟩) hs0 ?_
          case hy6 =>
            intro u hu
            obtain ⟨u0, u1, u2, u3, u4, u5⟩ := hu
            go_simp
            try with_reducible rfl
          simp only [Act.put, List.setIfInBounds_toArray, List.set_cons_zero, List.set_cons_succ]
          refine wpAnyH_take (i := 6) (oi := { dst := some 41, op := Go.Op.move (Go.Operand.tmp 40), type := 4, pos := "outright.go:99", after := #[{ on := 5, ground := Go.Ground.data }, { on := 3, ground := Go.Ground.chain }, { on := 3, ground := Go.Ground.guard }], guard := some (3, false) }) (v := ?_) rfl (by kernel_rfl) (by kernel_rfl) (by kernel_rfl) (fun _ _ _ h => h) (Or.inl ⟨by rfl, ?hy7⟩) hs0 ?_
          case hy7 =>
            intro u hu
            obtain ⟨u0, u1, u2, u3, u4, u5⟩ := hu
            go_simp
            try with_reducible rfl
          simp only [Act.put, List.setIfInBounds_toArray, List.set_cons_zero, List.set_cons_succ]
          refine wpAnyH_take (i := 7) (oi := { dst := some 42, op := Go.Op.move (Go.Operand.tmp 7), type := 25, pos := "outright.go:99", after := #[{ on := 6, ground := Go.Ground.guard }], guard := some (6, true) }) (v := undef) rfl (by kernel_rfl) (by kernel_rfl) (by kernel_rfl) (fun _ _ _ h => h) (Or.inr ⟨by rfl, rfl⟩) hs0 ?_
          simp only [Act.put, List.setIfInBounds_toArray, List.set_cons_zero, List.set_cons_succ]
          refine wpAnyH_take (i := 8) (oi := { dst := some 43, op := Go.Op.move (Go.Operand.tmp 9), type := 25, pos := "outright.go:99", after := #[{ on := 6, ground := Go.Ground.guard }], guard := some (6, true) }) (v := undef) rfl (by kernel_rfl) (by kernel_rfl) (by kernel_rfl) (fun _ _ _ h => h) (Or.inr ⟨by rfl, rfl⟩) hs0 ?_
          simp only [Act.put, List.setIfInBounds_toArray, List.set_cons_zero, List.set_cons_succ]
          refine wpAnyH_take (i := 9) (oi := { dst := some 44, op := Go.Op.call { callee := Go.Callee.value (Go.Operand.func 16), args := #[Go.Operand.tmp 42, Go.Operand.tmp 43], argTypes := #[25, 25] }, type := 4, pos := "outright.go:99", after := #[{ on := 7, ground := Go.Ground.data }, { on := 8, ground := Go.Ground.data }, { on := 6, ground := Go.Ground.chain }, { on := 6, ground := Go.Ground.guard }], guard := some (6, true) }) (v := undef) rfl (by kernel_rfl) (by kernel_rfl) (by kernel_rfl) (fun _ _ _ h => h) (Or.inr ⟨by rfl, rfl⟩) hs0 ?_
          simp only [Act.put, List.setIfInBounds_toArray, List.set_cons_zero, List.set_cons_succ]
          refine wpAnyH_take (i := 10) (oi := { dst := some 45, op := Go.Op.load 24 (Go.Operand.tmp 3), type := 24, pos := "outright.go:99", after := #[{ on := 6, ground := Go.Ground.guard }], guard := some (6, true) }) (v := undef) rfl (by kernel_rfl) (by kernel_rfl) (by kernel_rfl) (fun _ _ _ h => h) (Or.inr ⟨by rfl, rfl⟩) hs0 ?_
          simp only [Act.put, List.setIfInBounds_toArray, List.set_cons_zero, List.set_cons_succ]
          refine wpAnyH_take (i := 11) (oi := { dst := some 46, op := Go.Op.load 24 (Go.Operand.tmp 4), type := 24, pos := "outright.go:99", after := #[{ on := 6, ground := Go.Ground.guard }], guard := some (6, true) }) (v := undef) rfl (by kernel_rfl) (by kernel_rfl) (by kernel_rfl) (fun _ _ _ h => h) (Or.inr ⟨by rfl, rfl⟩) hs0 ?_
          simp only [Act.put, List.setIfInBounds_toArray, List.set_cons_zero, List.set_cons_succ]
          refine wpAnyH_take (i := 12) (oi := { dst := some 47, op := Go.Op.call { callee := Go.Callee.value (Go.Operand.func 17), args := #[Go.Operand.tmp 45, Go.Operand.tmp 46], argTypes := #[24, 24] }, type := 4, pos := "outright.go:99", after := #[{ on := 10, ground := Go.Ground.data }, { on := 11, ground := Go.Ground.data }, { on := 9, ground := Go.Ground.chain }, { on := 6, ground := Go.Ground.guard }], guard := some (6, true) }) (v := undef) rfl (by kernel_rfl) (by kernel_rfl) (by kernel_rfl) (fun _ _ _ h => h) (Or.inr ⟨by rfl, rfl⟩) hs0 ?_
          simp only [Act.put, List.setIfInBounds_toArray, List.set_cons_zero, List.set_cons_succ]
          refine wpAnyH_take (i := 13) (oi := { dst := some 48, op := Go.Op.binOp Go.BinOp.neq 4 (Go.Operand.tmp 44) (Go.Operand.tmp 47) 4, type := 4, pos := "outright.go:99", after := #[{ on := 9, ground := Go.Ground.data }, { on := 12, ground := Go.Ground.data }, { on := 6, ground := Go.Ground.guard }], guard := some (6, true) }) (v := undef) rfl (by kernel_rfl) (by kernel_rfl) (by kernel_rfl) (fun _ _ _ h => h) (Or.inr ⟨by rfl, rfl⟩) hs0 ?_
          simp only [Act.put, List.setIfInBounds_toArray, List.set_cons_zero, List.set_cons_succ]
          refine wpAnyH_take (i := 14) (oi := { dst := some 49, op := Go.Op.pick (Go.Operand.tmp 41) (Go.Operand.tmp 48) (Go.Operand.const (Go.Value.bool false)), type := 4, pos := "outright.go:99", after := #[{ on := 6, ground := Go.Ground.data }, { on := 13, ground := Go.Ground.data }, { on := 3, ground := Go.Ground.guard }], guard := some (3, false) }) (v := ?_) rfl (by kernel_rfl) (by kernel_rfl) (by kernel_rfl) (fun _ _ _ h => h) (Or.inl ⟨by rfl, ?hy15⟩) hs0 ?_
          case hy15 =>
            intro u hu
            obtain ⟨u0, u1, u2, u3, u4, u5⟩ := hu
            go_simp
            try with_reducible rfl
          simp only [Act.put, List.setIfInBounds_toArray, List.set_cons_zero, List.set_cons_succ]
          refine wpAnyH_take (i := 15) (oi := { dst := some 50, op := Go.Op.pick (Go.Operand.tmp 38) (Go.Operand.const (Go.Value.bool true)) (Go.Operand.tmp 49), type := 4, pos := "outright.go:99", after := #[{ on := 3, ground := Go.Ground.data }, { on := 14, ground := Go.Ground.data }], guard := none }) (v := ?_) rfl (by kernel_rfl) (by kernel_rfl) (by kernel_rfl) (fun _ _ _ h => h) (Or.inl ⟨by rfl, ?hy16⟩) hs0 ?_
          case hy16 =>
            intro u hu
            obtain ⟨u0, u1, u2, u3, u4, u5⟩ := hu
            go_simp
            try with_reducible rfl
          simp only [Act.put, List.setIfInBounds_toArray, List.set_cons_zero, List.set_cons_succ]
          refine wpAnyH_done (by kernel_rfl) ?_ _
          have hba : Below w5.heap.size w5 w5.drew := (Below.refl _ _).drew
          have HBA := hide (below_call HB5.out hba)
          have hkz : (c % (z : Int)).toNat < z := by
            have h1 := Int.emod_lt_of_pos c (show (0 : Int) < z by omega)
            have h2 := Int.emod_nonneg c (show (z : Int) ≠ 0 by omega)
            omega
          have hkz0 : 0 ≤ c % (z : Int) := Int.emod_nonneg c (by omega)
          obtain ⟨kc, HKC⟩ := named (c % (z : Int)).toNat
          have hkI : c % (z : Int) = (kc : Int) := by rw [HKC.out]; omega
          rw [← HKC.out] at hkz
          have hza : kc ≤ (bytesP ⟨name, regs, code⟩).length := by rw [← HZ.out]; omega
          have hrk : Rd w5.drew (.slice (some ⟨ga, 0, none⟩) kc cpa) ((bytesP ⟨name, regs, code⟩).take kc) := by
            have h1 := (HOA.out.below hba).rd
            rw [← List.take_append_drop kc (bytesP ⟨name, regs, code⟩)] at h1
            have h2 := Rd.front h1
            rw [List.length_take, Nat.min_eq_left hza] at h2
            exact h2
          have kr1 := read_any _ _ w5.drew (HL.out.below HBA.out).kinds hrk (by rw [List.length_take]; have := HLZ.out; omega)
          have hc1 := read_cut _ HOK.out HWF.out kc (by rw [← HZ.out]; exact hkz)
          rw [read_none _ hc1] at kr1
          have hle : (kc : Int) ≤ (cpa : Int) := by omega
          have hle2 : kc ≤ cpa := by omega
          go_wp2_with fail
          refine kr1.mono ?_
          rintro e w6 ⟨cq, rfl, hcq, hb6⟩
          clear kr1
          try simp only at hcq
          obtain ⟨qo, qcap, hqv, -⟩ := hcq.shape
          rw [show (Prg.code noP).length = 0 from rfl] at hqv
          subst hqv
          rw [show prgV noP (.slice qo 0 qcap) = .agg #[.string ⟨#[]⟩, .int .i64 0, .slice qo 0 qcap] from rfl]
          obtain ⟨W7, HW7⟩ := named (w6.alloc (.cells #[.string ⟨#[]⟩, .int .i64 0, .slice qo 0 qcap] 24))
          have hb7 : Below w6.heap.size w6 W7 := by rw [HW7.out]; exact (Below.refl _ _).alloc (Nat.le_refl _) _
          have HB7 := hide (below_call (below_call HBA.out hb6) hb7)
          have hoa7 := HOA.out.below (below_call (below_call hba hb6) hb7)
          clear hcq hb6 hb7 hrk
          have kcp := copyBytes_any _ _ W7 hoa7.rd (by rw [← HZ.out]; have := HLZ.out; omega)
          go_wp2_with fail
          rw [← HW7.out]
          refine kcp.mono ?_
          rintro e w8 ⟨vc, rfl, hoc, hb8⟩
          clear kcp
          have HB8 := hide (below_call HB7.out hb8)
          obtain ⟨x, HX⟩ : ∃ x : UInt8, Hid (x = UInt8.ofNat (c % 256).toNat) := ⟨_, rfl⟩
          have hxc : c % 256 = (x.toNat : Int) := by rw [HX.out, UInt8.toNat_ofNat']; omega
          obtain ⟨oc, cpc, hvc, -⟩ := id hoc.rd
          rw [← HZ.out] at hvc
          subst hvc
          obtain ⟨i5, hi5, hz5, hs5, hb5'⟩ := info_parts Tryd.info5
          obtain ⟨v10, w10, hr10, ho10, hg10⟩ := run_append_rd (P := Tryd.prog) (w8.alloc (.cells #[.int .u8 (c % 256)] 5)) 25 25 i5 Tryd.underlying25 hi5 hz5 hs5 hb5' W7.heap.size _ (.slice (some ⟨w8.heap.size, 0, none⟩) 1 1) _ [x] (hoc.alloc _) (Rd.one _ _ _ _ hxc) (by rw [← HZ.out]; have := HLZ.out; simp; omega) (by have := hb8.size; simp; omega)
          have hb10 : Below W7.heap.size W7 w10 := by
            have h1 : Below W7.heap.size W7 (w8.alloc (.cells #[.int .u8 (c % 256)] 5)) := hb8.alloc hb8.size _
            exact h1.grown hg10 h1.size (fun k hk => (World.ownsRow.lt hoc k hk).1)
          have HB10 := hide (below_call HB7.out hb10)
          have kr2 := read_any _ _ w10 (HL.out.below HB10.out).kinds ho10.rd (by rw [List.length_append, ← HZ.out]; have := HLZ.out; simp; omega)
          have hc2 := read_more _ HOK.out HWF.out x
          rw [read_none _ hc2] at kr2
          obtain ⟨o10, cp10, hv10, -⟩ := id ho10.rd
          rw [List.length_append, ← HZ.out] at hv10
          rw [hv10] at kr2 hr10
          rw [hxc] at hr10
          clear ho10 hg10 hoc hb8 hb10 hc2
          go_wp2_with (at_builtin; go_must (refine Lib.wpList_append_run _ rfl _ _ _ _ rfl _ _ rfl rfl _ _ hr10 ?_))
          refine Calls.mono (show Calls Tryd.prog 12 #[.slice o10 (z + 1) cp10] w10 _ from kr2) ?_
          rintro e w11 ⟨cq2, rfl, hcq2, hb11⟩
          clear kr2
          try simp only at hcq2
          obtain ⟨qo2, qcap2, hqv2, -⟩ := hcq2.shape
          rw [show (Prg.code noP).length = 0 from rfl] at hqv2
          subst hqv2
          rw [show prgV noP (.slice qo2 0 qcap2) = .agg #[.string ⟨#[]⟩, .int .i64 0, .slice qo2 0 qcap2] from rfl]
          obtain ⟨W12, HW12⟩ := named (w11.alloc (.cells #[.string ⟨#[]⟩, .int .i64 0, .slice qo2 0 qcap2] 24))
          have hb12 : Below w11.heap.size w11 W12 := by rw [HW12.out]; exact (Below.refl _ _).alloc (Nat.le_refl _) _
          have HB12 := hide (below_call (below_call HB10.out hb11) hb12)
          clear hcq2 hb11 hb12
          go_wp2_with fail
          rw [← HW12.out]
          refine (awake_true W12 (HL.out.below HB12.out)).mono ?_
          rintro e w9 ⟨rfl, hb9⟩
          go_wp2
          go_ret
          exact ⟨rfl, below_call HB12.out hb9⟩

        | true =>
          rw [show errP ⟨name', regs', code'⟩ 20 = 0 by unfold errP; rw [hok2]; rfl]
          rw [show bytesR ⟨name', regs', code'⟩ = bytesP ⟨name', regs', code'⟩ by unfold bytesR; rw [hok2, if_pos rfl]] at hob ⊢
          have hrda : Rd w5.drew (.slice (some ⟨ga, 0, none⟩) z cpa) (bytesP ⟨name, regs, code⟩) := HOA.out.rd
          have hrdb : Rd w5.drew (.slice ob (bytesP ⟨name', regs', code'⟩).length cpb) (bytesP ⟨name', regs', code'⟩) := hob.rd
          have ks := same_any _ _ _ _ w5.drew hrda hrdb
          have hD : decide (bytesP ⟨name, regs, code⟩ = bytesP ⟨name', regs', code'⟩) = sameP ⟨name, regs, code⟩ ⟨name', regs', code'⟩ := by
            rw [Bool.eq_iff_iff, decide_eq_true_eq, sameP_eq]
            constructor
            · exact fun h => bytesP_inj _ _ hok HWF.out hok2 HVF.out h
            · exact fun h => by rw [h]
          rw [hD] at ks
          have kp := sameP_any ⟨name, regs, code⟩ ⟨name', regs', code'⟩ (.slice ao n cap) (.slice bo m dap) w5.drew (HC.out.below (HB5.out.drew)) (HD.out.below (HB5.out.drew))
          obtain ⟨nb, HNB⟩ := named (bytesP ⟨name', regs', code'⟩).length
          rw [← HNB.out] at ks ⊢
          clear hob hrda hrdb hD
          cases hDD : sameP ⟨name, regs, code⟩ ⟨name', regs', code'⟩ with
          | true =>
            rw [hDD] at ks kp
            go_wp2_with fail
            refine wp_region_held_drew (S := (fun u => u.cell? ⟨pb, 0, none⟩ = some (.string name) ∧ u.cell? ⟨pb, 1, none⟩ = some (.int .i64 regs) ∧ u.cell? ⟨pb, 2, none⟩ = some (.slice ao n cap) ∧ u.cell? ⟨qb, 0, none⟩ = some (.string name') ∧ u.cell? ⟨qb, 1, none⟩ = some (.int .i64 regs') ∧ u.cell? ⟨qb, 2, none⟩ = some (.slice bo m dap))) (by kernel_rfl) hs0 (fun _ => ?_)
            refine wpAnyH_take (i := 0) (oi := { dst := some 35, op := Go.Op.move (Go.Operand.tmp 7), type := 25, pos := "outright.go:99", after := #[], guard := none }) (v := ?_) rfl (by kernel_rfl) (by kernel_rfl) (by kernel_rfl) (fun _ _ _ h => h) (Or.inl ⟨by rfl, ?hy17⟩) hs0 ?_
            case hy17 =>
              intro u hu
              obtain ⟨u0, u1, u2, u3, u4, u5⟩ := hu
              go_simp
              try with_reducible rfl
            simp only [Act.put, List.setIfInBounds_toArray, List.set_cons_zero, List.set_cons_succ]
            refine wpAnyH_ready (rs := [1]) (by kernel_rfl) (by simp) ?_
            refine AllReadyH.cons (o := { dst := some 36, op := Go.Op.call { callee := Go.Callee.builtin Go.Builtin.len, args := #[Go.Operand.tmp 35], argTypes := #[25] }, type := 3, pos := "outright.go:99", after := #[{ on := 0, ground := Go.Ground.data }], guard := none }) rfl (fun K hK => ?_) AllReadyH.nil
            go_simp
            refine hK.out _ _ hs0 (fun _ => ?_)
            clear hK K
            try simp only [Act.put, List.setIfInBounds_toArray, List.set_cons_zero, List.set_cons_succ]
            refine wpAnyH_take (i := 2) (oi := { dst := some 37, op := Go.Op.binOp Go.BinOp.eql 3 (Go.Operand.tmp 36) (Go.Operand.const (Go.Value.int Go.IntKind.i64 0)) 3, type := 4, pos := "outright.go:99", after := #[{ on := 1, ground := Go.Ground.data }], guard := none }) (v := ?_) rfl (by kernel_rfl) (by kernel_rfl) (by kernel_rfl) (fun _ _ _ h => h) (Or.inl ⟨by rfl, ?hy19⟩) hs0 ?_
            case hy19 =>
              intro u hu
              obtain ⟨u0, u1, u2, u3, u4, u5⟩ := hu
              go_simp
              try with_reducible rfl
            simp only [Act.put, List.setIfInBounds_toArray, List.set_cons_zero, List.set_cons_succ]
            refine wpAnyH_take (i := 3) (oi := { dst := some 38, op := Go.Op.move (Go.Operand.tmp 37), type := 4, pos := "outright.go:99", after := #[{ on := 2, ground := Go.Ground.data }], guard := none }) (v := ?_) rfl (by kernel_rfl) (by kernel_rfl) (by kernel_rfl) (fun _ _ _ h => h) (Or.inl ⟨by rfl, ?hy20⟩) hs0 ?_
            case hy20 =>
              intro u hu
              obtain ⟨u0, u1, u2, u3, u4, u5⟩ := hu
              go_simp
              try with_reducible rfl
            simp only [Act.put, List.setIfInBounds_toArray, List.set_cons_zero, List.set_cons_succ]
            refine wpAnyH_take (i := 4) (oi := { dst := some 39, op := Go.Op.move (Go.Operand.tmp 10), type := 33, pos := "outright.go:99", after := #[{ on := 3, ground := Go.Ground.guard }], guard := some (3, false) }) (v := ?_) rfl (by kernel_rfl) (by kernel_rfl) (by kernel_rfl) (fun _ _ _ h => h) (Or.inl ⟨by rfl, ?hy21⟩) hs0 ?_
            case hy21 =>
              intro u hu
              obtain ⟨u0, u1, u2, u3, u4, u5⟩ := hu
              go_simp
              try with_reducible rfl
            simp only [Act.put, List.setIfInBounds_toArray, List.set_cons_zero, List.set_cons_succ]
            refine wpAnyH_take (i := 5) (oi := { dst := some 40, op := Go.Op.binOp Go.BinOp.eql 33 (Go.Operand.tmp 39) (Go.Operand.const (Go.Value.int Go.IntKind.i64 0)) 33, type := 4, pos := "outright.go:99", after := #[{ on := 4, ground := Go.Ground.data }, { on := 3, ground := Go.Ground.guard }], guard := some (3, false) }) (v := ?_) rfl (by kernel_rfl) (by kernel_rfl) (by kernel_rfl) (fun _ _ _ h => h) (Or.inl ⟨by rfl, ?hy22⟩) hs0 ?_
            case hy22 =>
              intro u hu
              obtain ⟨u0, u1, u2, u3, u4, u5⟩ := hu
              go_simp
              try with_reducible rfl
            simp only [Act.put, List.setIfInBounds_toArray, List.set_cons_zero, List.set_cons_succ]
            refine wpAnyH_take (i := 6) (oi := { dst := some 41, op := Go.Op.move (Go.Operand.tmp 40), type := 4, pos := "outright.go:99", after := #[{ on := 5, ground := Go.Ground.data }, { on := 3, ground := Go.Ground.chain }, { on := 3, ground := Go.Ground.guard }], guard := some (3, false) }) (v := ?_) rfl (by kernel_rfl) (by kernel_rfl) (by kernel_rfl) (fun _ _ _ h => h) (Or.inl ⟨by rfl, ?hy23⟩) hs0 ?_
            case hy23 =>
              intro u hu
              obtain ⟨u0, u1, u2, u3, u4, u5⟩ := hu
              go_simp
              try with_reducible rfl
            simp only [Act.put, List.setIfInBounds_toArray, List.set_cons_zero, List.set_cons_succ]
            refine wpAnyH_take (i := 7) (oi := { dst := some 42, op := Go.Op.move (Go.Operand.tmp 7), type := 25, pos := "outright.go:99", after := #[{ on := 6, ground := Go.Ground.guard }], guard := some (6, true) }) (v := ?_) rfl (by kernel_rfl) (by kernel_rfl) (by kernel_rfl) (fun _ _ _ h => h) (Or.inl ⟨by rfl, ?hy24⟩) hs0 ?_
            case hy24 =>
              intro u hu
              obtain ⟨u0, u1, u2, u3, u4, u5⟩ := hu
              go_simp
              try with_reducible rfl
            simp only [Act.put, List.setIfInBounds_toArray, List.set_cons_zero, List.set_cons_succ]
            refine wpAnyH_take (i := 8) (oi := { dst := some 43, op := Go.Op.move (Go.Operand.tmp 9), type := 25, pos := "outright.go:99", after := #[{ on := 6, ground := Go.Ground.guard }], guard := some (6, true) }) (v := ?_) rfl (by kernel_rfl) (by kernel_rfl) (by kernel_rfl) (fun _ _ _ h => h) (Or.inl ⟨by rfl, ?hy25⟩) hs0 ?_
            case hy25 =>
              intro u hu
              obtain ⟨u0, u1, u2, u3, u4, u5⟩ := hu
              go_simp
              try with_reducible rfl
            simp only [Act.put, List.setIfInBounds_toArray, List.set_cons_zero, List.set_cons_succ]
            refine wpAnyH_take (i := 10) (oi := { dst := some 45, op := Go.Op.load 24 (Go.Operand.tmp 3), type := 24, pos := "outright.go:99", after := #[{ on := 6, ground := Go.Ground.guard }], guard := some (6, true) }) (v := ?_) rfl (by kernel_rfl) (by kernel_rfl) (by kernel_rfl) (fun _ _ _ h => h) (Or.inl ⟨by rfl, ?hy26⟩) hs0 ?_
            case hy26 =>
              intro u hu
              obtain ⟨u0, u1, u2, u3, u4, u5⟩ := hu
              go_simp
              try with_reducible rfl
            simp only [Act.put, List.setIfInBounds_toArray, List.set_cons_zero, List.set_cons_succ]
            refine wpAnyH_take (i := 11) (oi := { dst := some 46, op := Go.Op.load 24 (Go.Operand.tmp 4), type := 24, pos := "outright.go:99", after := #[{ on := 6, ground := Go.Ground.guard }], guard := some (6, true) }) (v := ?_) rfl (by kernel_rfl) (by kernel_rfl) (by kernel_rfl) (fun _ _ _ h => h) (Or.inl ⟨by rfl, ?hy27⟩) hs0 ?_
            case hy27 =>
              intro u hu
              obtain ⟨u0, u1, u2, u3, u4, u5⟩ := hu
              go_simp
              try with_reducible rfl
            simp only [Act.put, List.setIfInBounds_toArray, List.set_cons_zero, List.set_cons_succ]
            refine wpAnyH_ready (rs := [9]) (by kernel_rfl) (by simp) ?_
            refine AllReadyH.cons (o := { dst := some 44, op := Go.Op.call { callee := Go.Callee.value (Go.Operand.func 16), args := #[Go.Operand.tmp 42, Go.Operand.tmp 43], argTypes := #[25, 25] }, type := 4, pos := "outright.go:99", after := #[{ on := 7, ground := Go.Ground.data }, { on := 8, ground := Go.Ground.data }, { on := 6, ground := Go.Ground.chain }, { on := 6, ground := Go.Ground.guard }], guard := some (6, true) }) rfl (fun K hK => ?_) AllReadyH.nil
            go_simp
            refine Calls.mono ks ?_
            rintro e u1 ⟨rfl, rfl⟩
            refine hK.out _ _ hs0 (fun _ => ?_)
            clear hK K
            try simp only [Act.put, List.setIfInBounds_toArray, List.set_cons_zero, List.set_cons_succ]
            refine wpAnyH_ready (rs := [12]) (by kernel_rfl) (by simp) ?_
            refine AllReadyH.cons (o := { dst := some 47, op := Go.Op.call { callee := Go.Callee.value (Go.Operand.func 17), args := #[Go.Operand.tmp 45, Go.Operand.tmp 46], argTypes := #[24, 24] }, type := 4, pos := "outright.go:99", after := #[{ on := 10, ground := Go.Ground.data }, { on := 11, ground := Go.Ground.data }, { on := 9, ground := Go.Ground.chain }, { on := 6, ground := Go.Ground.guard }], guard := some (6, true) }) rfl (fun K hK => ?_) AllReadyH.nil
            go_simp
            refine Calls.mono kp ?_
            rintro e u2 ⟨rfl, hbu⟩
            have hbu : Below w5.heap.size w5 u2 := ⟨hbu.os, hbu.tape, hbu.output, hbu.size, hbu.block⟩
            have HBU := hide hbu
            have hs12 : u2.cell? ⟨pb, 0, none⟩ = some (.string name) ∧ u2.cell? ⟨pb, 1, none⟩ = some (.int .i64 regs) ∧ u2.cell? ⟨pb, 2, none⟩ = some (.slice ao n cap) ∧ u2.cell? ⟨qb, 0, none⟩ = some (.string name') ∧ u2.cell? ⟨qb, 1, none⟩ = some (.int .i64 regs') ∧ u2.cell? ⟨qb, 2, none⟩ = some (.slice bo m dap) := ⟨(HP5.out.below hbu).2.1, (HP5.out.below hbu).2.2.1, (HP5.out.below hbu).2.2.2.1, (HQ5.out.below hbu).2.1, (HQ5.out.below hbu).2.2.1, (HQ5.out.below hbu).2.2.2.1⟩
            clear hbu
            refine hK.out _ _ hs12 (fun _ => ?_)
            clear hK K
            try simp only [Act.put, List.setIfInBounds_toArray, List.set_cons_zero, List.set_cons_succ]
            refine wpAnyH_take (i := 13) (oi := { dst := some 48, op := Go.Op.binOp Go.BinOp.neq 4 (Go.Operand.tmp 44) (Go.Operand.tmp 47) 4, type := 4, pos := "outright.go:99", after := #[{ on := 9, ground := Go.Ground.data }, { on := 12, ground := Go.Ground.data }, { on := 6, ground := Go.Ground.guard }], guard := some (6, true) }) (v := ?_) rfl (by kernel_rfl) (by kernel_rfl) (by kernel_rfl) (fun _ _ _ h => h) (Or.inl ⟨by rfl, ?hy30⟩) hs12 ?_
            case hy30 =>
              intro u hu
              obtain ⟨u0, u1, u2, u3, u4, u5⟩ := hu
              go_simp
              try with_reducible rfl
            simp only [Act.put, List.setIfInBounds_toArray, List.set_cons_zero, List.set_cons_succ]
            refine wpAnyH_take (i := 14) (oi := { dst := some 49, op := Go.Op.pick (Go.Operand.tmp 41) (Go.Operand.tmp 48) (Go.Operand.const (Go.Value.bool false)), type := 4, pos := "outright.go:99", after := #[{ on := 6, ground := Go.Ground.data }, { on := 13, ground := Go.Ground.data }, { on := 3, ground := Go.Ground.guard }], guard := some (3, false) }) (v := ?_) rfl (by kernel_rfl) (by kernel_rfl) (by kernel_rfl) (fun _ _ _ h => h) (Or.inl ⟨by rfl, ?hy31⟩) hs12 ?_
            case hy31 =>
              intro u hu
              obtain ⟨u0, u1, u2, u3, u4, u5⟩ := hu
              go_simp
              try with_reducible rfl
            simp only [Act.put, List.setIfInBounds_toArray, List.set_cons_zero, List.set_cons_succ]
            refine wpAnyH_take (i := 15) (oi := { dst := some 50, op := Go.Op.pick (Go.Operand.tmp 38) (Go.Operand.const (Go.Value.bool true)) (Go.Operand.tmp 49), type := 4, pos := "outright.go:99", after := #[{ on := 3, ground := Go.Ground.data }, { on := 14, ground := Go.Ground.data }], guard := none }) (v := ?_) rfl (by kernel_rfl) (by kernel_rfl) (by kernel_rfl) (fun _ _ _ h => h) (Or.inl ⟨by rfl, ?hy32⟩) hs12 ?_
            case hy32 =>
              intro u hu
              obtain ⟨u0, u1, u2, u3, u4, u5⟩ := hu
              go_simp
              try with_reducible rfl
            simp only [Act.put, List.setIfInBounds_toArray, List.set_cons_zero, List.set_cons_succ]
            refine wpAnyH_done (by kernel_rfl) ?_ _
            have hba : Below w5.heap.size w5 u2 := HBU.out
            have HBA := hide (below_call HB5.out hba)
            have hkz : (c % (z : Int)).toNat < z := by
              have h1 := Int.emod_lt_of_pos c (show (0 : Int) < z by omega)
              have h2 := Int.emod_nonneg c (show (z : Int) ≠ 0 by omega)
              omega
            have hkz0 : 0 ≤ c % (z : Int) := Int.emod_nonneg c (by omega)
            obtain ⟨kc, HKC⟩ := named (c % (z : Int)).toNat
            have hkI : c % (z : Int) = (kc : Int) := by rw [HKC.out]; omega
            rw [← HKC.out] at hkz
            have hza : kc ≤ (bytesP ⟨name, regs, code⟩).length := by rw [← HZ.out]; omega
            have hrk : Rd u2 (.slice (some ⟨ga, 0, none⟩) kc cpa) ((bytesP ⟨name, regs, code⟩).take kc) := by
              have h1 := (HOA.out.below hba).rd
              rw [← List.take_append_drop kc (bytesP ⟨name, regs, code⟩)] at h1
              have h2 := Rd.front h1
              rw [List.length_take, Nat.min_eq_left hza] at h2
              exact h2
            have kr1 := read_any _ _ u2 (HL.out.below HBA.out).kinds hrk (by rw [List.length_take]; have := HLZ.out; omega)
            have hc1 := read_cut _ HOK.out HWF.out kc (by rw [← HZ.out]; exact hkz)
            rw [read_none _ hc1] at kr1
            have hle : (kc : Int) ≤ (cpa : Int) := by omega
            have hle2 : kc ≤ cpa := by omega
            go_wp2_with fail
            refine kr1.mono ?_
            rintro e w6 ⟨cq, rfl, hcq, hb6⟩
            clear kr1
            try simp only at hcq
            obtain ⟨qo, qcap, hqv, -⟩ := hcq.shape
            rw [show (Prg.code noP).length = 0 from rfl] at hqv
            subst hqv
            rw [show prgV noP (.slice qo 0 qcap) = .agg #[.string ⟨#[]⟩, .int .i64 0, .slice qo 0 qcap] from rfl]
            obtain ⟨W7, HW7⟩ := named (w6.alloc (.cells #[.string ⟨#[]⟩, .int .i64 0, .slice qo 0 qcap] 24))
            have hb7 : Below w6.heap.size w6 W7 := by rw [HW7.out]; exact (Below.refl _ _).alloc (Nat.le_refl _) _
            have HB7 := hide (below_call (below_call HBA.out hb6) hb7)
            have hoa7 := HOA.out.below (below_call (below_call hba hb6) hb7)
            clear hcq hb6 hb7 hrk
            have kcp := copyBytes_any _ _ W7 hoa7.rd (by rw [← HZ.out]; have := HLZ.out; omega)
            go_wp2_with fail
            rw [← HW7.out]
            refine kcp.mono ?_
            rintro e w8 ⟨vc, rfl, hoc, hb8⟩
            clear kcp
            have HB8 := hide (below_call HB7.out hb8)
            obtain ⟨x, HX⟩ : ∃ x : UInt8, Hid (x = UInt8.ofNat (c % 256).toNat) := ⟨_, rfl⟩
            have hxc : c % 256 = (x.toNat : Int) := by rw [HX.out, UInt8.toNat_ofNat']; omega
            obtain ⟨oc, cpc, hvc, -⟩ := id hoc.rd
            rw [← HZ.out] at hvc
            subst hvc
            obtain ⟨i5, hi5, hz5, hs5, hb5'⟩ := info_parts Tryd.info5
            obtain ⟨v10, w10, hr10, ho10, hg10⟩ := run_append_rd (P := Tryd.prog) (w8.alloc (.cells #[.int .u8 (c % 256)] 5)) 25 25 i5 Tryd.underlying25 hi5 hz5 hs5 hb5' W7.heap.size _ (.slice (some ⟨w8.heap.size, 0, none⟩) 1 1) _ [x] (hoc.alloc _) (Rd.one _ _ _ _ hxc) (by rw [← HZ.out]; have := HLZ.out; simp; omega) (by have := hb8.size; simp; omega)
            have hb10 : Below W7.heap.size W7 w10 := by
              have h1 : Below W7.heap.size W7 (w8.alloc (.cells #[.int .u8 (c % 256)] 5)) := hb8.alloc hb8.size _
              exact h1.grown hg10 h1.size (fun k hk => (World.ownsRow.lt hoc k hk).1)
            have HB10 := hide (below_call HB7.out hb10)
            have kr2 := read_any _ _ w10 (HL.out.below HB10.out).kinds ho10.rd (by rw [List.length_append, ← HZ.out]; have := HLZ.out; simp; omega)
            have hc2 := read_more _ HOK.out HWF.out x
            rw [read_none _ hc2] at kr2
            obtain ⟨o10, cp10, hv10, -⟩ := id ho10.rd
            rw [List.length_append, ← HZ.out] at hv10
            rw [hv10] at kr2 hr10
            rw [hxc] at hr10
            clear ho10 hg10 hoc hb8 hb10 hc2
            go_wp2_with (at_builtin; go_must (refine Lib.wpList_append_run _ rfl _ _ _ _ rfl _ _ rfl rfl _ _ hr10 ?_))
            refine Calls.mono (show Calls Tryd.prog 12 #[.slice o10 (z + 1) cp10] w10 _ from kr2) ?_
            rintro e w11 ⟨cq2, rfl, hcq2, hb11⟩
            clear kr2
            try simp only at hcq2
            obtain ⟨qo2, qcap2, hqv2, -⟩ := hcq2.shape
            rw [show (Prg.code noP).length = 0 from rfl] at hqv2
            subst hqv2
            rw [show prgV noP (.slice qo2 0 qcap2) = .agg #[.string ⟨#[]⟩, .int .i64 0, .slice qo2 0 qcap2] from rfl]
            obtain ⟨W12, HW12⟩ := named (w11.alloc (.cells #[.string ⟨#[]⟩, .int .i64 0, .slice qo2 0 qcap2] 24))
            have hb12 : Below w11.heap.size w11 W12 := by rw [HW12.out]; exact (Below.refl _ _).alloc (Nat.le_refl _) _
            have HB12 := hide (below_call (below_call HB10.out hb11) hb12)
            clear hcq2 hb11 hb12
            go_wp2_with fail
            rw [← HW12.out]
            refine (awake_true W12 (HL.out.below HB12.out)).mono ?_
            rintro e w9 ⟨rfl, hb9⟩
            go_wp2
            go_ret
            exact ⟨rfl, below_call HB12.out hb9⟩

          | false =>
            rw [hDD] at ks kp
            go_wp2_with fail
            refine wp_region_held_drew (S := (fun u => u.cell? ⟨pb, 0, none⟩ = some (.string name) ∧ u.cell? ⟨pb, 1, none⟩ = some (.int .i64 regs) ∧ u.cell? ⟨pb, 2, none⟩ = some (.slice ao n cap) ∧ u.cell? ⟨qb, 0, none⟩ = some (.string name') ∧ u.cell? ⟨qb, 1, none⟩ = some (.int .i64 regs') ∧ u.cell? ⟨qb, 2, none⟩ = some (.slice bo m dap))) (by kernel_rfl) hs0 (fun _ => ?_)
            refine wpAnyH_take (i := 0) (oi := { dst := some 35, op := Go.Op.move (Go.Operand.tmp 7), type := 25, pos := "outright.go:99", after := #[], guard := none }) (v := ?_) rfl (by kernel_rfl) (by kernel_rfl) (by kernel_rfl) (fun _ _ _ h => h) (Or.inl ⟨by rfl, ?hy17⟩) hs0 ?_
            case hy17 =>
              intro u hu
              obtain ⟨u0, u1, u2, u3, u4, u5⟩ := hu
              go_simp
              try with_reducible rfl
            simp only [Act.put, List.setIfInBounds_toArray, List.set_cons_zero, List.set_cons_succ]
            refine wpAnyH_ready (rs := [1]) (by kernel_rfl) (by simp) ?_
            refine AllReadyH.cons (o := { dst := some 36, op := Go.Op.call { callee := Go.Callee.builtin Go.Builtin.len, args := #[Go.Operand.tmp 35], argTypes := #[25] }, type := 3, pos := "outright.go:99", after := #[{ on := 0, ground := Go.Ground.data }], guard := none }) rfl (fun K hK => ?_) AllReadyH.nil
            go_simp
            refine hK.out _ _ hs0 (fun _ => ?_)
            clear hK K
            try simp only [Act.put, List.setIfInBounds_toArray, List.set_cons_zero, List.set_cons_succ]
            refine wpAnyH_take (i := 2) (oi := { dst := some 37, op := Go.Op.binOp Go.BinOp.eql 3 (Go.Operand.tmp 36) (Go.Operand.const (Go.Value.int Go.IntKind.i64 0)) 3, type := 4, pos := "outright.go:99", after := #[{ on := 1, ground := Go.Ground.data }], guard := none }) (v := ?_) rfl (by kernel_rfl) (by kernel_rfl) (by kernel_rfl) (fun _ _ _ h => h) (Or.inl ⟨by rfl, ?hy19⟩) hs0 ?_
            case hy19 =>
              intro u hu
              obtain ⟨u0, u1, u2, u3, u4, u5⟩ := hu
              go_simp
              try with_reducible rfl
            simp only [Act.put, List.setIfInBounds_toArray, List.set_cons_zero, List.set_cons_succ]
            refine wpAnyH_take (i := 3) (oi := { dst := some 38, op := Go.Op.move (Go.Operand.tmp 37), type := 4, pos := "outright.go:99", after := #[{ on := 2, ground := Go.Ground.data }], guard := none }) (v := ?_) rfl (by kernel_rfl) (by kernel_rfl) (by kernel_rfl) (fun _ _ _ h => h) (Or.inl ⟨by rfl, ?hy20⟩) hs0 ?_
            case hy20 =>
              intro u hu
              obtain ⟨u0, u1, u2, u3, u4, u5⟩ := hu
              go_simp
              try with_reducible rfl
            simp only [Act.put, List.setIfInBounds_toArray, List.set_cons_zero, List.set_cons_succ]
            refine wpAnyH_take (i := 4) (oi := { dst := some 39, op := Go.Op.move (Go.Operand.tmp 10), type := 33, pos := "outright.go:99", after := #[{ on := 3, ground := Go.Ground.guard }], guard := some (3, false) }) (v := ?_) rfl (by kernel_rfl) (by kernel_rfl) (by kernel_rfl) (fun _ _ _ h => h) (Or.inl ⟨by rfl, ?hy21⟩) hs0 ?_
            case hy21 =>
              intro u hu
              obtain ⟨u0, u1, u2, u3, u4, u5⟩ := hu
              go_simp
              try with_reducible rfl
            simp only [Act.put, List.setIfInBounds_toArray, List.set_cons_zero, List.set_cons_succ]
            refine wpAnyH_take (i := 5) (oi := { dst := some 40, op := Go.Op.binOp Go.BinOp.eql 33 (Go.Operand.tmp 39) (Go.Operand.const (Go.Value.int Go.IntKind.i64 0)) 33, type := 4, pos := "outright.go:99", after := #[{ on := 4, ground := Go.Ground.data }, { on := 3, ground := Go.Ground.guard }], guard := some (3, false) }) (v := ?_) rfl (by kernel_rfl) (by kernel_rfl) (by kernel_rfl) (fun _ _ _ h => h) (Or.inl ⟨by rfl, ?hy22⟩) hs0 ?_
            case hy22 =>
              intro u hu
              obtain ⟨u0, u1, u2, u3, u4, u5⟩ := hu
              go_simp
              try with_reducible rfl
            simp only [Act.put, List.setIfInBounds_toArray, List.set_cons_zero, List.set_cons_succ]
            refine wpAnyH_take (i := 6) (oi := { dst := some 41, op := Go.Op.move (Go.Operand.tmp 40), type := 4, pos := "outright.go:99", after := #[{ on := 5, ground := Go.Ground.data }, { on := 3, ground := Go.Ground.chain }, { on := 3, ground := Go.Ground.guard }], guard := some (3, false) }) (v := ?_) rfl (by kernel_rfl) (by kernel_rfl) (by kernel_rfl) (fun _ _ _ h => h) (Or.inl ⟨by rfl, ?hy23⟩) hs0 ?_
            case hy23 =>
              intro u hu
              obtain ⟨u0, u1, u2, u3, u4, u5⟩ := hu
              go_simp
              try with_reducible rfl
            simp only [Act.put, List.setIfInBounds_toArray, List.set_cons_zero, List.set_cons_succ]
            refine wpAnyH_take (i := 7) (oi := { dst := some 42, op := Go.Op.move (Go.Operand.tmp 7), type := 25, pos := "outright.go:99", after := #[{ on := 6, ground := Go.Ground.guard }], guard := some (6, true) }) (v := ?_) rfl (by kernel_rfl) (by kernel_rfl) (by kernel_rfl) (fun _ _ _ h => h) (Or.inl ⟨by rfl, ?hy24⟩) hs0 ?_
            case hy24 =>
              intro u hu
              obtain ⟨u0, u1, u2, u3, u4, u5⟩ := hu
              go_simp
              try with_reducible rfl
            simp only [Act.put, List.setIfInBounds_toArray, List.set_cons_zero, List.set_cons_succ]
            refine wpAnyH_take (i := 8) (oi := { dst := some 43, op := Go.Op.move (Go.Operand.tmp 9), type := 25, pos := "outright.go:99", after := #[{ on := 6, ground := Go.Ground.guard }], guard := some (6, true) }) (v := ?_) rfl (by kernel_rfl) (by kernel_rfl) (by kernel_rfl) (fun _ _ _ h => h) (Or.inl ⟨by rfl, ?hy25⟩) hs0 ?_
            case hy25 =>
              intro u hu
              obtain ⟨u0, u1, u2, u3, u4, u5⟩ := hu
              go_simp
              try with_reducible rfl
            simp only [Act.put, List.setIfInBounds_toArray, List.set_cons_zero, List.set_cons_succ]
            refine wpAnyH_take (i := 10) (oi := { dst := some 45, op := Go.Op.load 24 (Go.Operand.tmp 3), type := 24, pos := "outright.go:99", after := #[{ on := 6, ground := Go.Ground.guard }], guard := some (6, true) }) (v := ?_) rfl (by kernel_rfl) (by kernel_rfl) (by kernel_rfl) (fun _ _ _ h => h) (Or.inl ⟨by rfl, ?hy26⟩) hs0 ?_
            case hy26 =>
              intro u hu
              obtain ⟨u0, u1, u2, u3, u4, u5⟩ := hu
              go_simp
              try with_reducible rfl
            simp only [Act.put, List.setIfInBounds_toArray, List.set_cons_zero, List.set_cons_succ]
            refine wpAnyH_take (i := 11) (oi := { dst := some 46, op := Go.Op.load 24 (Go.Operand.tmp 4), type := 24, pos := "outright.go:99", after := #[{ on := 6, ground := Go.Ground.guard }], guard := some (6, true) }) (v := ?_) rfl (by kernel_rfl) (by kernel_rfl) (by kernel_rfl) (fun _ _ _ h => h) (Or.inl ⟨by rfl, ?hy27⟩) hs0 ?_
            case hy27 =>
              intro u hu
              obtain ⟨u0, u1, u2, u3, u4, u5⟩ := hu
              go_simp
              try with_reducible rfl
            simp only [Act.put, List.setIfInBounds_toArray, List.set_cons_zero, List.set_cons_succ]
            refine wpAnyH_ready (rs := [9]) (by kernel_rfl) (by simp) ?_
            refine AllReadyH.cons (o := { dst := some 44, op := Go.Op.call { callee := Go.Callee.value (Go.Operand.func 16), args := #[Go.Operand.tmp 42, Go.Operand.tmp 43], argTypes := #[25, 25] }, type := 4, pos := "outright.go:99", after := #[{ on := 7, ground := Go.Ground.data }, { on := 8, ground := Go.Ground.data }, { on := 6, ground := Go.Ground.chain }, { on := 6, ground := Go.Ground.guard }], guard := some (6, true) }) rfl (fun K hK => ?_) AllReadyH.nil
            go_simp
            refine Calls.mono ks ?_
            rintro e u1 ⟨rfl, rfl⟩
            refine hK.out _ _ hs0 (fun _ => ?_)
            clear hK K
            try simp only [Act.put, List.setIfInBounds_toArray, List.set_cons_zero, List.set_cons_succ]
            refine wpAnyH_ready (rs := [12]) (by kernel_rfl) (by simp) ?_
            refine AllReadyH.cons (o := { dst := some 47, op := Go.Op.call { callee := Go.Callee.value (Go.Operand.func 17), args := #[Go.Operand.tmp 45, Go.Operand.tmp 46], argTypes := #[24, 24] }, type := 4, pos := "outright.go:99", after := #[{ on := 10, ground := Go.Ground.data }, { on := 11, ground := Go.Ground.data }, { on := 9, ground := Go.Ground.chain }, { on := 6, ground := Go.Ground.guard }], guard := some (6, true) }) rfl (fun K hK => ?_) AllReadyH.nil
            go_simp
            refine Calls.mono kp ?_
            rintro e u2 ⟨rfl, hbu⟩
            have hbu : Below w5.heap.size w5 u2 := ⟨hbu.os, hbu.tape, hbu.output, hbu.size, hbu.block⟩
            have HBU := hide hbu
            have hs12 : u2.cell? ⟨pb, 0, none⟩ = some (.string name) ∧ u2.cell? ⟨pb, 1, none⟩ = some (.int .i64 regs) ∧ u2.cell? ⟨pb, 2, none⟩ = some (.slice ao n cap) ∧ u2.cell? ⟨qb, 0, none⟩ = some (.string name') ∧ u2.cell? ⟨qb, 1, none⟩ = some (.int .i64 regs') ∧ u2.cell? ⟨qb, 2, none⟩ = some (.slice bo m dap) := ⟨(HP5.out.below hbu).2.1, (HP5.out.below hbu).2.2.1, (HP5.out.below hbu).2.2.2.1, (HQ5.out.below hbu).2.1, (HQ5.out.below hbu).2.2.1, (HQ5.out.below hbu).2.2.2.1⟩
            clear hbu
            refine hK.out _ _ hs12 (fun _ => ?_)
            clear hK K
            try simp only [Act.put, List.setIfInBounds_toArray, List.set_cons_zero, List.set_cons_succ]
            refine wpAnyH_take (i := 13) (oi := { dst := some 48, op := Go.Op.binOp Go.BinOp.neq 4 (Go.Operand.tmp 44) (Go.Operand.tmp 47) 4, type := 4, pos := "outright.go:99", after := #[{ on := 9, ground := Go.Ground.data }, { on := 12, ground := Go.Ground.data }, { on := 6, ground := Go.Ground.guard }], guard := some (6, true) }) (v := ?_) rfl (by kernel_rfl) (by kernel_rfl) (by kernel_rfl) (fun _ _ _ h => h) (Or.inl ⟨by rfl, ?hy30⟩) hs12 ?_
            case hy30 =>
              intro u hu
              obtain ⟨u0, u1, u2, u3, u4, u5⟩ := hu
              go_simp
              try with_reducible rfl
            simp only [Act.put, List.setIfInBounds_toArray, List.set_cons_zero, List.set_cons_succ]
            refine wpAnyH_take (i := 14) (oi := { dst := some 49, op := Go.Op.pick (Go.Operand.tmp 41) (Go.Operand.tmp 48) (Go.Operand.const (Go.Value.bool false)), type := 4, pos := "outright.go:99", after := #[{ on := 6, ground := Go.Ground.data }, { on := 13, ground := Go.Ground.data }, { on := 3, ground := Go.Ground.guard }], guard := some (3, false) }) (v := ?_) rfl (by kernel_rfl) (by kernel_rfl) (by kernel_rfl) (fun _ _ _ h => h) (Or.inl ⟨by rfl, ?hy31⟩) hs12 ?_
            case hy31 =>
              intro u hu
              obtain ⟨u0, u1, u2, u3, u4, u5⟩ := hu
              go_simp
              try with_reducible rfl
            simp only [Act.put, List.setIfInBounds_toArray, List.set_cons_zero, List.set_cons_succ]
            refine wpAnyH_take (i := 15) (oi := { dst := some 50, op := Go.Op.pick (Go.Operand.tmp 38) (Go.Operand.const (Go.Value.bool true)) (Go.Operand.tmp 49), type := 4, pos := "outright.go:99", after := #[{ on := 3, ground := Go.Ground.data }, { on := 14, ground := Go.Ground.data }], guard := none }) (v := ?_) rfl (by kernel_rfl) (by kernel_rfl) (by kernel_rfl) (fun _ _ _ h => h) (Or.inl ⟨by rfl, ?hy32⟩) hs12 ?_
            case hy32 =>
              intro u hu
              obtain ⟨u0, u1, u2, u3, u4, u5⟩ := hu
              go_simp
              try with_reducible rfl
            simp only [Act.put, List.setIfInBounds_toArray, List.set_cons_zero, List.set_cons_succ]
            refine wpAnyH_done (by kernel_rfl) ?_ _
            have hba : Below w5.heap.size w5 u2 := HBU.out
            have HBA := hide (below_call HB5.out hba)
            have hkz : (c % (z : Int)).toNat < z := by
              have h1 := Int.emod_lt_of_pos c (show (0 : Int) < z by omega)
              have h2 := Int.emod_nonneg c (show (z : Int) ≠ 0 by omega)
              omega
            have hkz0 : 0 ≤ c % (z : Int) := Int.emod_nonneg c (by omega)
            obtain ⟨kc, HKC⟩ := named (c % (z : Int)).toNat
            have hkI : c % (z : Int) = (kc : Int) := by rw [HKC.out]; omega
            rw [← HKC.out] at hkz
            have hza : kc ≤ (bytesP ⟨name, regs, code⟩).length := by rw [← HZ.out]; omega
            have hrk : Rd u2 (.slice (some ⟨ga, 0, none⟩) kc cpa) ((bytesP ⟨name, regs, code⟩).take kc) := by
              have h1 := (HOA.out.below hba).rd
              rw [← List.take_append_drop kc (bytesP ⟨name, regs, code⟩)] at h1
              have h2 := Rd.front h1
              rw [List.length_take, Nat.min_eq_left hza] at h2
              exact h2
            have kr1 := read_any _ _ u2 (HL.out.below HBA.out).kinds hrk (by rw [List.length_take]; have := HLZ.out; omega)
            have hc1 := read_cut _ HOK.out HWF.out kc (by rw [← HZ.out]; exact hkz)
            rw [read_none _ hc1] at kr1
            have hle : (kc : Int) ≤ (cpa : Int) := by omega
            have hle2 : kc ≤ cpa := by omega
            go_wp2_with fail
            refine kr1.mono ?_
            rintro e w6 ⟨cq, rfl, hcq, hb6⟩
            clear kr1
            try simp only at hcq
            obtain ⟨qo, qcap, hqv, -⟩ := hcq.shape
            rw [show (Prg.code noP).length = 0 from rfl] at hqv
            subst hqv
            rw [show prgV noP (.slice qo 0 qcap) = .agg #[.string ⟨#[]⟩, .int .i64 0, .slice qo 0 qcap] from rfl]
            obtain ⟨W7, HW7⟩ := named (w6.alloc (.cells #[.string ⟨#[]⟩, .int .i64 0, .slice qo 0 qcap] 24))
            have hb7 : Below w6.heap.size w6 W7 := by rw [HW7.out]; exact (Below.refl _ _).alloc (Nat.le_refl _) _
            have HB7 := hide (below_call (below_call HBA.out hb6) hb7)
            have hoa7 := HOA.out.below (below_call (below_call hba hb6) hb7)
            clear hcq hb6 hb7 hrk
            have kcp := copyBytes_any _ _ W7 hoa7.rd (by rw [← HZ.out]; have := HLZ.out; omega)
            go_wp2_with fail
            rw [← HW7.out]
            refine kcp.mono ?_
            rintro e w8 ⟨vc, rfl, hoc, hb8⟩
            clear kcp
            have HB8 := hide (below_call HB7.out hb8)
            obtain ⟨x, HX⟩ : ∃ x : UInt8, Hid (x = UInt8.ofNat (c % 256).toNat) := ⟨_, rfl⟩
            have hxc : c % 256 = (x.toNat : Int) := by rw [HX.out, UInt8.toNat_ofNat']; omega
            obtain ⟨oc, cpc, hvc, -⟩ := id hoc.rd
            rw [← HZ.out] at hvc
            subst hvc
            obtain ⟨i5, hi5, hz5, hs5, hb5'⟩ := info_parts Tryd.info5
            obtain ⟨v10, w10, hr10, ho10, hg10⟩ := run_append_rd (P := Tryd.prog) (w8.alloc (.cells #[.int .u8 (c % 256)] 5)) 25 25 i5 Tryd.underlying25 hi5 hz5 hs5 hb5' W7.heap.size _ (.slice (some ⟨w8.heap.size, 0, none⟩) 1 1) _ [x] (hoc.alloc _) (Rd.one _ _ _ _ hxc) (by rw [← HZ.out]; have := HLZ.out; simp; omega) (by have := hb8.size; simp; omega)
            have hb10 : Below W7.heap.size W7 w10 := by
              have h1 : Below W7.heap.size W7 (w8.alloc (.cells #[.int .u8 (c % 256)] 5)) := hb8.alloc hb8.size _
              exact h1.grown hg10 h1.size (fun k hk => (World.ownsRow.lt hoc k hk).1)
            have HB10 := hide (below_call HB7.out hb10)
            have kr2 := read_any _ _ w10 (HL.out.below HB10.out).kinds ho10.rd (by rw [List.length_append, ← HZ.out]; have := HLZ.out; simp; omega)
            have hc2 := read_more _ HOK.out HWF.out x
            rw [read_none _ hc2] at kr2
            obtain ⟨o10, cp10, hv10, -⟩ := id ho10.rd
            rw [List.length_append, ← HZ.out] at hv10
            rw [hv10] at kr2 hr10
            rw [hxc] at hr10
            clear ho10 hg10 hoc hb8 hb10 hc2
            go_wp2_with (at_builtin; go_must (refine Lib.wpList_append_run _ rfl _ _ _ _ rfl _ _ rfl rfl _ _ hr10 ?_))
            refine Calls.mono (show Calls Tryd.prog 12 #[.slice o10 (z + 1) cp10] w10 _ from kr2) ?_
            rintro e w11 ⟨cq2, rfl, hcq2, hb11⟩
            clear kr2
            try simp only at hcq2
            obtain ⟨qo2, qcap2, hqv2, -⟩ := hcq2.shape
            rw [show (Prg.code noP).length = 0 from rfl] at hqv2
            subst hqv2
            rw [show prgV noP (.slice qo2 0 qcap2) = .agg #[.string ⟨#[]⟩, .int .i64 0, .slice qo2 0 qcap2] from rfl]
            obtain ⟨W12, HW12⟩ := named (w11.alloc (.cells #[.string ⟨#[]⟩, .int .i64 0, .slice qo2 0 qcap2] 24))
            have hb12 : Below w11.heap.size w11 W12 := by rw [HW12.out]; exact (Below.refl _ _).alloc (Nat.le_refl _) _
            have HB12 := hide (below_call (below_call HB10.out hb11) hb12)
            clear hcq2 hb11 hb12
            go_wp2_with fail
            rw [← HW12.out]
            refine (awake_true W12 (HL.out.below HB12.out)).mono ?_
            rintro e w9 ⟨rfl, hb9⟩
            go_wp2
            go_ret
            exact ⟨rfl, below_call HB12.out hb9⟩

end Go.Proofs.YtpiiehenmkinaaaDoor
