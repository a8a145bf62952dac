/-
  ProgramEnds: a field put past its end is refused. Own work.
-/
import Derived.Test.YtpiiehenmkinaaaDoorDa
namespace Go.Proofs.YtpiiehenmkinaaaDoor
open Go.RowKit

set_option maxRecDepth 100000 in
set_option maxHeartbeats 6400000 in
theorem ends_walk (W : World) (hl : Laid W) (p : Prg) (cv : Value) (hc : RdC W cv p.code) (hw : ∀ i ∈ p.code, i.wf) (at_ field : Int) :
    Calls Tryd.prog 5 #[prgV p cv, .int .i64 at_, .int .i64 field] W fun e w' => e = .returned (.bool true) ∧ Below W.heap.size W w' := by
  obtain ⟨name, regs, code⟩ := p
  obtain ⟨ao, cap, rfl, hlen⟩ := hc.shape
  simp only at hc hw hlen
  show Calls Tryd.prog 5 #[.agg #[.string name, .int .i64 regs, .slice ao code.length cap], .int .i64 at_, .int .i64 field] W _
  obtain ⟨n, HN⟩ := named code.length
  rw [← HN.out] at hlen hc ⊢
  have HC := hide hc
  have HWF := hide hw
  have HL := hide hl
  obtain ⟨pb, HPB⟩ := named W.heap.size
  obtain ⟨W1, HW1⟩ := named (W.alloc (.cells #[.string name, .int .i64 regs, .slice ao n cap] 24))
  have HB1 := hide (show Below W.heap.size W W1 by rw [HW1.out]; exact (Below.refl _ _).alloc (Nat.le_refl _) _)
  have HP1 := hide (show C3 W1 pb (.string name) (.int .i64 regs) (.slice ao n cap) by rw [HW1.out, HPB.out]; exact C3.new _ _ _ _ _)
  clear hc hw hl
  go_enter Tryd.func5, Tryd.ntmps5
  go_wp2_with fail
  rw [← HW1.out, ← HPB.out]
  refine (great_any ⟨name, regs, code⟩ (.slice ao n cap) W1 (HC.out.below HB1.out)).mono ?_
  rintro e w2 ⟨v2, rfl, hg, hb2⟩
  have HB2 := hide (below_call HB1.out hb2)
  have HP2 := hide (HP1.out.below hb2)
  clear hb2
  obtain ⟨g, rfl, hgf⟩ := hg
  cases g with
  | true =>
    go_wp2_with fail
    refine (awake_true w2 (HL.out.below HB2.out)).mono ?_
    rintro e w3 ⟨rfl, hb3⟩
    go_wp2
    go_ret
    exact ⟨rfl, below_call HB2.out hb3⟩
  | false =>
    obtain ⟨hg1, hg2⟩ := hgf rfl
    simp only at hg1
    obtain ⟨-, x0, x1, x2, -⟩ := id HP2.out
    go_wp2_with fail
    refine (check_any ⟨name, regs, code⟩ (.slice ao n cap) 20 w2 (HL.out.below HB2.out).kinds (HC.out.below HB2.out) HWF.out).mono ?_
    rintro e w3 ⟨rfl, hb3⟩
    have HB3 := hide (below_call HB2.out hb3)
    have HP3 := hide (HP2.out.below hb3)
    clear hb3 x0 x1 x2
    cases hok : okP ⟨name, regs, code⟩ 20 with
    | false =>
      rw [show errP ⟨name, regs, code⟩ 20 = 100 by unfold errP; rw [hok]; rfl]
      go_wp2_with fail
      refine (awake_true w3 (HL.out.below HB3.out)).mono ?_
      rintro e w4 ⟨rfl, hb4⟩
      go_wp2
      go_ret
      exact ⟨rfl, below_call HB3.out hb4⟩
    | true =>
      rw [show errP ⟨name, regs, code⟩ 20 = 0 by unfold errP; rw [hok]; rfl]
      have hin := okP_in hok
      have hn0 : 0 < n := by rw [HN.out]; exact hin.2.2.2.1
      have hn5 : n ≤ 500 := by rw [HN.out]; exact hin.2.2.1
      obtain ⟨-, x0, x1, x2, -⟩ := id HP3.out
      go_wp2_with fail
      refine (pick_any at_ n w3 hn0 (by omega)).mono ?_
      rintro e w3' ⟨rfl, hww⟩
      subst hww
      have hkn : (at_ % (n : Int)).toNat < n := by
        have h1 := Int.emod_lt_of_pos at_ (show (0 : Int) < n by omega)
        have h2 := Int.emod_nonneg at_ (show (n : Int) ≠ 0 by omega)
        omega
      obtain ⟨k, HK⟩ := named (at_ % (n : Int)).toNat
      rw [← HK.out] at hkn ⊢
      obtain ⟨qb, HQB⟩ := named w3'.heap.size
      obtain ⟨w4, HW4⟩ := named (w3'.alloc (.cells #[.string name, .int .i64 regs, .slice ao n cap] 24))
      have hb4 : Below w3'.heap.size w3' w4 := by rw [HW4.out]; exact (Below.refl _ _).alloc (Nat.le_refl _) _
      have HQ4 := hide (show C3 w4 qb (.string name) (.int .i64 regs) (.slice ao n cap) by rw [HW4.out, HQB.out]; exact C3.new _ _ _ _ _)
      have HB4 := hide (below_call HB3.out hb4)
      have HP4 := hide (HP3.out.below hb4)
      have hpq : pb < qb := by rw [HQB.out]; exact HP3.out.1
      have hx2 : (w3'.alloc (.cells #[.string name, .int .i64 regs, .slice ao n cap] 24)).cell? ⟨pb, 2, none⟩ = some (.slice ao n cap) := by
        rw [← HW4.out]
        exact HP4.out.2.2.2.1
      go_wp2_with fail
      rw [← HW4.out, ← HQB.out]
      clear x0 x1 x2 hx2 hb4
      refine (copyInstrs_any (HC.out.below HB4.out) (by rw [← HN.out]; omega)).mono ?_
      rintro e w5 ⟨v5, rfl, ho5, hb5⟩
      have HB5 := hide (below_call HB4.out hb5)
      have HQ5 := hide (HQ4.out.below hb5)
      obtain ⟨cb, ccap, hv5, hcb, hcl, hfz⟩ := ho5.open (by rw [← HN.out]; exact hn0)
      subst hv5
      rw [← HN.out] at ho5 ⊢
      have HRC5 := hide ho5.rd
      have hqc : qb < cb := by
        have h1 := HQ4.out.1
        omega
      have hWc : W.heap.size ≤ cb := by
        have h1 := HB4.out.size
        omega
      have HCL := hide hcl
      have HFZ := hide hfz
      clear ho5 hb5 hcb hcl hfz
      obtain ⟨w6, HW6⟩ := named (w5.setCell ⟨qb, 2, none⟩ (.slice (some ⟨cb, 0, none⟩) n ccap))
      have HQ6 := hide (show C3 w6 qb (.string name) (.int .i64 regs) (.slice (some ⟨cb, 0, none⟩) n ccap) by rw [HW6.out]; exact HQ5.out.third _)
      have HB6 := hide (show Below W.heap.size W w6 by
        rw [HW6.out]
        refine HB5.out.setCell (p := ⟨qb, 2, none⟩) ?_ _
        show W.heap.size ≤ qb
        rw [HQB.out]
        exact HB3.out.size)
      have HRC6 := hide (show RdC w6 (.slice (some ⟨cb, 0, none⟩) n ccap) code by rw [HW6.out]; exact HRC5.out.far _ (by omega))
      have HFZ6 := hide (show ∀ o, w6.frozen? ⟨cb, o, none⟩ = false by rw [HW6.out]; intro o; rw [show (w5.setCell ⟨qb, 2, none⟩ (.slice (some ⟨cb, 0, none⟩) n ccap)).frozen? ⟨cb, o, none⟩ = w5.frozen? ⟨cb, o, none⟩ by simp]; exact HFZ.out o)
      have HCL6 := hide (show cb < w6.heap.size by rw [HW6.out]; simp [World.setCell]; exact HCL.out)
      obtain ⟨-, -, -, y2, -, -, z2⟩ := id HQ5.out
      have hy2 : (w5.setCell ⟨qb, 2, none⟩ (.slice (some ⟨cb, 0, none⟩) n ccap)).cell? ⟨qb, 2, none⟩ = some (.slice (some ⟨cb, 0, none⟩) n ccap) := by rw [← HW6.out]; exact HQ6.out.2.2.2.1
      go_wp2_with fail
      rw [← HW6.out]
      refine (pick_any field 10 w6 (by omega) (by omega)).mono ?_
      rintro e w6' ⟨rfl, hww⟩
      subst hww
      clear y2 z2 hy2
      have hm10 : 5 ≤ (field % ((10 : Nat) : Int)).toNat ∨ ¬ 5 ≤ (field % ((10 : Nat) : Int)).toNat := Decidable.em _
      obtain ⟨m10, HM10⟩ := named (field % ((10 : Nat) : Int)).toNat
      rw [← HM10.out] at hm10 ⊢
      have hm5 : (field % ((5 : Nat) : Int)).toNat = 0 ∨ (field % ((5 : Nat) : Int)).toNat = 1 ∨ (field % ((5 : Nat) : Int)).toNat = 2 ∨ (field % ((5 : Nat) : Int)).toNat = 3 ∨ (field % ((5 : Nat) : Int)).toNat = 4 := by
        have h1 := Int.emod_lt_of_pos field (show (0 : Int) < ((5 : Nat) : Int) by omega)
        have h2 := Int.emod_nonneg field (show ((5 : Nat) : Int) ≠ 0 by omega)
        omega
      have hk5 : k < code.length := by rw [← HN.out]; exact hkn
      obtain ⟨b0, off0, hbe, -, c0, c1, c2, c3, c4, c5⟩ := HRC6.out.at k hk5
      cases hbe
      obtain ⟨i, HI⟩ := named (code[k]'hk5)
      rw [← HI.out] at c0 c1 c2 c3 c4 c5
      rw [Nat.zero_add] at c0 c1 c2 c3 c4 c5
      have HOK := hide hok
      clear hin hok
      rcases hm10 with hge | hge
      ·
        have hgI : (5 : Int) ≤ (m10 : Int) := by omega
        go_wp2_with fail
        refine (pick_any field 5 w6' (by omega) (by omega)).mono ?_
        rintro e w6x ⟨rfl, hww⟩
        subst hww
        rcases hm5 with hm | hm | hm | hm | hm <;> rw [hm]
        ·
          have hfz := HFZ6.out (k * 6 + 1)
          obtain ⟨w7, HW7⟩ := named (w6x.setCell ⟨cb, k * 6 + 1, none⟩ (.int .i64 (-1)))
          have HB7 := hide (show Below W.heap.size W w7 by rw [HW7.out]; exact HB6.out.setCell (p := ⟨cb, k * 6 + 1, none⟩) hWc _)
          have HQ7 := hide (show C3 w7 qb (.string name) (.int .i64 regs) (.slice (some ⟨cb, 0, none⟩) n ccap) by rw [HW7.out]; exact HQ6.out.one _ (by omega))
          have HRC7 := hide (show RdC w7 (.slice (some ⟨cb, 0, none⟩) n ccap) (code.set k (wA i (-1))) by rw [HW7.out]; exact HRC6.out.put k 1 hk5 (wA i (-1)) _ (by rw [HI.out]; rfl) (by omega))
          obtain ⟨-, x0, x1, x2, -⟩ := id HQ7.out
          rw [HW7.out] at x0 x1 x2
          go_wp2_with fail
          rw [← HW7.out]
          have hno : okP ⟨name, regs, code.set k (wA i (-1))⟩ 20 = false := by
            have := okP_set (p := ⟨name, regs, code⟩) k hk5 (wA i (-1)) (by rw [HI.out]; exact bad_a (p := ⟨name, regs, code⟩) hk5 HOK.out (-1) (by omega))
            exact this
          have hwf7 : ∀ x ∈ code.set k (wA i (-1)), x.wf := fun x hx => by
            rcases List.mem_or_eq_of_mem_set hx with h | h
            · exact HWF.out x h
            · rw [h]; have hi := HWF.out _ (List.getElem_mem hk5); rw [← HI.out] at hi; exact ⟨hi.op, by unfold IR; simp only [wA]; omega, hi.b, hi.c, hi.n, hi.s⟩
          refine (check_any ⟨name, regs, code.set k (wA i (-1))⟩ (.slice (some ⟨cb, 0, none⟩) n ccap) 20 w7 (HL.out.below HB7.out).kinds HRC7.out hwf7).mono ?_
          rintro e w8 ⟨rfl, hb8⟩
          rw [show errP ⟨name, regs, code.set k (wA i (-1))⟩ 20 = 100 by unfold errP; rw [hno]; rfl]
          have HB8 := hide (below_call HB7.out hb8)
          go_wp2_with fail
          refine (awake_true w8 (HL.out.below HB8.out)).mono ?_
          rintro e w9 ⟨rfl, hb9⟩
          go_wp2
          go_ret
          exact ⟨rfl, below_call HB8.out hb9⟩
        ·
          have hfz := HFZ6.out (k * 6 + 2)
          obtain ⟨w7, HW7⟩ := named (w6x.setCell ⟨cb, k * 6 + 2, none⟩ (.int .i64 (-1)))
          have HB7 := hide (show Below W.heap.size W w7 by rw [HW7.out]; exact HB6.out.setCell (p := ⟨cb, k * 6 + 2, none⟩) hWc _)
          have HQ7 := hide (show C3 w7 qb (.string name) (.int .i64 regs) (.slice (some ⟨cb, 0, none⟩) n ccap) by rw [HW7.out]; exact HQ6.out.one _ (by omega))
          have HRC7 := hide (show RdC w7 (.slice (some ⟨cb, 0, none⟩) n ccap) (code.set k (wB i (-1))) by rw [HW7.out]; exact HRC6.out.put k 2 hk5 (wB i (-1)) _ (by rw [HI.out]; rfl) (by omega))
          obtain ⟨-, x0, x1, x2, -⟩ := id HQ7.out
          rw [HW7.out] at x0 x1 x2
          go_wp2_with fail
          rw [← HW7.out]
          have hno : okP ⟨name, regs, code.set k (wB i (-1))⟩ 20 = false := by
            have := okP_set (p := ⟨name, regs, code⟩) k hk5 (wB i (-1)) (by rw [HI.out]; exact bad_b (p := ⟨name, regs, code⟩) hk5 HOK.out (-1) (by omega))
            exact this
          have hwf7 : ∀ x ∈ code.set k (wB i (-1)), x.wf := fun x hx => by
            rcases List.mem_or_eq_of_mem_set hx with h | h
            · exact HWF.out x h
            · rw [h]; have hi := HWF.out _ (List.getElem_mem hk5); rw [← HI.out] at hi; exact ⟨hi.op, hi.a, by unfold IR; simp only [wB]; omega, hi.c, hi.n, hi.s⟩
          refine (check_any ⟨name, regs, code.set k (wB i (-1))⟩ (.slice (some ⟨cb, 0, none⟩) n ccap) 20 w7 (HL.out.below HB7.out).kinds HRC7.out hwf7).mono ?_
          rintro e w8 ⟨rfl, hb8⟩
          rw [show errP ⟨name, regs, code.set k (wB i (-1))⟩ 20 = 100 by unfold errP; rw [hno]; rfl]
          have HB8 := hide (below_call HB7.out hb8)
          go_wp2_with fail
          refine (awake_true w8 (HL.out.below HB8.out)).mono ?_
          rintro e w9 ⟨rfl, hb9⟩
          go_wp2
          go_ret
          exact ⟨rfl, below_call HB8.out hb9⟩
        ·
          have hfz := HFZ6.out (k * 6 + 3)
          obtain ⟨w7, HW7⟩ := named (w6x.setCell ⟨cb, k * 6 + 3, none⟩ (.int .i64 (-1)))
          have HB7 := hide (show Below W.heap.size W w7 by rw [HW7.out]; exact HB6.out.setCell (p := ⟨cb, k * 6 + 3, none⟩) hWc _)
          have HQ7 := hide (show C3 w7 qb (.string name) (.int .i64 regs) (.slice (some ⟨cb, 0, none⟩) n ccap) by rw [HW7.out]; exact HQ6.out.one _ (by omega))
          have HRC7 := hide (show RdC w7 (.slice (some ⟨cb, 0, none⟩) n ccap) (code.set k (wC i (-1))) by rw [HW7.out]; exact HRC6.out.put k 3 hk5 (wC i (-1)) _ (by rw [HI.out]; rfl) (by omega))
          obtain ⟨-, x0, x1, x2, -⟩ := id HQ7.out
          rw [HW7.out] at x0 x1 x2
          go_wp2_with fail
          rw [← HW7.out]
          have hno : okP ⟨name, regs, code.set k (wC i (-1))⟩ 20 = false := by
            have := okP_set (p := ⟨name, regs, code⟩) k hk5 (wC i (-1)) (by rw [HI.out]; exact bad_c (p := ⟨name, regs, code⟩) hk5 HOK.out (-1) (by omega))
            exact this
          have hwf7 : ∀ x ∈ code.set k (wC i (-1)), x.wf := fun x hx => by
            rcases List.mem_or_eq_of_mem_set hx with h | h
            · exact HWF.out x h
            · rw [h]; have hi := HWF.out _ (List.getElem_mem hk5); rw [← HI.out] at hi; exact ⟨hi.op, hi.a, hi.b, by unfold IR; simp only [wC]; omega, hi.n, hi.s⟩
          refine (check_any ⟨name, regs, code.set k (wC i (-1))⟩ (.slice (some ⟨cb, 0, none⟩) n ccap) 20 w7 (HL.out.below HB7.out).kinds HRC7.out hwf7).mono ?_
          rintro e w8 ⟨rfl, hb8⟩
          rw [show errP ⟨name, regs, code.set k (wC i (-1))⟩ 20 = 100 by unfold errP; rw [hno]; rfl]
          have HB8 := hide (below_call HB7.out hb8)
          go_wp2_with fail
          refine (awake_true w8 (HL.out.below HB8.out)).mono ?_
          rintro e w9 ⟨rfl, hb9⟩
          go_wp2
          go_ret
          exact ⟨rfl, below_call HB8.out hb9⟩
        ·
          have hop1 : i.op = 1 ∨ i.op ≠ 1 := Decidable.em _
          rcases hop1 with hop1 | hop1
          ·
            rw [hop1] at c0
            go_wp2_with fail
            refine (awake_true _ (HL.out.below HB6.out)).mono ?_
            rintro e w8 ⟨rfl, hb8⟩
            go_wp2
            go_ret
            exact ⟨rfl, below_call HB6.out hb8⟩
          ·
            have hop : code[k].op ≠ 1 := by rw [← HI.out]; exact hop1
            have hopI : ((i.op : Int) == 1) = false := by rw [beq_eq_false_iff_ne]; omega
            have hopI2 : ¬ (i.op : Int) = 1 := by omega
            have hfz := HFZ6.out (k * 6 + 4)
            obtain ⟨w7, HW7⟩ := named (w6x.setCell ⟨cb, k * 6 + 4, none⟩ (.int .i64 (-1)))
            have HB7 := hide (show Below W.heap.size W w7 by rw [HW7.out]; exact HB6.out.setCell (p := ⟨cb, k * 6 + 4, none⟩) hWc _)
            have HQ7 := hide (show C3 w7 qb (.string name) (.int .i64 regs) (.slice (some ⟨cb, 0, none⟩) n ccap) by rw [HW7.out]; exact HQ6.out.one _ (by omega))
            have HRC7 := hide (show RdC w7 (.slice (some ⟨cb, 0, none⟩) n ccap) (code.set k (wN i (-1))) by rw [HW7.out]; exact HRC6.out.put k 4 hk5 (wN i (-1)) _ (by rw [HI.out]; rfl) (by omega))
            obtain ⟨-, x0, x1, x2, -⟩ := id HQ7.out
            rw [HW7.out] at x0 x1 x2
            go_wp2_with fail
            rw [← HW7.out]
            have hno : okP ⟨name, regs, code.set k (wN i (-1))⟩ 20 = false := by
              have := okP_set (p := ⟨name, regs, code⟩) k hk5 (wN i (-1)) (by rw [HI.out]; exact bad_n (p := ⟨name, regs, code⟩) hk5 HOK.out hop (-1) (by omega))
              exact this
            have hwf7 : ∀ x ∈ code.set k (wN i (-1)), x.wf := fun x hx => by
              rcases List.mem_or_eq_of_mem_set hx with h | h
              · exact HWF.out x h
              · rw [h]; have hi := HWF.out _ (List.getElem_mem hk5); rw [← HI.out] at hi; exact ⟨hi.op, hi.a, hi.b, hi.c, by unfold IR; simp only [wN]; omega, hi.s⟩
            refine (check_any ⟨name, regs, code.set k (wN i (-1))⟩ (.slice (some ⟨cb, 0, none⟩) n ccap) 20 w7 (HL.out.below HB7.out).kinds HRC7.out hwf7).mono ?_
            rintro e w8 ⟨rfl, hb8⟩
            rw [show errP ⟨name, regs, code.set k (wN i (-1))⟩ 20 = 100 by unfold errP; rw [hno]; rfl]
            have HB8 := hide (below_call HB7.out hb8)
            go_wp2_with fail
            refine (awake_true w8 (HL.out.below HB8.out)).mono ?_
            rintro e w9 ⟨rfl, hb9⟩
            go_wp2
            go_ret
            exact ⟨rfl, below_call HB8.out hb9⟩
        ·
          have hmk := run_make41
          have hts := run_toStr
          obtain ⟨w7, HW7⟩ := named (w6x.alloc (.cells (BV z41).toArray 5))
          have hb7 : Below w6x.heap.size w6x w7 := by rw [HW7.out]; exact (Below.refl _ _).alloc (Nat.le_refl _) _
          have hrs : (toStr (.slice (some ⟨w6x.heap.size, 0, none⟩) 41 41)).run Tryd.prog (w6x.alloc (.cells (BV z41).toArray 5)) = .ok (.string zeros41) (w6x.alloc (.cells (BV z41).toArray 5)) := run_str _ _ _ (Rd.new w6x z41 5 (by decide))
          have hfz : (w6x.alloc (.cells (BV z41).toArray 5)).frozen? ⟨cb, k * 6 + 5, none⟩ = false := by
            rw [← HW7.out, hb7.frozen (p := ⟨cb, k * 6 + 5, none⟩) HCL6.out]
            exact HFZ6.out _
          have c5' : (w6x.alloc (.cells (BV z41).toArray 5)).cell? ⟨cb, k * 6 + 5, none⟩ = some (.string i.s) := by
            rw [← HW7.out, hb7.cell (p := ⟨cb, k * 6 + 5, none⟩) HCL6.out]
            exact c5
          obtain ⟨w8', HW8⟩ := named (w7.setCell ⟨cb, k * 6 + 5, none⟩ (.string zeros41))
          have HB9 := hide (show Below W.heap.size W w8' by rw [HW8.out]; exact (below_call HB6.out hb7).setCell (p := ⟨cb, k * 6 + 5, none⟩) hWc _)
          have HQ9 := hide (show C3 w8' qb (.string name) (.int .i64 regs) (.slice (some ⟨cb, 0, none⟩) n ccap) by rw [HW8.out]; exact (HQ6.out.below hb7).one _ (by omega))
          have HRC9 := hide (show RdC w8' (.slice (some ⟨cb, 0, none⟩) n ccap) (code.set k (wS i zeros41)) by rw [HW8.out]; exact (HRC6.out.below hb7).put k 5 hk5 (wS i zeros41) _ (by rw [HI.out]; rfl) (by omega))
          obtain ⟨-, x0, x1, x2, -⟩ := id HQ9.out
          rw [HW8.out, HW7.out] at x0 x1 x2
          clear hb7
          go_wp2_with fail
          rw [← HW7.out, ← HW8.out]
          have hno : okP ⟨name, regs, code.set k (wS i zeros41)⟩ 20 = false := by
            have := okP_set (p := ⟨name, regs, code⟩) k hk5 (wS i zeros41) (by rw [HI.out]; exact bad_s (p := ⟨name, regs, code⟩) hk5 HOK.out)
            exact this
          have hwf7 : ∀ x ∈ code.set k (wS i zeros41), x.wf := fun x hx => by
            rcases List.mem_or_eq_of_mem_set hx with h | h
            · exact HWF.out x h
            · rw [h]; have hi := HWF.out _ (List.getElem_mem hk5); rw [← HI.out] at hi; exact ⟨hi.op, hi.a, hi.b, hi.c, hi.n, by show zeros41.size ≤ maxLen; decide +kernel⟩
          refine (check_any ⟨name, regs, code.set k (wS i zeros41)⟩ (.slice (some ⟨cb, 0, none⟩) n ccap) 20 w8' (HL.out.below HB9.out).kinds HRC9.out hwf7).mono ?_
          rintro e w8 ⟨rfl, hb8⟩
          rw [show errP ⟨name, regs, code.set k (wS i zeros41)⟩ 20 = 100 by unfold errP; rw [hno]; rfl]
          have HB8 := hide (below_call HB9.out hb8)
          go_wp2_with fail
          refine (awake_true w8 (HL.out.below HB8.out)).mono ?_
          rintro e w9 ⟨rfl, hb9⟩
          go_wp2
          go_ret
          exact ⟨rfl, below_call HB8.out hb9⟩
      ·
        have hgI : ¬ (5 : Int) ≤ (m10 : Int) := by omega
        go_wp2_with fail
        refine (pick_any field 5 w6' (by omega) (by omega)).mono ?_
        rintro e w6x ⟨rfl, hww⟩
        subst hww
        rcases hm5 with hm | hm | hm | hm | hm <;> rw [hm]
        ·
          have hfz := HFZ6.out (k * 6 + 1)
          obtain ⟨w7, HW7⟩ := named (w6x.setCell ⟨cb, k * 6 + 1, none⟩ (.int .i64 (1073741824)))
          have HB7 := hide (show Below W.heap.size W w7 by rw [HW7.out]; exact HB6.out.setCell (p := ⟨cb, k * 6 + 1, none⟩) hWc _)
          have HQ7 := hide (show C3 w7 qb (.string name) (.int .i64 regs) (.slice (some ⟨cb, 0, none⟩) n ccap) by rw [HW7.out]; exact HQ6.out.one _ (by omega))
          have HRC7 := hide (show RdC w7 (.slice (some ⟨cb, 0, none⟩) n ccap) (code.set k (wA i (1073741824))) by rw [HW7.out]; exact HRC6.out.put k 1 hk5 (wA i (1073741824)) _ (by rw [HI.out]; rfl) (by omega))
          obtain ⟨-, x0, x1, x2, -⟩ := id HQ7.out
          rw [HW7.out] at x0 x1 x2
          go_wp2_with fail
          rw [← HW7.out]
          have hno : okP ⟨name, regs, code.set k (wA i (1073741824))⟩ 20 = false := by
            have := okP_set (p := ⟨name, regs, code⟩) k hk5 (wA i (1073741824)) (by rw [HI.out]; exact bad_a (p := ⟨name, regs, code⟩) hk5 HOK.out (1073741824) (by omega))
            exact this
          have hwf7 : ∀ x ∈ code.set k (wA i (1073741824)), x.wf := fun x hx => by
            rcases List.mem_or_eq_of_mem_set hx with h | h
            · exact HWF.out x h
            · rw [h]; have hi := HWF.out _ (List.getElem_mem hk5); rw [← HI.out] at hi; exact ⟨hi.op, by unfold IR; simp only [wA]; omega, hi.b, hi.c, hi.n, hi.s⟩
          refine (check_any ⟨name, regs, code.set k (wA i (1073741824))⟩ (.slice (some ⟨cb, 0, none⟩) n ccap) 20 w7 (HL.out.below HB7.out).kinds HRC7.out hwf7).mono ?_
          rintro e w8 ⟨rfl, hb8⟩
          rw [show errP ⟨name, regs, code.set k (wA i (1073741824))⟩ 20 = 100 by unfold errP; rw [hno]; rfl]
          have HB8 := hide (below_call HB7.out hb8)
          go_wp2_with fail
          refine (awake_true w8 (HL.out.below HB8.out)).mono ?_
          rintro e w9 ⟨rfl, hb9⟩
          go_wp2
          go_ret
          exact ⟨rfl, below_call HB8.out hb9⟩
        ·
          have hfz := HFZ6.out (k * 6 + 2)
          obtain ⟨w7, HW7⟩ := named (w6x.setCell ⟨cb, k * 6 + 2, none⟩ (.int .i64 (1073741824)))
          have HB7 := hide (show Below W.heap.size W w7 by rw [HW7.out]; exact HB6.out.setCell (p := ⟨cb, k * 6 + 2, none⟩) hWc _)
          have HQ7 := hide (show C3 w7 qb (.string name) (.int .i64 regs) (.slice (some ⟨cb, 0, none⟩) n ccap) by rw [HW7.out]; exact HQ6.out.one _ (by omega))
          have HRC7 := hide (show RdC w7 (.slice (some ⟨cb, 0, none⟩) n ccap) (code.set k (wB i (1073741824))) by rw [HW7.out]; exact HRC6.out.put k 2 hk5 (wB i (1073741824)) _ (by rw [HI.out]; rfl) (by omega))
          obtain ⟨-, x0, x1, x2, -⟩ := id HQ7.out
          rw [HW7.out] at x0 x1 x2
          go_wp2_with fail
          rw [← HW7.out]
          have hno : okP ⟨name, regs, code.set k (wB i (1073741824))⟩ 20 = false := by
            have := okP_set (p := ⟨name, regs, code⟩) k hk5 (wB i (1073741824)) (by rw [HI.out]; exact bad_b (p := ⟨name, regs, code⟩) hk5 HOK.out (1073741824) (by omega))
            exact this
          have hwf7 : ∀ x ∈ code.set k (wB i (1073741824)), x.wf := fun x hx => by
            rcases List.mem_or_eq_of_mem_set hx with h | h
            · exact HWF.out x h
            · rw [h]; have hi := HWF.out _ (List.getElem_mem hk5); rw [← HI.out] at hi; exact ⟨hi.op, hi.a, by unfold IR; simp only [wB]; omega, hi.c, hi.n, hi.s⟩
          refine (check_any ⟨name, regs, code.set k (wB i (1073741824))⟩ (.slice (some ⟨cb, 0, none⟩) n ccap) 20 w7 (HL.out.below HB7.out).kinds HRC7.out hwf7).mono ?_
          rintro e w8 ⟨rfl, hb8⟩
          rw [show errP ⟨name, regs, code.set k (wB i (1073741824))⟩ 20 = 100 by unfold errP; rw [hno]; rfl]
          have HB8 := hide (below_call HB7.out hb8)
          go_wp2_with fail
          refine (awake_true w8 (HL.out.below HB8.out)).mono ?_
          rintro e w9 ⟨rfl, hb9⟩
          go_wp2
          go_ret
          exact ⟨rfl, below_call HB8.out hb9⟩
        ·
          have hfz := HFZ6.out (k * 6 + 3)
          obtain ⟨w7, HW7⟩ := named (w6x.setCell ⟨cb, k * 6 + 3, none⟩ (.int .i64 (1073741824)))
          have HB7 := hide (show Below W.heap.size W w7 by rw [HW7.out]; exact HB6.out.setCell (p := ⟨cb, k * 6 + 3, none⟩) hWc _)
          have HQ7 := hide (show C3 w7 qb (.string name) (.int .i64 regs) (.slice (some ⟨cb, 0, none⟩) n ccap) by rw [HW7.out]; exact HQ6.out.one _ (by omega))
          have HRC7 := hide (show RdC w7 (.slice (some ⟨cb, 0, none⟩) n ccap) (code.set k (wC i (1073741824))) by rw [HW7.out]; exact HRC6.out.put k 3 hk5 (wC i (1073741824)) _ (by rw [HI.out]; rfl) (by omega))
          obtain ⟨-, x0, x1, x2, -⟩ := id HQ7.out
          rw [HW7.out] at x0 x1 x2
          go_wp2_with fail
          rw [← HW7.out]
          have hno : okP ⟨name, regs, code.set k (wC i (1073741824))⟩ 20 = false := by
            have := okP_set (p := ⟨name, regs, code⟩) k hk5 (wC i (1073741824)) (by rw [HI.out]; exact bad_c (p := ⟨name, regs, code⟩) hk5 HOK.out (1073741824) (by omega))
            exact this
          have hwf7 : ∀ x ∈ code.set k (wC i (1073741824)), x.wf := fun x hx => by
            rcases List.mem_or_eq_of_mem_set hx with h | h
            · exact HWF.out x h
            · rw [h]; have hi := HWF.out _ (List.getElem_mem hk5); rw [← HI.out] at hi; exact ⟨hi.op, hi.a, hi.b, by unfold IR; simp only [wC]; omega, hi.n, hi.s⟩
          refine (check_any ⟨name, regs, code.set k (wC i (1073741824))⟩ (.slice (some ⟨cb, 0, none⟩) n ccap) 20 w7 (HL.out.below HB7.out).kinds HRC7.out hwf7).mono ?_
          rintro e w8 ⟨rfl, hb8⟩
          rw [show errP ⟨name, regs, code.set k (wC i (1073741824))⟩ 20 = 100 by unfold errP; rw [hno]; rfl]
          have HB8 := hide (below_call HB7.out hb8)
          go_wp2_with fail
          refine (awake_true w8 (HL.out.below HB8.out)).mono ?_
          rintro e w9 ⟨rfl, hb9⟩
          go_wp2
          go_ret
          exact ⟨rfl, below_call HB8.out hb9⟩
        ·
          have hop1 : i.op = 1 ∨ i.op ≠ 1 := Decidable.em _
          rcases hop1 with hop1 | hop1
          ·
            rw [hop1] at c0
            go_wp2_with fail
            refine (awake_true _ (HL.out.below HB6.out)).mono ?_
            rintro e w8 ⟨rfl, hb8⟩
            go_wp2
            go_ret
            exact ⟨rfl, below_call HB6.out hb8⟩
          ·
            have hop : code[k].op ≠ 1 := by rw [← HI.out]; exact hop1
            have hopI : ((i.op : Int) == 1) = false := by rw [beq_eq_false_iff_ne]; omega
            have hopI2 : ¬ (i.op : Int) = 1 := by omega
            have hfz := HFZ6.out (k * 6 + 4)
            obtain ⟨w7, HW7⟩ := named (w6x.setCell ⟨cb, k * 6 + 4, none⟩ (.int .i64 (1073741824)))
            have HB7 := hide (show Below W.heap.size W w7 by rw [HW7.out]; exact HB6.out.setCell (p := ⟨cb, k * 6 + 4, none⟩) hWc _)
            have HQ7 := hide (show C3 w7 qb (.string name) (.int .i64 regs) (.slice (some ⟨cb, 0, none⟩) n ccap) by rw [HW7.out]; exact HQ6.out.one _ (by omega))
            have HRC7 := hide (show RdC w7 (.slice (some ⟨cb, 0, none⟩) n ccap) (code.set k (wN i (1073741824))) by rw [HW7.out]; exact HRC6.out.put k 4 hk5 (wN i (1073741824)) _ (by rw [HI.out]; rfl) (by omega))
            obtain ⟨-, x0, x1, x2, -⟩ := id HQ7.out
            rw [HW7.out] at x0 x1 x2
            go_wp2_with fail
            rw [← HW7.out]
            have hno : okP ⟨name, regs, code.set k (wN i (1073741824))⟩ 20 = false := by
              have := okP_set (p := ⟨name, regs, code⟩) k hk5 (wN i (1073741824)) (by rw [HI.out]; exact bad_n (p := ⟨name, regs, code⟩) hk5 HOK.out hop (1073741824) (by omega))
              exact this
            have hwf7 : ∀ x ∈ code.set k (wN i (1073741824)), x.wf := fun x hx => by
              rcases List.mem_or_eq_of_mem_set hx with h | h
              · exact HWF.out x h
              · rw [h]; have hi := HWF.out _ (List.getElem_mem hk5); rw [← HI.out] at hi; exact ⟨hi.op, hi.a, hi.b, hi.c, by unfold IR; simp only [wN]; omega, hi.s⟩
            refine (check_any ⟨name, regs, code.set k (wN i (1073741824))⟩ (.slice (some ⟨cb, 0, none⟩) n ccap) 20 w7 (HL.out.below HB7.out).kinds HRC7.out hwf7).mono ?_
            rintro e w8 ⟨rfl, hb8⟩
            rw [show errP ⟨name, regs, code.set k (wN i (1073741824))⟩ 20 = 100 by unfold errP; rw [hno]; rfl]
            have HB8 := hide (below_call HB7.out hb8)
            go_wp2_with fail
            refine (awake_true w8 (HL.out.below HB8.out)).mono ?_
            rintro e w9 ⟨rfl, hb9⟩
            go_wp2
            go_ret
            exact ⟨rfl, below_call HB8.out hb9⟩
        ·
          have hmk := run_make41
          have hts := run_toStr
          obtain ⟨w7, HW7⟩ := named (w6x.alloc (.cells (BV z41).toArray 5))
          have hb7 : Below w6x.heap.size w6x w7 := by rw [HW7.out]; exact (Below.refl _ _).alloc (Nat.le_refl _) _
          have hrs : (toStr (.slice (some ⟨w6x.heap.size, 0, none⟩) 41 41)).run Tryd.prog (w6x.alloc (.cells (BV z41).toArray 5)) = .ok (.string zeros41) (w6x.alloc (.cells (BV z41).toArray 5)) := run_str _ _ _ (Rd.new w6x z41 5 (by decide))
          have hfz : (w6x.alloc (.cells (BV z41).toArray 5)).frozen? ⟨cb, k * 6 + 5, none⟩ = false := by
            rw [← HW7.out, hb7.frozen (p := ⟨cb, k * 6 + 5, none⟩) HCL6.out]
            exact HFZ6.out _
          have c5' : (w6x.alloc (.cells (BV z41).toArray 5)).cell? ⟨cb, k * 6 + 5, none⟩ = some (.string i.s) := by
            rw [← HW7.out, hb7.cell (p := ⟨cb, k * 6 + 5, none⟩) HCL6.out]
            exact c5
          obtain ⟨w8', HW8⟩ := named (w7.setCell ⟨cb, k * 6 + 5, none⟩ (.string zeros41))
          have HB9 := hide (show Below W.heap.size W w8' by rw [HW8.out]; exact (below_call HB6.out hb7).setCell (p := ⟨cb, k * 6 + 5, none⟩) hWc _)
          have HQ9 := hide (show C3 w8' qb (.string name) (.int .i64 regs) (.slice (some ⟨cb, 0, none⟩) n ccap) by rw [HW8.out]; exact (HQ6.out.below hb7).one _ (by omega))
          have HRC9 := hide (show RdC w8' (.slice (some ⟨cb, 0, none⟩) n ccap) (code.set k (wS i zeros41)) by rw [HW8.out]; exact (HRC6.out.below hb7).put k 5 hk5 (wS i zeros41) _ (by rw [HI.out]; rfl) (by omega))
          obtain ⟨-, x0, x1, x2, -⟩ := id HQ9.out
          rw [HW8.out, HW7.out] at x0 x1 x2
          clear hb7
          go_wp2_with fail
          rw [← HW7.out, ← HW8.out]
          have hno : okP ⟨name, regs, code.set k (wS i zeros41)⟩ 20 = false := by
            have := okP_set (p := ⟨name, regs, code⟩) k hk5 (wS i zeros41) (by rw [HI.out]; exact bad_s (p := ⟨name, regs, code⟩) hk5 HOK.out)
            exact this
          have hwf7 : ∀ x ∈ code.set k (wS i zeros41), x.wf := fun x hx => by
            rcases List.mem_or_eq_of_mem_set hx with h | h
            · exact HWF.out x h
            · rw [h]; have hi := HWF.out _ (List.getElem_mem hk5); rw [← HI.out] at hi; exact ⟨hi.op, hi.a, hi.b, hi.c, hi.n, by show zeros41.size ≤ maxLen; decide +kernel⟩
          refine (check_any ⟨name, regs, code.set k (wS i zeros41)⟩ (.slice (some ⟨cb, 0, none⟩) n ccap) 20 w8' (HL.out.below HB9.out).kinds HRC9.out hwf7).mono ?_
          rintro e w8 ⟨rfl, hb8⟩
          rw [show errP ⟨name, regs, code.set k (wS i zeros41)⟩ 20 = 100 by unfold errP; rw [hno]; rfl]
          have HB8 := hide (below_call HB9.out hb8)
          go_wp2_with fail
          refine (awake_true w8 (HL.out.below HB8.out)).mono ?_
          rintro e w9 ⟨rfl, hb9⟩
          go_wp2
          go_ret
          exact ⟨rfl, below_call HB8.out hb9⟩
end Go.Proofs.YtpiiehenmkinaaaDoor
