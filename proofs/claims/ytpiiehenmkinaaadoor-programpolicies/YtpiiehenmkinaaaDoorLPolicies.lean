/-
  ProgramPolicies: more policies take no program away. Own work.
-/
import Derived.Test.YtpiiehenmkinaaaDoorDb
namespace Go.Proofs.YtpiiehenmkinaaaDoor
open Go.RowKit

set_option maxRecDepth 100000 in
set_option maxHeartbeats 3200000 in
theorem policies_walk (W : World) (hl : Laid W) (p : Prg) (cv : Value) (hc : RdC W cv p.code) (hw : ∀ i ∈ p.code, i.wf) (x y : Int) (hx : 0 ≤ x ∧ x ≤ 255) (hy : 0 ≤ y ∧ y ≤ 255) :
    Calls Tryd.prog 6 #[prgV p cv, .int .u8 x, .int .u8 y] W fun e w' => e = .returned (.bool true) ∧ Below W.heap.size W w' := by
  obtain ⟨name, regs, code⟩ := p
  obtain ⟨ao, cap, rfl, hlen⟩ := hc.shape
  simp only at hc hw hlen
  show Calls Tryd.prog 6 #[.agg #[.string name, .int .i64 regs, .slice ao code.length cap], .int .u8 x, .int .u8 y] W _
  obtain ⟨n, HN⟩ := named code.length
  rw [← HN.out] at hlen hc ⊢
  have HC := hide hc
  have HWF := hide hw
  have HL := hide hl
  obtain ⟨pb, HPB⟩ := named W.heap.size
  obtain ⟨W1, HW1⟩ := named (W.alloc (.cells #[.string name, .int .i64 regs, .slice ao n cap] 24))
  have HB1 := hide (show Below W.heap.size W W1 by rw [HW1.out]; exact (Below.refl _ _).alloc (Nat.le_refl _) _)
  have HP1 := hide (show C3 W1 pb (.string name) (.int .i64 regs) (.slice ao n cap) by rw [HW1.out, HPB.out]; exact C3.new _ _ _ _ _)
  clear hc hw hl
  go_enter Tryd.func6, Tryd.ntmps6
  go_wp2_with fail
  rw [← HW1.out, ← HPB.out]
  refine (great_any ⟨name, regs, code⟩ (.slice ao n cap) W1 (HC.out.below HB1.out)).mono ?_
  rintro e w2 ⟨v2, rfl, hg, hb2⟩
  have HB2 := hide (below_call HB1.out hb2)
  have HP2 := hide (HP1.out.below hb2)
  clear hb2
  obtain ⟨g, rfl, hgf⟩ := hg
  cases g with
  | true =>
    go_wp2_with fail
    refine (awake_true w2 (HL.out.below HB2.out)).mono ?_
    rintro e w3 ⟨rfl, hb3⟩
    go_wp2
    go_ret
    exact ⟨rfl, below_call HB2.out hb3⟩
  | false =>
    obtain ⟨hg1, hg2⟩ := hgf rfl
    simp only at hg1
    obtain ⟨-, x0, x1, x2, -⟩ := id HP2.out
    go_wp2_with fail
    have hlo0 : 0 ≤ min x y % 21 ∧ min x y % 21 ≤ 20 := by omega
    have hhi0 : min x y % 21 ≤ min x y % 21 + max x y % 5 := by omega
    obtain ⟨hi, HHI⟩ := named (min x y % 21 + max x y % 5)
    obtain ⟨lo, HLO⟩ := named (min x y % 21)
    rw [← HHI.out] at hhi0 ⊢
    rw [← HLO.out] at hhi0 hlo0 ⊢
    refine (check_any ⟨name, regs, code⟩ (.slice ao n cap) (lo) w2 (HL.out.below HB2.out).kinds (HC.out.below HB2.out) HWF.out).mono ?_
    rintro e w3 ⟨rfl, hbx⟩
    have HB3 := hide (below_call HB2.out hbx)
    have HP3 := hide (HP2.out.below hbx)
    clear hbx
    clear x0 x1 x2
    cases hlo : okP ⟨name, regs, code⟩ lo with
    | true =>
      rw [show errP ⟨name, regs, code⟩ lo = 0 by unfold errP; rw [hlo]; rfl]
      obtain ⟨-, x0, x1, x2, -⟩ := id HP3.out
      go_wp2_with fail
      refine (check_any ⟨name, regs, code⟩ (.slice ao n cap) (hi) w3 (HL.out.below HB3.out).kinds (HC.out.below HB3.out) HWF.out).mono ?_
      rintro e w4 ⟨rfl, hbx⟩
      have HB4 := hide (below_call HB3.out hbx)
      have HP4 := hide (HP3.out.below hbx)
      clear hbx
      rw [show errP ⟨name, regs, code⟩ hi = 0 by unfold errP; rw [okP_mono hhi0 hlo]; rfl]
      clear x0 x1 x2
      obtain ⟨-, x0, x1, x2, -⟩ := id HP4.out
      go_wp2
      go_loopw [9, 44] (fun nv iv wr => ∃ k : Nat, k ≤ n ∧ iv = .int .i64 k ∧ nv = .int .i64 (needL (code.take k)) ∧ Hid (Below w4.heap.size w4 wr)) (fun _ iv _ => n - (intOf iv).toNat)
      case atStart => exact ⟨0, by omega, rfl, rfl, Below.refl _ _⟩
      case round =>
        obtain ⟨k, hkn, rfl, rfl, HBR⟩ := hrel
        have HBX := hide (below_call HB4.out HBR.out)
        by_cases hlt : k < n
        · have hk5 : k < code.length := by rw [← HN.out]; exact hlt
          obtain ⟨b0, off0, hbe, hblt, c0, c1, c2, c3, c4, c5⟩ := (HC.out.below HBX.out).at k hk5
          subst hbe
          have hsu := needL_succ code k hk5
          obtain ⟨i, HI⟩ := named (code[k]'hk5)
          rw [← HI.out] at c0 c1 c2 c3 c4 c5 hsu
          obtain ⟨z, HZ⟩ := named (needL (code.take k))
          rw [← HZ.out] at hsu ⊢
          have HBR2 := hide (HBR.out.alloc HBR.out.size (.cells #[.int .u8 (i.op : Int), .int .i64 i.a, .int .i64 i.b, .int .i64 i.c, .int .i64 i.n, .string i.s] 28))
          have HSU := hide hsu
          clear hsu
          by_cases hop : i.op = 10
          · have e0 : needW z i = max z (wrap64 (i.c + 1)) := by unfold needW; rw [if_pos hop]
            rw [hop] at c0 HBR2
            go_wp2
            go_roundw
            case rel => exact ⟨k + 1, by omega, by go_num, by rw [HSU.out, e0], HBR2.out⟩
            case measure => simp [intOf]; omega
          · have e0 : needW z i = z := by unfold needW; rw [if_neg hop]
            have hopI : ¬ (i.op : Int) = 10 := by omega
            go_wp2
            go_roundw
            case rel => exact ⟨k + 1, by omega, by go_num, by rw [HSU.out, e0], HBR2.out⟩
            case measure => simp [intOf]; omega
        · have hkn2 : n = k := by omega
          subst hkn2
          have hfull : code.take n = code := List.take_of_length_le (by rw [HN.out]; exact Nat.le_refl _)
          rw [hfull]
          have HPX := hide (HP4.out.below HBR.out)
          clear x0 x1 x2
          obtain ⟨-, x0, x1, x2, -⟩ := id HPX.out
          obtain ⟨nd, HND⟩ := named (needL code)
          rw [← HND.out]
          go_wp2_with fail
          refine (check_any ⟨name, regs, code⟩ (.slice ao n cap) (1048576) wr (HL.out.below HBX.out).kinds (HC.out.below HBX.out) HWF.out).mono ?_
          rintro e w5 ⟨rfl, hbx⟩
          have HB5 := hide (below_call HBX.out hbx)
          have HP5 := hide (HPX.out.below hbx)
          clear hbx
          cases hokM : okP ⟨name, regs, code⟩ 1048576 with
          | false =>
            exfalso
            have := okP_mono (a := lo) (b := 1048576) (by omega) hlo
            rw [hokM] at this
            cases this
          | true =>
            rw [show errP ⟨name, regs, code⟩ 1048576 = 0 by unfold errP; rw [hokM]; rfl]
            obtain ⟨k1, k2, k3, k4⟩ := okP_need hokM
            rw [show needL (Prg.code ⟨name, regs, code⟩) = nd from HND.out.symm] at k1 k2 k3 k4
            clear x0 x1 x2
            obtain ⟨-, x0, x1, x2, -⟩ := id HP5.out
            go_wp2_with fail
            refine (check_any ⟨name, regs, code⟩ (.slice ao n cap) (nd) w5 (HL.out.below HB5.out).kinds (HC.out.below HB5.out) HWF.out).mono ?_
            rintro e w6 ⟨rfl, hbx⟩
            have HB6 := hide (below_call HB5.out hbx)
            have HP6 := hide (HP5.out.below hbx)
            clear hbx
            rw [show errP ⟨name, regs, code⟩ nd = 0 by unfold errP; rw [k1]; rfl]
            clear x0 x1 x2
            obtain ⟨-, x0, x1, x2, -⟩ := id HP6.out
            by_cases hnd : nd = 0
            · subst hnd
              go_wp2_with fail
              refine (awake_true w6 (HL.out.below HB6.out)).mono ?_
              rintro e w9 ⟨rfl, hb9⟩
              go_wp2
              go_ret
              exact ⟨rfl, below_call HB6.out hb9⟩
            · have hnb : (nd == 0) = false := beq_eq_false_iff_ne.2 hnd
              have k5 := k2 hnd
              go_wp2_with fail
              refine (check_any ⟨name, regs, code⟩ (.slice ao n cap) (nd - 1) w6 (HL.out.below HB6.out).kinds (HC.out.below HB6.out) HWF.out).mono ?_
              rintro e w7 ⟨rfl, hbx⟩
              have HB7 := hide (below_call HB6.out hbx)
              have HP7 := hide (HP6.out.below hbx)
              clear hbx
              rw [show errP ⟨name, regs, code⟩ (nd - 1) = 100 by unfold errP; rw [k5]; rfl]
              go_wp2_with fail
              refine (awake_true w7 (HL.out.below HB7.out)).mono ?_
              rintro e w9 ⟨rfl, hb9⟩
              go_wp2
              go_ret
              exact ⟨rfl, below_call HB7.out hb9⟩
    | false =>
      rw [show errP ⟨name, regs, code⟩ lo = 100 by unfold errP; rw [hlo]; rfl]
      obtain ⟨-, x0, x1, x2, -⟩ := id HP3.out
      go_wp2
      go_loopw [9, 44] (fun nv iv wr => ∃ k : Nat, k ≤ n ∧ iv = .int .i64 k ∧ nv = .int .i64 (needL (code.take k)) ∧ Hid (Below w3.heap.size w3 wr)) (fun _ iv _ => n - (intOf iv).toNat)
      case atStart => exact ⟨0, by omega, rfl, rfl, Below.refl _ _⟩
      case round =>
        obtain ⟨k, hkn, rfl, rfl, HBR⟩ := hrel
        have HBX := hide (below_call HB3.out HBR.out)
        by_cases hlt : k < n
        · have hk5 : k < code.length := by rw [← HN.out]; exact hlt
          obtain ⟨b0, off0, hbe, hblt, c0, c1, c2, c3, c4, c5⟩ := (HC.out.below HBX.out).at k hk5
          subst hbe
          have hsu := needL_succ code k hk5
          obtain ⟨i, HI⟩ := named (code[k]'hk5)
          rw [← HI.out] at c0 c1 c2 c3 c4 c5 hsu
          obtain ⟨z, HZ⟩ := named (needL (code.take k))
          rw [← HZ.out] at hsu ⊢
          have HBR2 := hide (HBR.out.alloc HBR.out.size (.cells #[.int .u8 (i.op : Int), .int .i64 i.a, .int .i64 i.b, .int .i64 i.c, .int .i64 i.n, .string i.s] 28))
          have HSU := hide hsu
          clear hsu
          by_cases hop : i.op = 10
          · have e0 : needW z i = max z (wrap64 (i.c + 1)) := by unfold needW; rw [if_pos hop]
            rw [hop] at c0 HBR2
            go_wp2
            go_roundw
            case rel => exact ⟨k + 1, by omega, by go_num, by rw [HSU.out, e0], HBR2.out⟩
            case measure => simp [intOf]; omega
          · have e0 : needW z i = z := by unfold needW; rw [if_neg hop]
            have hopI : ¬ (i.op : Int) = 10 := by omega
            go_wp2
            go_roundw
            case rel => exact ⟨k + 1, by omega, by go_num, by rw [HSU.out, e0], HBR2.out⟩
            case measure => simp [intOf]; omega
        · have hkn2 : n = k := by omega
          subst hkn2
          have hfull : code.take n = code := List.take_of_length_le (by rw [HN.out]; exact Nat.le_refl _)
          rw [hfull]
          have HPX := hide (HP3.out.below HBR.out)
          clear x0 x1 x2
          obtain ⟨-, x0, x1, x2, -⟩ := id HPX.out
          obtain ⟨nd, HND⟩ := named (needL code)
          rw [← HND.out]
          go_wp2_with fail
          refine (check_any ⟨name, regs, code⟩ (.slice ao n cap) (1048576) wr (HL.out.below HBX.out).kinds (HC.out.below HBX.out) HWF.out).mono ?_
          rintro e w5 ⟨rfl, hbx⟩
          have HB5 := hide (below_call HBX.out hbx)
          have HP5 := hide (HPX.out.below hbx)
          clear hbx
          cases hokM : okP ⟨name, regs, code⟩ 1048576 with
          | false =>
            rw [show errP ⟨name, regs, code⟩ 1048576 = 100 by unfold errP; rw [hokM]; rfl]
            clear x0 x1 x2
            obtain ⟨-, x0, x1, x2, -⟩ := id HP5.out
            go_wp2_with fail
            refine (check_any ⟨name, regs, code⟩ (.slice ao n cap) (lo) w5 (HL.out.below HB5.out).kinds (HC.out.below HB5.out) HWF.out).mono ?_
            rintro e w6 ⟨rfl, hbx⟩
            have HB6 := hide (below_call HB5.out hbx)
            have HP6 := hide (HP5.out.below hbx)
            clear hbx
            rw [show errP ⟨name, regs, code⟩ lo = 100 by unfold errP; rw [hlo]; rfl]
            go_wp2_with fail
            refine (awake_true w6 (HL.out.below HB6.out)).mono ?_
            rintro e w9 ⟨rfl, hb9⟩
            go_wp2
            go_ret
            exact ⟨rfl, below_call HB6.out hb9⟩
          | true =>
            rw [show errP ⟨name, regs, code⟩ 1048576 = 0 by unfold errP; rw [hokM]; rfl]
            obtain ⟨k1, k2, k3, k4⟩ := okP_need hokM
            rw [show needL (Prg.code ⟨name, regs, code⟩) = nd from HND.out.symm] at k1 k2 k3 k4
            clear x0 x1 x2
            obtain ⟨-, x0, x1, x2, -⟩ := id HP5.out
            go_wp2_with fail
            refine (check_any ⟨name, regs, code⟩ (.slice ao n cap) (nd) w5 (HL.out.below HB5.out).kinds (HC.out.below HB5.out) HWF.out).mono ?_
            rintro e w6 ⟨rfl, hbx⟩
            have HB6 := hide (below_call HB5.out hbx)
            have HP6 := hide (HP5.out.below hbx)
            clear hbx
            rw [show errP ⟨name, regs, code⟩ nd = 0 by unfold errP; rw [k1]; rfl]
            clear x0 x1 x2
            obtain ⟨-, x0, x1, x2, -⟩ := id HP6.out
            by_cases hnd : nd = 0
            · subst hnd
              go_wp2_with fail
              refine (awake_true w6 (HL.out.below HB6.out)).mono ?_
              rintro e w9 ⟨rfl, hb9⟩
              go_wp2
              go_ret
              exact ⟨rfl, below_call HB6.out hb9⟩
            · have hnb : (nd == 0) = false := beq_eq_false_iff_ne.2 hnd
              have k5 := k2 hnd
              go_wp2_with fail
              refine (check_any ⟨name, regs, code⟩ (.slice ao n cap) (nd - 1) w6 (HL.out.below HB6.out).kinds (HC.out.below HB6.out) HWF.out).mono ?_
              rintro e w7 ⟨rfl, hbx⟩
              have HB7 := hide (below_call HB6.out hbx)
              have HP7 := hide (HP6.out.below hbx)
              clear hbx
              rw [show errP ⟨name, regs, code⟩ (nd - 1) = 100 by unfold errP; rw [k5]; rfl]
              go_wp2_with fail
              refine (awake_true w7 (HL.out.below HB7.out)).mono ?_
              rintro e w9 ⟨rfl, hb9⟩
              go_wp2
              go_ret
              exact ⟨rfl, below_call HB7.out hb9⟩
end Go.Proofs.YtpiiehenmkinaaaDoor
