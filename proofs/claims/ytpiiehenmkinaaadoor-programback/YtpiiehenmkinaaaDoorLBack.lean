/-
  ProgramBack: a program is written and read as it is. Own work.
-/
import Derived.Test.YtpiiehenmkinaaaDoorEd
import Derived.Test.YtpiiehenmkinaaaDoorEi
namespace Go.Proofs.YtpiiehenmkinaaaDoor
open Go.RowKit

set_option maxRecDepth 100000 in
set_option maxHeartbeats 3200000 in
theorem back_walk (W : World) (hl : Laid W) (p : Prg) (cv : Value) (hc : RdC W cv p.code) (hw : ∀ i ∈ p.code, i.wf) (bv : Value) (lb : List UInt8) (hbd : Rd W bv lb) :
    Calls Tryd.prog 4 #[prgV p cv, bv] W fun e w' => e = .returned (.bool true) ∧ Below W.heap.size W w' := by
  obtain ⟨name, regs, code⟩ := p
  obtain ⟨ao, cap, rfl, hlen⟩ := hc.shape
  obtain ⟨bo, bcap, rfl, -⟩ := id hbd
  simp only at hc hw hlen
  show Calls Tryd.prog 4 #[.agg #[.string name, .int .i64 regs, .slice ao code.length cap], .slice bo lb.length bcap] W _
  obtain ⟨n, HN⟩ := named code.length
  obtain ⟨m, HM⟩ := named lb.length
  rw [← HN.out] at hlen hc ⊢
  rw [← HM.out] at hbd ⊢
  have HC := hide hc
  have HWF := hide hw
  have HL := hide hl
  have HBD := hide hbd
  obtain ⟨pb, HPB⟩ := named W.heap.size
  obtain ⟨W1, HW1⟩ := named (W.alloc (.cells #[.string name, .int .i64 regs, .slice ao n cap] 24))
  have HB1 := hide (show Below W.heap.size W W1 by rw [HW1.out]; exact (Below.refl _ _).alloc (Nat.le_refl _) _)
  have HP1 := hide (show C3 W1 pb (.string name) (.int .i64 regs) (.slice ao n cap) by rw [HW1.out, HPB.out]; exact C3.new _ _ _ _ _)
  clear hc hw hl hbd
  go_enter Tryd.func4, Tryd.ntmps4
  go_wp2_with fail
  rw [← HW1.out, ← HPB.out]
  refine (great_any ⟨name, regs, code⟩ (.slice ao n cap) W1 (HC.out.below HB1.out)).mono ?_
  rintro e w2 ⟨v2, rfl, hg, hb2⟩
  have HB2 := hide (below_call HB1.out hb2)
  have HP2 := hide (HP1.out.below hb2)
  clear hb2
  obtain ⟨g, rfl, hgf⟩ := hg
  cases g with
  | true =>
    go_wp2_with fail
    refine (awake_true w2 (HL.out.below HB2.out)).mono ?_
    rintro e w9 ⟨rfl, hb9⟩
    go_wp2
    go_ret
    exact ⟨rfl, below_call HB2.out hb9⟩
  | false =>
    clear hgf
    by_cases hm : m ≤ 20000
    · have hmI : ¬ (20000 : Int) < (m : Int) := by omega
      obtain ⟨-, x0, x1, x2, -⟩ := id HP2.out
      go_wp2_with fail
      refine (bytes_any ⟨name, regs, code⟩ (.slice ao n cap) w2 (HL.out.below HB2.out).kinds (HC.out.below HB2.out) HWF.out).mono ?_
      rintro e w3 ⟨v3, rfl, ho3, hb3⟩
      obtain ⟨o3, cp3, hv3, -⟩ := id ho3.rd
      subst hv3
      have HB3 := hide (below_call HB2.out hb3)
      have HP3 := hide (HP2.out.below hb3)
      clear x0 x1 x2 hb3
      obtain ⟨-, x0, x1, x2, -⟩ := id HP3.out
      cases hok : okP ⟨name, regs, code⟩ 20 with
      | true =>
        rw [show errP ⟨name, regs, code⟩ 20 = 0 by unfold errP; rw [hok]; rfl]
        rw [show bytesR ⟨name, regs, code⟩ = bytesP ⟨name, regs, code⟩ by unfold bytesR; rw [hok, if_pos rfl]] at ho3 ⊢
        have hbl := bytesP_len _ hok
        have kr0 := read_any _ (bytesP ⟨name, regs, code⟩) w3 (HL.out.below HB3.out).kinds ho3.rd (by omega)
        rw [read_bytes _ hok HWF.out] at kr0
        obtain ⟨z, HZ⟩ := named (bytesP ⟨name, regs, code⟩).length
        rw [← HZ.out] at kr0 ⊢
        clear ho3 hbl
        go_wp2_with fail
        refine kr0.mono ?_
        rintro e w4 ⟨cv4, rfl, hc4, hb4⟩
        clear kr0
        try simp only at hc4
        obtain ⟨r4, rcap4, hrv, -⟩ := hc4.shape
        subst hrv
        rw [← HN.out] at hc4 ⊢
        rw [show prgV ⟨name, regs, code⟩ (.slice r4 n rcap4) = .agg #[.string name, .int .i64 regs, .slice r4 n rcap4] from rfl]
        have HB4 := hide (below_call HB3.out hb4)
        obtain ⟨W5, HW5⟩ := named (w4.alloc (.cells #[.string name, .int .i64 regs, .slice r4 n rcap4] 24))
        have hb5 : Below w4.heap.size w4 W5 := by rw [HW5.out]; exact (Below.refl _ _).alloc (Nat.le_refl _) _
        have HC5 := hide (hc4.below hb5)
        have HB5 := hide (below_call HB4.out hb5)
        have HP5 := hide ((HP3.out.below hb4).below hb5)
        clear x0 x1 x2
        obtain ⟨-, x0, x1, x2, -⟩ := id HP5.out
        rw [HW5.out] at x0 x1 x2
        clear hc4 hb4 hb5
        go_wp2_with fail
        rw [← HW5.out]
        refine (sameP_any ⟨name, regs, code⟩ ⟨name, regs, code⟩ (.slice ao n cap) (.slice r4 n rcap4) W5 (HC.out.below HB5.out) HC5.out).mono ?_
        rintro e w5 ⟨rfl, hb5'⟩
        rw [show sameP ⟨name, regs, code⟩ ⟨name, regs, code⟩ = true from (sameP_eq _ _).2 rfl]
        have HB5' := hide (below_call HB5.out hb5')
        clear x0 x1 x2 hb5'
        have kr := read_any (.slice bo m bcap) lb w5 (HL.out.below HB5'.out).kinds (HBD.out.below HB5'.out) (by rw [← HM.out]; omega)
        have hrc : (readR lb).2 = 0 ∨ readR lb = (noP, 100) := by
          unfold readR
          split
          · exact .inl rfl
          · exact .inr rfl
        rcases hrc with hr0 | hr0
        · obtain ⟨-, hr1, hr2, hr3, hr4⟩ := read_inv lb hr0
          obtain ⟨q, HQ⟩ := named (prgR lb).1
          rw [← HQ.out] at hr1 hr2 hr3 hr4
          rw [hr1] at kr
          obtain ⟨qn, qr, qc⟩ := q
          have HOQ := hide hr2
          have HQB := hide hr3
          have HQW := hide (show ∀ i ∈ qc, i.wf from hr4)
          clear hr0 hr1 hr2 hr3 hr4
          go_wp2_with fail
          refine kr.mono ?_
          rintro e w6 ⟨cq, rfl, hcq, hb6⟩
          clear kr
          try simp only at hcq
          obtain ⟨qo, qcap, hqv, -⟩ := hcq.shape
          subst hqv
          obtain ⟨qm, HQM⟩ := named qc.length
          rw [← HQM.out] at hcq ⊢
          rw [show prgV ⟨qn, qr, qc⟩ (.slice qo qm qcap) = .agg #[.string qn, .int .i64 qr, .slice qo qm qcap] from rfl]
          have HB6 := hide (below_call HB5'.out hb6)
          obtain ⟨W7, HW7⟩ := named (w6.alloc (.cells #[.string qn, .int .i64 qr, .slice qo qm qcap] 24))
          have hb7 : Below w6.heap.size w6 W7 := by rw [HW7.out]; exact (Below.refl _ _).alloc (Nat.le_refl _) _
          obtain ⟨qb, HQBK⟩ := named w6.heap.size
          have HQ7 := hide (show C3 W7 qb (.string qn) (.int .i64 qr) (.slice qo qm qcap) by rw [HW7.out, HQBK.out]; exact C3.new _ _ _ _ _)
          have HCQ := hide (hcq.below hb7)
          have HB7 := hide (below_call HB6.out hb7)
          clear hcq hb6 hb7
          obtain ⟨-, y0, y1, y2, -⟩ := id HQ7.out
          rw [HW7.out, HQBK.out] at y0 y1 y2
          go_wp2_with fail
          rw [← HW7.out, ← HQBK.out]
          refine (bytes_any ⟨qn, qr, qc⟩ (.slice qo qm qcap) W7 (HL.out.below HB7.out).kinds HCQ.out HQW.out).mono ?_
          rintro e w8 ⟨xv, rfl, hox, hb8⟩
          rw [show errP ⟨qn, qr, qc⟩ 20 = 0 by unfold errP; rw [HOQ.out]; rfl]
          rw [show bytesR ⟨qn, qr, qc⟩ = lb by unfold bytesR; rw [HOQ.out, if_pos rfl]; exact HQB.out] at hox
          obtain ⟨xo, xc, hxv, -⟩ := id hox.rd
          subst hxv
          have HB8 := hide (below_call HB7.out hb8)
          have HCQ8 := hide (HCQ.out.below hb8)
          have HOX := hide hox
          have ks := same_any _ _ lb lb w8 hox.rd (HBD.out.below HB8.out)
          rw [decide_eq_true rfl] at ks
          rw [← HM.out] at ks ⊢
          obtain ⟨-, z0, z1, z2, -⟩ := id (HQ7.out.below hb8)
          clear y0 y1 y2 hox hb8
          go_wp2_with fail
          refine ks.mono ?_
          rintro e w8' ⟨rfl, hww⟩
          subst hww
          clear ks
          go_wp2_with fail
          refine (check_any ⟨qn, qr, qc⟩ (.slice qo qm qcap) 20 w8' (HL.out.below HB8.out).kinds HCQ8.out HQW.out).mono ?_
          rintro e w9' ⟨rfl, hb9⟩
          rw [show errP ⟨qn, qr, qc⟩ 20 = 0 by unfold errP; rw [HOQ.out]; rfl]
          have HB9 := hide (below_call HB8.out hb9)
          go_wp2_with fail
          refine (awake_true w9' (HL.out.below HB9.out)).mono ?_
          rintro e w9 ⟨rfl, hb9⟩
          go_wp2
          go_ret
          exact ⟨rfl, below_call HB9.out hb9⟩
        · rw [hr0] at kr
          go_wp2_with fail
          refine kr.mono ?_
          rintro e w6 ⟨cq, rfl, hcq, hb6⟩
          clear kr
          try simp only at hcq
          obtain ⟨qo, qcap, hqv, -⟩ := hcq.shape
          rw [show (Prg.code noP).length = 0 from rfl] at hqv
          subst hqv
          rw [show prgV noP (.slice qo 0 qcap) = .agg #[.string ⟨#[]⟩, .int .i64 0, .slice qo 0 qcap] from rfl]
          have HB6 := hide (below_call HB5'.out hb6)
          obtain ⟨W7, HW7⟩ := named (w6.alloc (.cells #[.string ⟨#[]⟩, .int .i64 0, .slice qo 0 qcap] 24))
          have hb7 : Below w6.heap.size w6 W7 := by rw [HW7.out]; exact (Below.refl _ _).alloc (Nat.le_refl _) _
          have HCQ := hide (hcq.below hb7)
          have HB7 := hide (below_call HB6.out hb7)
          clear hcq hb6 hb7
          go_wp2_with fail
          rw [← HW7.out]
          refine (sameP_any noP noP (.slice qo 0 qcap) (.slice none 0 0) W7 HCQ.out (RdC.nil _)).mono ?_
          rintro e w8 ⟨rfl, hb8⟩
          rw [show sameP noP noP = true from (sameP_eq noP noP).2 rfl]
          have HB8 := hide (below_call HB7.out hb8)
          go_wp2_with fail
          refine (awake_true w8 (HL.out.below HB8.out)).mono ?_
          rintro e w9 ⟨rfl, hb9⟩
          go_wp2
          go_ret
          exact ⟨rfl, below_call HB8.out hb9⟩
      | false =>
        rw [show errP ⟨name, regs, code⟩ 20 = 100 by unfold errP; rw [hok]; rfl]
        rw [show bytesR ⟨name, regs, code⟩ = [] by unfold bytesR; rw [hok]; rfl]
        go_wp2_with fail
        refine (check_any ⟨name, regs, code⟩ (.slice ao n cap) 20 w3 (HL.out.below HB3.out).kinds (HC.out.below HB3.out) HWF.out).mono ?_
        rintro e w5 ⟨rfl, hb5'⟩
        rw [show errP ⟨name, regs, code⟩ 20 = 100 by unfold errP; rw [hok]; rfl]
        have HB5' := hide (below_call HB3.out hb5')
        clear x0 x1 x2 hb5' ho3
        have kr := read_any (.slice bo m bcap) lb w5 (HL.out.below HB5'.out).kinds (HBD.out.below HB5'.out) (by rw [← HM.out]; omega)
        have hrc : (readR lb).2 = 0 ∨ readR lb = (noP, 100) := by
          unfold readR
          split
          · exact .inl rfl
          · exact .inr rfl
        rcases hrc with hr0 | hr0
        · obtain ⟨-, hr1, hr2, hr3, hr4⟩ := read_inv lb hr0
          obtain ⟨q, HQ⟩ := named (prgR lb).1
          rw [← HQ.out] at hr1 hr2 hr3 hr4
          rw [hr1] at kr
          obtain ⟨qn, qr, qc⟩ := q
          have HOQ := hide hr2
          have HQB := hide hr3
          have HQW := hide (show ∀ i ∈ qc, i.wf from hr4)
          clear hr0 hr1 hr2 hr3 hr4
          go_wp2_with fail
          refine kr.mono ?_
          rintro e w6 ⟨cq, rfl, hcq, hb6⟩
          clear kr
          try simp only at hcq
          obtain ⟨qo, qcap, hqv, -⟩ := hcq.shape
          subst hqv
          obtain ⟨qm, HQM⟩ := named qc.length
          rw [← HQM.out] at hcq ⊢
          rw [show prgV ⟨qn, qr, qc⟩ (.slice qo qm qcap) = .agg #[.string qn, .int .i64 qr, .slice qo qm qcap] from rfl]
          have HB6 := hide (below_call HB5'.out hb6)
          obtain ⟨W7, HW7⟩ := named (w6.alloc (.cells #[.string qn, .int .i64 qr, .slice qo qm qcap] 24))
          have hb7 : Below w6.heap.size w6 W7 := by rw [HW7.out]; exact (Below.refl _ _).alloc (Nat.le_refl _) _
          obtain ⟨qb, HQBK⟩ := named w6.heap.size
          have HQ7 := hide (show C3 W7 qb (.string qn) (.int .i64 qr) (.slice qo qm qcap) by rw [HW7.out, HQBK.out]; exact C3.new _ _ _ _ _)
          have HCQ := hide (hcq.below hb7)
          have HB7 := hide (below_call HB6.out hb7)
          clear hcq hb6 hb7
          obtain ⟨-, y0, y1, y2, -⟩ := id HQ7.out
          rw [HW7.out, HQBK.out] at y0 y1 y2
          go_wp2_with fail
          rw [← HW7.out, ← HQBK.out]
          refine (bytes_any ⟨qn, qr, qc⟩ (.slice qo qm qcap) W7 (HL.out.below HB7.out).kinds HCQ.out HQW.out).mono ?_
          rintro e w8 ⟨xv, rfl, hox, hb8⟩
          rw [show errP ⟨qn, qr, qc⟩ 20 = 0 by unfold errP; rw [HOQ.out]; rfl]
          rw [show bytesR ⟨qn, qr, qc⟩ = lb by unfold bytesR; rw [HOQ.out, if_pos rfl]; exact HQB.out] at hox
          obtain ⟨xo, xc, hxv, -⟩ := id hox.rd
          subst hxv
          have HB8 := hide (below_call HB7.out hb8)
          have HCQ8 := hide (HCQ.out.below hb8)
          have HOX := hide hox
          have ks := same_any _ _ lb lb w8 hox.rd (HBD.out.below HB8.out)
          rw [decide_eq_true rfl] at ks
          rw [← HM.out] at ks ⊢
          obtain ⟨-, z0, z1, z2, -⟩ := id (HQ7.out.below hb8)
          clear y0 y1 y2 hox hb8
          go_wp2_with fail
          refine ks.mono ?_
          rintro e w8' ⟨rfl, hww⟩
          subst hww
          clear ks
          go_wp2_with fail
          refine (check_any ⟨qn, qr, qc⟩ (.slice qo qm qcap) 20 w8' (HL.out.below HB8.out).kinds HCQ8.out HQW.out).mono ?_
          rintro e w9' ⟨rfl, hb9⟩
          rw [show errP ⟨qn, qr, qc⟩ 20 = 0 by unfold errP; rw [HOQ.out]; rfl]
          have HB9 := hide (below_call HB8.out hb9)
          go_wp2_with fail
          refine (awake_true w9' (HL.out.below HB9.out)).mono ?_
          rintro e w9 ⟨rfl, hb9⟩
          go_wp2
          go_ret
          exact ⟨rfl, below_call HB9.out hb9⟩
        · rw [hr0] at kr
          go_wp2_with fail
          refine kr.mono ?_
          rintro e w6 ⟨cq, rfl, hcq, hb6⟩
          clear kr
          try simp only at hcq
          obtain ⟨qo, qcap, hqv, -⟩ := hcq.shape
          rw [show (Prg.code noP).length = 0 from rfl] at hqv
          subst hqv
          rw [show prgV noP (.slice qo 0 qcap) = .agg #[.string ⟨#[]⟩, .int .i64 0, .slice qo 0 qcap] from rfl]
          have HB6 := hide (below_call HB5'.out hb6)
          obtain ⟨W7, HW7⟩ := named (w6.alloc (.cells #[.string ⟨#[]⟩, .int .i64 0, .slice qo 0 qcap] 24))
          have hb7 : Below w6.heap.size w6 W7 := by rw [HW7.out]; exact (Below.refl _ _).alloc (Nat.le_refl _) _
          have HCQ := hide (hcq.below hb7)
          have HB7 := hide (below_call HB6.out hb7)
          clear hcq hb6 hb7
          go_wp2_with fail
          rw [← HW7.out]
          refine (sameP_any noP noP (.slice qo 0 qcap) (.slice none 0 0) W7 HCQ.out (RdC.nil _)).mono ?_
          rintro e w8 ⟨rfl, hb8⟩
          rw [show sameP noP noP = true from (sameP_eq noP noP).2 rfl]
          have HB8 := hide (below_call HB7.out hb8)
          go_wp2_with fail
          refine (awake_true w8 (HL.out.below HB8.out)).mono ?_
          rintro e w9 ⟨rfl, hb9⟩
          go_wp2
          go_ret
          exact ⟨rfl, below_call HB8.out hb9⟩
    · have hmI : (20000 : Int) < (m : Int) := by omega
      go_wp2_with fail
      refine (awake_true w2 (HL.out.below HB2.out)).mono ?_
      rintro e w9 ⟨rfl, hb9⟩
      go_wp2
      go_ret
      exact ⟨rfl, below_call HB2.out hb9⟩
end Go.Proofs.YtpiiehenmkinaaaDoor
