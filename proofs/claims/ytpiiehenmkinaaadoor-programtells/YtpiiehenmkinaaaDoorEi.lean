/-
  The contract of Read. Own work.
-/
import Derived.Test.YtpiiehenmkinaaaDoorEh
namespace Go.Proofs.YtpiiehenmkinaaaDoor
open Go.RowKit

theorem prgR_wf {l : List UInt8} : (prgR l).2.2 = false → ∀ i ∈ (prgR l).1.code, i.wf := fun h => (prgR_inv h).2.1
set_option maxRecDepth 100000 in
set_option maxHeartbeats 3200000 in
theorem read_any (v : Value) (l : List UInt8) (w : World) (hk : Kinds w) (hrd : Rd w v l) (hl : l.length ≤ 1000000) :
    Calls Tryd.prog 12 #[v] w fun e w' => ∃ cv, e = .returned (.tuple #[prgV (readR l).1 cv, .int .i64 ((readR l).2 : Int)]) ∧ RdC w' cv (readR l).1.code ∧ Below w.heap.size w w' := by
  obtain ⟨ao, cap, hv, -⟩ := id hrd
  subst hv
  obtain ⟨n, HN⟩ := named l.length
  rw [← HN.out] at hrd hl ⊢
  obtain ⟨W1, HW1⟩ := named (w.alloc (.cells #[.string ⟨#[]⟩, .int .i64 0, .slice none 0 0] 24))
  have hb1 : Below w.heap.size w W1 := by rw [HW1.out]; exact (Below.refl _ _).alloc (Nat.le_refl _) _
  have hz1 : W1.heap.size = w.heap.size + 1 := by rw [HW1.out]; simp
  obtain ⟨sb, HSB⟩ := named w.heap.size
  have hs1 : C3 W1 sb (.string ⟨#[]⟩) (.int .i64 0) (.slice none 0 0) := by rw [HW1.out, HSB.out]; exact C3.new _ _ _ _ _
  obtain ⟨W2, HW2⟩ := named (W1.alloc (.cells #[.slice ao n cap, .int .i64 0, .bool false] 63))
  have hb2 : Below W1.heap.size W1 W2 := by rw [HW2.out]; exact (Below.refl _ _).alloc (Nat.le_refl _) _
  obtain ⟨rb, HRB⟩ := named (w.heap.size + 1)
  have hr2 : C3 W2 rb (.slice ao n cap) (.int .i64 0) (.bool false) := by
    rw [HW2.out, HRB.out, ← hz1]
    exact C3.new _ _ _ _ _
  have HR2 := hide (show Rdr w W2 rb (.slice ao n cap) l (0, false) from ⟨hr2, by rw [HRB.out]; omega, hrd, below_call hb1 hb2⟩)
  have HS2 := hide (hs1.below hb2)
  have hsr : sb ≠ rb := by rw [HSB.out, HRB.out]; omega
  have HB2 := hide (below_call hb1 hb2)
  have HK := hide hk
  obtain ⟨PR, HPR⟩ := named (prgR l)
  have hgd : goodR l = (!PR.2.2 && decide (PR.2.1 = n) && okP PR.1 20) := by rw [HPR.out, HN.out]; rfl
  have hwf : PR.2.2 = false → ∀ i ∈ PR.1.code, i.wf := by rw [HPR.out]; exact prgR_wf
  have hbad : goodR l = false → readR l = (noP, 100) := fun h => by unfold readR; rw [if_neg (by rw [h]; simp)]
  have hyes : goodR l = true → readR l = (PR.1, 0) := fun h => by unfold readR; rw [if_pos h, HPR.out]
  obtain ⟨Q, HQ⟩ := named (readR l)
  rw [← HQ.out] at hbad hyes ⊢
  have HGD := hide hgd
  have HWF := hide hwf
  have HBAD := hide hbad
  have HYES := hide hyes
  have hcl := program_any HR2.out (by rw [← HN.out]; exact hl)
  rw [← HPR.out] at hcl
  clear hrd hb1 hs1 hb2 hr2 hk hgd hwf hbad hyes
  go_enter Tryd.func12, Tryd.ntmps12
  go_wp2_with fail
  rw [← HW1.out, ← HW2.out, ← HRB.out, ← HSB.out]
  refine hcl.mono ?_
  rintro e w3 ⟨cv, rfl, hr3, hg3, hc3⟩
  clear hcl
  obtain ⟨co, cc, hcv⟩ := hc3.shape
  subst hcv
  rw [show prgV PR.1 (.slice co PR.1.code.length cc) = .agg #[.string PR.1.name, .int .i64 PR.1.regs, .slice co PR.1.code.length cc] from rfl]
  obtain ⟨W4, HW4⟩ := named (w3.alloc (.cells #[.string PR.1.name, .int .i64 PR.1.regs, .slice co PR.1.code.length cc] 24))
  have hb4 : Below w3.heap.size w3 W4 := by rw [HW4.out]; exact (Below.refl _ _).alloc (Nat.le_refl _) _
  obtain ⟨pb, HPB⟩ := named w3.heap.size
  have HP4 := hide (show C3 W4 pb (.string PR.1.name) (.int .i64 PR.1.regs) (.slice co PR.1.code.length cc) by rw [HW4.out, HPB.out]; exact C3.new _ _ _ _ _)
  have HR4 := hide (hr3.below hb4)
  have HO4 := hide (hc3.below hb4)
  have HC4 := hide (hc3.below hb4).rd
  have HSZ := hide (show sb < W2.heap.size from HS2.out.1)
  have HS3 := hide (HS2.out.chg hg3 hsr)
  have HS4 := hide (HS3.out.below hb4)
  have HB3 := hide (show Below w.heap.size w w3 from HB2.out.trans (hg3.below (by rw [HRB.out]; omega) HB2.out.size))
  have HB4 := hide (below_call HB3.out hb4)
  have hsp : sb ≠ pb := by
    have := HS3.out.1
    rw [HPB.out]
    omega
  obtain ⟨-, s0, s1, s2, t0, t1, t2⟩ := id HS4.out
  obtain ⟨-, q0, q1, q2, -⟩ := id HR4.out.c
  obtain ⟨-, c0, c1, c2, -⟩ := id HP4.out
  rw [HW4.out, HPB.out] at c0 c1 c2
  rw [HW4.out] at q0 q1 q2
  clear hr3 hg3 hc3 hb4
  have hend : ∀ (w5 : World) (x y z : Value), Below W4.heap.size W4 w5 → Below w.heap.size w (set3 w5 sb x y z) := fun w5 x y z h5 =>
    below_set3 (below_call HB4.out h5) _ _ _ (by rw [HSB.out]; exact Nat.le_refl _)
  have HEN := hide hend
  clear hend
  obtain ⟨m, HM⟩ := named PR.1.code.length
  rw [← HM.out] at HP4 HC4 c0 c1 c2 q0 q1 q2 HW4 ⊢
  cases hw2 : PR.2.2 with
  | true =>
    rw [hw2] at q2
    have hq := HBAD.out (by rw [HGD.out, hw2]; rfl)
    subst hq
    rw [HW4.out] at s0 s1 s2 t0 t1 t2
    go_wp2
    refine bodyPost_ret (v := .tuple #[.agg #[.string ⟨#[]⟩, .int .i64 0, .slice none 0 0], .int .i64 100]) (by simp [results, Tryd.results12, go_sem, s0, s1, s2]) rfl ?_
    have hb := HEN.out W4 (.string ⟨#[]⟩) (.int .i64 0) (.slice none 0 0) (Below.refl _ _)
    rw [HW4.out] at hb
    exact ⟨.slice none 0 0, rfl, RdC.nil _, hb⟩
  | false =>
    rw [hw2] at q2
    by_cases hat : PR.2.1 = n
    · have hatI : (PR.2.1 : Int) = (n : Int) := by rw [hat]
      rw [hat] at q1
      go_wp2_with fail
      rw [← HW4.out]
      refine (check_any PR.1 (.slice co m cc) 20 W4 (HK.out.below HB4.out) HC4.out (HWF.out hw2)).mono ?_
      rintro e w5 ⟨rfl, hb5⟩
      obtain ⟨-, u0, u1, u2, v0, v1, v2⟩ := id (HS4.out.below hb5)
      obtain ⟨-, d0, d1, d2, -⟩ := id (HP4.out.below hb5)
      have HB5 := hide hb5
      rw [HPB.out] at d0 d1 d2
      clear s0 s1 s2 t0 t1 t2 q0 q1 q2 c0 c1 c2 hb5
      cases hok : okP PR.1 20 with
      | false =>
        rw [show errP PR.1 20 = 100 by unfold errP; rw [hok]; rfl]
        have hq := HBAD.out (by rw [HGD.out, hok, Bool.and_false])
        subst hq
        go_wp2
        refine bodyPost_ret (v := .tuple #[.agg #[.string ⟨#[]⟩, .int .i64 0, .slice none 0 0], .int .i64 100]) (by simp [results, Tryd.results12, go_sem, u0, u1, u2]) rfl ?_
        exact ⟨.slice none 0 0, rfl, RdC.nil _, HEN.out w5 (.string ⟨#[]⟩) (.int .i64 0) (.slice none 0 0) HB5.out⟩
      | true =>
        rw [show errP PR.1 20 = 0 by unfold errP; rw [hok]; rfl]
        have hq := HYES.out (by rw [HGD.out, hok, hw2, decide_eq_true hat]; rfl)
        subst hq
        go_wp2
        refine bodyPost_ret (v := .tuple #[.agg #[.string PR.1.name, .int .i64 PR.1.regs, .slice co m cc], .int .i64 0]) (by simp [results, Tryd.results12, go_sem, u0, u1, u2]) rfl ?_
        refine ⟨.slice co m cc, rfl, ?_, HEN.out w5 (.string PR.1.name) (.int .i64 PR.1.regs) (.slice co m cc) HB5.out⟩
        have h6 := HO4.out.below HB5.out
        rw [← HM.out] at h6
        show RdC (set3 w5 sb (.string PR.1.name) (.int .i64 PR.1.regs) (.slice co m cc)) (.slice co m cc) PR.1.code
        refine (OwnC.heap (w' := set3 w5 sb (.string PR.1.name) (.int .i64 PR.1.regs) (.slice co m cc)) h6 (fun a ha => ?_)).rd
        have := (h6.lt a ha).1
        have := HSZ.out
        unfold set3
        rw [Below.heap_setCell _ _ _ _ (by show a ≠ sb; omega), Below.heap_setCell _ _ _ _ (by show a ≠ sb; omega), Below.heap_setCell _ _ _ _ (by show a ≠ sb; omega)]
    · have hatI : ¬ (PR.2.1 : Int) = (n : Int) := by omega
      have hq := HBAD.out (by rw [HGD.out, decide_eq_false hat, Bool.and_false, Bool.false_and])
      subst hq
      rw [HW4.out] at s0 s1 s2 t0 t1 t2
      go_wp2
      refine bodyPost_ret (v := .tuple #[.agg #[.string ⟨#[]⟩, .int .i64 0, .slice none 0 0], .int .i64 100]) (by simp [results, Tryd.results12, go_sem, s0, s1, s2]) rfl ?_
      have hb := HEN.out W4 (.string ⟨#[]⟩) (.int .i64 0) (.slice none 0 0) (Below.refl _ _)
      rw [HW4.out] at hb
      exact ⟨.slice none 0 0, rfl, RdC.nil _, hb⟩
end Go.Proofs.YtpiiehenmkinaaaDoor
