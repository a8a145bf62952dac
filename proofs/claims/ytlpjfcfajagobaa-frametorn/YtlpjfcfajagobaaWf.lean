/-
  The contract of bytes.Unseal. Own work.
-/
import Derived.Test.YtlpjfcfajagobaaWe
import Derived.Deep.RegionWith
namespace Go.Proofs.Ytlpjfcfajagobaa
open Go.RowKit

set_option maxRecDepth 100000 in
set_option maxHeartbeats 800000 in
theorem unseal_any (v : Value) (l : List UInt8) (w : World) (hrd : Rd w v l) (hl : l.length ≤ 140737488355000) :
    Calls Try.prog 26 #[v] w fun e w' => ∃ v, e = .returned (.tuple #[v, .int .i64 (unsealL l).2]) ∧ Own w' w.heap.size v (unsealL l).1 ∧ Below w.heap.size w w' := by
  obtain ⟨ao, cap, hv, h1, h2, -⟩ := id hrd
  subst hv
  unfold maxLen at h2
  by_cases h4 : l.length < 4
  · have h4' : (l.length : Int) - 4 < 0 := by omega
    have e : unsealL l = ([], 11) := by unfold unsealL; rw [if_pos h4]
    rw [e]
    clear e
    go_enter Try.func26, Try.ntmps26
    go_wp2
    go_ret2
    exact ⟨_, rfl, Own.nil _ _, Below.refl _ _⟩
  · obtain ⟨m, hm⟩ : ∃ m, l.length = m + 4 := ⟨l.length - 4, by omega⟩
    have HM : Hid _ := hm
    have e : unsealL l = if l.drop m = be4 (crc (l.take m)) then (l.take m, 0) else ([], 12) := by unfold unsealL; rw [if_neg h4, hm, show m + 4 - 4 = m by omega]
    rw [e]
    clear e
    rw [hm] at hl hrd h1 ⊢
    clear hm h4
    have h4' : ¬ (m : Int) < 0 := by omega
    have hrdA := hrd.take m (by rw [HM.out]; omega)
    have hrdB := hrd.cut m (m + 4) (by omega) (by rw [HM.out]; omega)
    rw [← HM.out, List.take_length] at hrdB
    rw [HM.out, show m + 4 - m = 4 by omega] at hrdB
    obtain ⟨lA, HA⟩ := named (l.take m)
    obtain ⟨lB, HB⟩ := named (l.drop m)
    rw [← HA.out] at hrdA ⊢
    rw [← HB.out] at hrdB ⊢
    obtain ⟨K, HK⟩ := named (be4 (crc lA))
    rw [← HK.out]
    have hlA : lA.length ≤ 140737488355000 := by rw [HA.out, List.length_take]; omega
    have HLA : Hid _ := hlA
    clear hlA hrd
    by_cases hd : lB = K
    · rw [if_pos hd]
      have hD : decide (lB = K) = true := decide_eq_true hd
      clear hd
      go_enter Try.func26, Try.ntmps26
      go_wp2
      go_region_with (first
        | (go_at_call 32; refine (check_any _ lA _ ?_).mono ?_; exact hrdA.drew; rintro e w1 ⟨v1, rfl, hown1, hb1⟩; rw [← HK.out] at hown1; obtain ⟨a1, c1, hv1, -⟩ := id hown1.rd; subst hv1)
        | (go_at_call 34; refine (equal_any _ _ lB K _ ?_ ?_).mono ?_; exact hrdB.drew.below hb1; exact hown1.rd; rintro e w2 ⟨rfl, hb2, hsz2⟩; rw [hD]))
      all_goals
        have hrdC : Rd w2 (.slice ao m cap) lA := (hrdA.drew.below hb1).below hb2
        have hbb : Below w.heap.size w w2 := (Below.refl w.heap.size w).drew.trans (hb1.trans (hb2.mono hb1.size))
        clear hb1 hb2 hown1 hsz2 hrdA hrdB hD
        go_wp2_with fail
        refine (own_any _ lA _ hrdC HLA.out).mono ?_
        rintro e w3 ⟨v3, rfl, hown3, hb3⟩
        go_wp2
        go_ret2
        exact ⟨_, rfl, hown3.mono hbb.size, hbb.trans (hb3.mono hbb.size)⟩
    · rw [if_neg hd]
      have hD : decide (lB = K) = false := decide_eq_false hd
      clear hd
      go_enter Try.func26, Try.ntmps26
      go_wp2
      go_region_with (first
        | (go_at_call 32; refine (check_any _ lA _ ?_).mono ?_; exact hrdA.drew; rintro e w1 ⟨v1, rfl, hown1, hb1⟩; rw [← HK.out] at hown1; obtain ⟨a1, c1, hv1, -⟩ := id hown1.rd; subst hv1)
        | (go_at_call 34; refine (equal_any _ _ lB K _ ?_ ?_).mono ?_; exact hrdB.drew.below hb1; exact hown1.rd; rintro e w2 ⟨rfl, hb2, hsz2⟩; rw [hD]))
      all_goals
        have hbb : Below w.heap.size w w2 := (Below.refl w.heap.size w).drew.trans (hb1.trans (hb2.mono hb1.size))
        clear hb1 hb2 hown1 hsz2 hrdA hrdB hD
        go_wp2
        go_ret2
        exact ⟨_, rfl, Own.nil _ _, hbb⟩
end Go.Proofs.Ytlpjfcfajagobaa
