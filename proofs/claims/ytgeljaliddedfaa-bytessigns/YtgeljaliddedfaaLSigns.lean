/-
  The law BytesSigns answers true, whatever the three numbers: each number without a sign is what just one number with a sign is written as; one that is nearer to 0 is never written longer. No condition.
-/
import Derived.Test.YtgeljaliddedfaaWi
import Derived.Test.YtgeljaliddedfaaMath
import Derived.Deep.RegionHeld
namespace Go.Proofs.Ytgeljaliddedfaa
open Go.RowKit

/-- how far from 0 -/
def absI (z : Int) : Int := if z < 0 then -z else z
theorem absI_neg (z : Int) (h : z < 0) : absI z = -z := if_pos h
theorem absI_pos (z : Int) (h : ¬ z < 0) : absI z = z := if_neg h

set_option maxRecDepth 100000 in
set_option maxHeartbeats 400000 in
theorem near_any (z : Int) (w : World) (h0 : -9223372036854775808 ≤ z) (h1 : z ≤ 9223372036854775807) :
    Calls Try.prog 35 #[.int .i64 z] w fun e w' => e = .returned (.int .u64 (absI z)) ∧ w = w' := by
  by_cases hz : z < 0
  · rw [absI_neg z hz]
    go_enter Try.func35, Try.ntmps35
    go_wp2
    go_ret
    exact ⟨ret_int (by omega), rfl⟩
  · rw [absI_pos z hz]
    go_enter Try.func35, Try.ntmps35
    go_wp2
    go_ret
    exact ⟨ret_int (by omega), rfl⟩

theorem near_le (i k : Int) (h : absI i < absI k) : foldI i ≤ foldI k := by
  unfold absI at h
  unfold foldI
  split at h <;> split at h <;> split <;> split <;> omega
theorem U_le (a b : Int) (h0 : 0 ≤ a) (h : a ≤ b) : (U a).length ≤ (U b).length := by
  obtain ⟨n, rfl⟩ := Int.eq_ofNat_of_zero_le h0
  obtain ⟨m, rfl⟩ := Int.eq_ofNat_of_zero_le (a := b) (by omega)
  exact U_mono n m (by omega)
theorem foldI_nonneg (i : Int) : 0 ≤ foldI i := by unfold foldI; split <;> omega
theorem foldI_inj (i k : Int) (h : foldI i = foldI k) : i = k := by
  have := congrArg unfoldI h
  rwa [unfold_fold, unfold_fold] at this
theorem UI_inj (a b : Int) (h0 : 0 ≤ a) (h1 : a ≤ 18446744073709551615) (g0 : 0 ≤ b) (g1 : b ≤ 18446744073709551615) (h : U a = U b) : a = b := by
  obtain ⟨n, rfl⟩ := Int.eq_ofNat_of_zero_le h0
  obtain ⟨m, rfl⟩ := Int.eq_ofNat_of_zero_le g0
  have := U_inj n m (by omega) (by omega) h
  omega
theorem unfold_sign (n : Int) (h0 : 0 ≤ n) : decide (unfoldI n < 0) = (n.tmod 2 == 1) := by
  rw [Int.tmod_eq_emod_of_nonneg h0]
  rw [Bool.eq_iff_iff]
  simp only [decide_eq_true_eq, beq_iff_eq]
  unfold unfoldI
  split <;> omega

set_option maxRecDepth 100000 in
set_option maxHeartbeats 2000000 in
theorem signs_walk (n : Nat) (i k : Int) (w : World) (hn : n ≤ 18446744073709551615) (hi0 : -9223372036854775808 ≤ i) (hi1 : i ≤ 9223372036854775807) (hk0 : -9223372036854775808 ≤ k) (hk1 : k ≤ 9223372036854775807) :
    Calls Try.prog 6 #[.int .u64 n, .int .i64 i, .int .i64 k] w fun e w' => e = .returned (.bool true) ∧ Below w.heap.size w w' := by
  have hT := run_toStr
  have HN : Hid (n ≤ 18446744073709551615) := hn
  have HI : Hid (-9223372036854775808 ≤ i ∧ i ≤ 9223372036854775807) := ⟨hi0, hi1⟩
  have HK : Hid (-9223372036854775808 ≤ k ∧ k ≤ 9223372036854775807) := ⟨hk0, hk1⟩
  have HX : Hid (-9223372036854775808 ≤ unfoldI n ∧ unfoldI n ≤ 9223372036854775807) := unfoldI_range n (by omega) (by omega)
  have HG : Hid _ := getU_U0 n hn
  have HFU : Hid (U (foldI (unfoldI n)) = U n) := congrArg U (fold_unfold n (by omega))
  have hsg := unfold_sign n (by omega)
  have hlen : (U n).length ≤ 10 := U_len _
  clear hn hi0 hi1 hk0 hk1
  obtain ⟨x, HXX⟩ := named (unfoldI n)
  rw [← HXX.out] at HX HFU hsg
  obtain ⟨l, HL⟩ := named (U (n : Int))
  rw [← HL.out] at HG HFU hlen
  go_enter Try.func6, Try.ntmps6
  go_wp2_with fail
  refine (uint_any _ [] n _ (by omega) (by have := HN.out; omega) (Rd.nil _) (by simp)).mono ?_
  rintro e w1 ⟨v1, rfl, hown1, hb1⟩
  rw [List.nil_append, ← HL.out] at hown1
  obtain ⟨a1, c1, hv1, -⟩ := id hown1.rd
  subst hv1
  go_wp2_with fail
  refine (getInt_any _ l 0 _ hown1.rd (by omega)).mono ?_
  rintro e w2 ⟨rfl, hw2⟩
  subst hw2
  rw [HG.out]
  simp only [← HXX.out]
  go_wp2_with fail
  refine (int_any _ [] x _ HX.out.1 HX.out.2 (Rd.nil _) (by simp)).mono ?_
  rintro e w2 ⟨v2, rfl, hown2, hb2⟩
  rw [List.nil_append, HFU.out] at hown2
  have hB2 := below_call hb1 hb2
  clear hb1 hb2 hown1
  obtain ⟨a2, c2, hv2, -⟩ := id hown2.rd
  subst hv2
  have hrd2 := hown2.rd
  have hs0 := run_str w2.drew _ l hrd2.drew
  clear hown2
  go_wp2_with fail
  have h00 : ((0 : Int) != 0) = false := rfl
  have hll : ((l.length : Int) != (l.length : Int)) = false := by simp
  go_region_held (fun w' => Sem.run Try.prog (toStr (.slice a2 l.length c2)) w' = .ok (.string ⟨l.toArray⟩) w') (first | exact hs0 | exact hs1)
    (first | (go_at_call 28; refine (uint_any _ [] n _ ?_ ?_ (Rd.nil _) ?_).mono ?_; omega; (have := HN.out; omega); simp; rintro e w3 ⟨v3, rfl, hown3, hb3⟩; rw [List.nil_append, ← HL.out] at hown3; have hs1 := run_str w3 _ l (hrd2.drew.below hb3); have hs2 := run_str w3 _ l hown3.rd; obtain ⟨a3, c3, hv3, -⟩ := id hown3.rd; subst hv3))
  have hB3 : Below w.heap.size w w3 := hB2.trans ((Below.refl w2.heap.size w2).drew.trans hb3 |>.mono hB2.size)
  clear hb3 hs0 hs1 hs2 hown3 hrd2 hB2 h00 hll
  go_wp2_with fail
  clear hsg
  refine (int_any _ [] i _ HI.out.1 HI.out.2 (Rd.nil _) (by simp)).mono ?_
  rintro e w4 ⟨v4, rfl, hown4, hb4⟩
  rw [List.nil_append] at hown4
  obtain ⟨lc, HLC⟩ := named (U (foldI i))
  rw [← HLC.out] at hown4
  obtain ⟨a4, c4, hv4, -⟩ := id hown4.rd
  subst hv4
  have hB4 := below_call hB3 hb4
  go_wp2_with fail
  refine (int_any _ [] k _ HK.out.1 HK.out.2 (Rd.nil _) (by simp)).mono ?_
  rintro e w5 ⟨v5, rfl, hown5, hb5⟩
  rw [List.nil_append] at hown5
  obtain ⟨ld, HLD⟩ := named (U (foldI k))
  rw [← HLD.out] at hown5
  obtain ⟨a5, c5, hv5, -⟩ := id hown5.rd
  subst hv5
  have hB5 := below_call hB4 hb5
  have hs4 := run_str w5 _ lc (hown4.rd.below hb5)
  have hs5 := run_str w5 _ ld hown5.rd
  clear hb4 hb5 hown4 hown5 hB3 hB4
  have hq : (lc == ld) = (i == k) := by
    rw [Bool.eq_iff_iff]
    simp only [beq_iff_eq]
    rw [HLC.out, HLD.out]
    constructor
    · intro h
      have r1 := foldI_range i HI.out.1 HI.out.2
      have r2 := foldI_range k HK.out.1 HK.out.2
      exact foldI_inj i k (UI_inj _ _ r1.1 r1.2 r2.1 r2.2 h)
    · intro h
      rw [h]
  have hle : absI i < absI k → lc.length ≤ ld.length := by
    intro h
    rw [HLC.out, HLD.out]
    exact U_le _ _ (foldI_nonneg i) (near_le i k h)
  have hll : lc.length ≤ 10 := by rw [HLC.out]; exact U_len _
  have hld : ld.length ≤ 10 := by rw [HLD.out]; exact U_len _
  have HLL : Hid _ := hle
  clear hle
  go_wp2_with fail
  refine (near_any i _ HI.out.1 HI.out.2).mono ?_
  rintro e w6 ⟨rfl, hw6⟩
  subst hw6
  go_wp2_with fail
  refine (near_any k _ HK.out.1 HK.out.2).mono ?_
  rintro e w6 ⟨rfl, hw6⟩
  subst hw6
  have hle := HLL.out
  obtain ⟨A, HA⟩ := named (absI i)
  obtain ⟨B, HB⟩ := named (absI k)
  rw [← HA.out, ← HB.out] at hle ⊢
  have hneg : ∀ h : 0 < i, (U (foldI (-i))).length ≤ lc.length := by
    intro h
    rw [HLC.out]
    refine U_le _ _ (foldI_nonneg _) ?_
    unfold foldI
    split <;> split <;> omega
  have HNEG : Hid _ := hneg
  clear hneg
  by_cases hAB : A < B
  all_goals
    first | have hle' : ¬ ((ld.length : Int) < (lc.length : Int)) := by have := hle hAB; omega
          | have hle' : True := trivial
    clear hle
    by_cases hip : i ≤ 0
    · go_wp2_with fail
      refine (awake_true _).mono ?_
      rintro e w7 ⟨rfl, hb7⟩
      go_wp2
      go_ret
      exact ⟨rfl, below_call hB5 hb7⟩
    · have hneg := HNEG.out (by omega)
      have HMI : Hid (-9223372036854775808 ≤ -i ∧ -i ≤ 9223372036854775807) := by have := HI.out; exact ⟨by omega, by omega⟩
      have hi9 := HI.out.2
      go_wp2_with fail
      refine (int_any _ [] (-i) _ HMI.out.1 HMI.out.2 (Rd.nil _) (by simp)).mono ?_
      rintro e w6 ⟨v6, rfl, hown6, hb6⟩
      rw [List.nil_append] at hown6
      obtain ⟨le, HLE⟩ := named (U (foldI (-i)))
      rw [← HLE.out] at hown6 hneg
      obtain ⟨a6, c6, hv6, -⟩ := id hown6.rd
      subst hv6
      have hB6 := below_call hB5 hb6
      have hneg' : (le.length : Int) ≤ (lc.length : Int) := by omega
      clear hs4 hs5 hown6 hb6 hi9
      go_wp2_with fail
      refine (awake_true _).mono ?_
      rintro e w7 ⟨rfl, hb7⟩
      go_wp2
      go_ret
      exact ⟨rfl, below_call hB6 hb7⟩
end Go.Proofs.Ytgeljaliddedfaa
