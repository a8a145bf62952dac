/-
  The law FrameApart answers true, whatever the bodies: no frame is the begin of another one; how long a frame is. No condition.
-/
import Derived.Test.YtlpjfcfajagobaaLSpares
import Derived.Test.YtlpjfcfajagobaaFd
import Derived.Deep.RegionHeld3
namespace Go.Proofs.Ytlpjfcfajagobaa
open Go.RowKit

theorem U_small (n : Nat) (h : n ≤ 127) : (U n).length = 1 := by
  show (sev 10 n).length = 1
  rw [show (10 : Nat) = 9 + 1 from rfl, sev, if_pos (by omega)]
  rfl
theorem U_two (n : Nat) (h0 : 127 < n) (h1 : n ≤ 16383) : (U n).length = 2 := by
  show (sev 10 n).length = 2
  rw [show (10 : Nat) = 8 + 1 + 1 from rfl, sev, if_neg (by omega), sev, if_pos (by omega)]
  rfl
theorem frame_last (b : List UInt8) (k : Nat) (hk : k + 1 = (frameL b).length) (h : k < (frameL b).length) : (frameL b)[k] = 165 := by
  have e : (frameL b)[k]? = some 165 := by
    have : frameL b = (U b.length ++ (b ++ be4 (crc b))) ++ [165] := by unfold frameL; simp
    rw [this] at hk ⊢
    rw [List.length_append, List.length_singleton] at hk
    rw [List.getElem?_append_right (by omega), show k - (U b.length ++ (b ++ be4 (crc b))).length = 0 by omega]
    rfl
  exact (List.getElem?_eq_some_iff.1 e).2

set_option maxRecDepth 100000 in
set_option maxHeartbeats 800000 in
theorem apart_off (va vb : Value) (a b : List UInt8) (w : World) (hra : Rd w va a) (hrb : Rd w vb b) (hbad : a.length = 0 ∨ b.length = 0 ∨ 500 < a.length ∨ 500 < b.length) :
    Calls Try.prog 8 #[va, vb] w fun e w' => e = .returned (.bool true) ∧ Below w.heap.size w w' := by
  obtain ⟨ao, cap, rfl, -⟩ := hra
  obtain ⟨bo, capb, rfl, -⟩ := hrb
  by_cases h0 : a.length = 0
  · have h0' : ((a.length : Int) == 0) = true := by simp only [beq_iff_eq]; omega
    clear hbad h0
    go_enter Try.func8, Try.ntmps8
    go_wp2_with fail
    refine (awake_true _).mono ?_
    rintro e w7 ⟨rfl, hb7⟩
    go_wp2
    go_ret
    exact ⟨rfl, hb7⟩
  · have h0' : ((a.length : Int) == 0) = false := by simp only [beq_eq_false_iff_ne]; omega
    by_cases h1 : b.length = 0
    · have h1' : ((b.length : Int) == 0) = true := by simp only [beq_iff_eq]; omega
      clear hbad h0 h1
      go_enter Try.func8, Try.ntmps8
      go_wp2_with fail
      refine (awake_true _).mono ?_
      rintro e w7 ⟨rfl, hb7⟩
      go_wp2
      go_ret
      exact ⟨rfl, hb7⟩
    · have h1' : ((b.length : Int) == 0) = false := by simp only [beq_eq_false_iff_ne]; omega
      by_cases h2 : 500 < a.length
      · have h2' : (500 : Int) < a.length := by omega
        clear hbad h0 h1 h2
        go_enter Try.func8, Try.ntmps8
        go_wp2_with fail
        refine (awake_true _).mono ?_
        rintro e w7 ⟨rfl, hb7⟩
        go_wp2
        go_ret
        exact ⟨rfl, hb7⟩
      · have h2' : ¬ (500 : Int) < a.length := by omega
        have h3' : (500 : Int) < b.length := by omega
        clear hbad h0 h1 h2
        go_enter Try.func8, Try.ntmps8
        go_wp2_with fail
        refine (awake_true _).mono ?_
        rintro e w7 ⟨rfl, hb7⟩
        go_wp2
        go_ret
        exact ⟨rfl, hb7⟩

set_option maxRecDepth 100000 in
set_option maxHeartbeats 1600000 in
theorem apart_le (va vb : Value) (a b : List UInt8) (w : World) (hra : Rd w va a) (hrb : Rd w vb b) (ha0 : 0 < a.length) (hb0 : 0 < b.length) (ha1 : a.length ≤ 500) (hb1 : b.length ≤ 500) (hle : (frameL a).length ≤ (frameL b).length) :
    Calls Try.prog 8 #[va, vb] w fun e w' => e = .returned (.bool true) ∧ Below w.heap.size w w' := by
  have hputa := put_any (.slice none 0 0) va [] a w (Rd.nil _) hra (by decide)
  rw [putL_ok [] a ha0 (by omega), List.nil_append] at hputa
  have hputb := fun w h => put_any (.slice none 0 0) vb [] b w (Rd.nil _) h (by decide)
  rw [putL_ok [] b hb0 (by omega), List.nil_append] at hputb
  have hfla := frameL_length a
  have hflb := frameL_length b
  have hua := U_len a.length
  have hub := U_len b.length
  have hpa := U_pos a.length
  have hpb := U_pos b.length
  have hap := frame_apart a b ha0 (by omega) hb0 (by omega)
  have hll := frame_last a
  have hlong : (a.length ≤ 127 → (frameL a).length = 1 + a.length + 5) ∧ (127 < a.length → (frameL a).length = 2 + a.length + 5) :=
    ⟨fun h => by rw [hfla, U_small _ h], fun h => by rw [hfla, U_two _ h (by omega)]⟩
  have heq : a = b → frameL a = frameL b := fun h => by rw [h]
  obtain ⟨FA, HFA⟩ := named (frameL a)
  obtain ⟨FB, HFB⟩ := named (frameL b)
  rw [← HFA.out] at hputa hfla hap hll hlong heq
  rw [← HFB.out] at hputb hflb hap heq
  obtain ⟨na, HNA⟩ := named a.length
  obtain ⟨nb, HNB⟩ := named b.length
  obtain ⟨fa, HA⟩ := named FA.length
  obtain ⟨fb, HB⟩ := named FB.length
  rw [← HNA.out] at ha0 ha1 hfla hua hpa hlong
  rw [← HNB.out] at hb0 hb1 hflb hub hpb
  rw [← HFA.out, ← HFB.out, ← HA.out, ← HB.out] at hle
  rw [← HA.out] at hfla hap hlong
  rw [← HB.out] at hflb hap
  have hfa : 7 ≤ fa ∧ fa ≤ 600 := by omega
  have hfb : 7 ≤ fb ∧ fb ≤ 600 := by omega
  obtain ⟨ao, capa, hv, -⟩ := id hra
  subst hv
  obtain ⟨bo, capb, hv, -⟩ := id hrb
  subst hv
  rw [← HNA.out] at hputa hra ⊢
  rw [← HNB.out] at hputb hrb ⊢
  have HAP : Hid _ := hap
  have HLL : Hid _ := hll
  have HLONG : Hid _ := hlong
  have HEQ : Hid _ := heq
  clear hap hll hlong heq hfla hflb hua hub hpa hpb
  have h0' : ((na : Int) == 0) = false := by simp only [beq_eq_false_iff_ne]; omega
  have h1' : ((nb : Int) == 0) = false := by simp only [beq_eq_false_iff_ne]; omega
  simp only at hputa hputb
  have hle' : (fa : Int) ≤ (fb : Int) := by have := hle; omega
  go_enter Try.func8, Try.ntmps8
  go_wp2_with fail
  refine hputa.mono ?_
  rintro e w1 ⟨v1, rfl, hown1, hb1⟩
  clear hputa
  have hra1 := hra.below hb1
  have hrb1 := hrb.below hb1
  have hrx := hown1.rd
  obtain ⟨g1, c1, hv1, hcx, hcxm, hlast⟩ : ∃ g cap, v1 = .slice (some ⟨g, 0, none⟩) FA.length cap ∧ FA.length ≤ cap ∧ cap ≤ maxLen ∧ w1.cell? ⟨g, fa - 1, none⟩ = some (.int .u8 165) := by
    rcases hown1.shape with ⟨-, h⟩ | ⟨g, cap, h1, h2, h3, h4, h5, h6⟩
    · rw [HA.out, h] at hfa; simp at hfa
    · refine ⟨g, cap, h1, h4, h5, ?_⟩
      have := h6 (fa - 1) (by rw [← HA.out]; omega)
      rw [HLL.out (fa - 1) (by rw [← HA.out]; omega)] at this
      exact this
  rw [← HA.out] at hv1 hcx
  subst hv1
  have hputb1 := hputb w1 hrb1
  clear hputb
  go_wp2_with fail
  refine hputb1.mono ?_
  rintro e w2 ⟨v2, rfl, hown2, hb2⟩
  clear hputb1
  have hra2 := hra1.below hb2
  have hrb2 := hrb1.below hb2
  have hrx2 := hrx.below hb2
  have hlast2 := (hb2.cell (p := ⟨g1, fa - 1, none⟩) (World.block_lt_of_cell? w1 _ hlast)).trans hlast
  have hB2 := below_call hb1 hb2
  clear hra hrb hra1 hrb1 hlast hb1 hb2 hown1
  have hry := hown2.rd
  obtain ⟨a2, c2, hv2, hcy, hcym, -⟩ := id hown2.rd
  rw [← HB.out] at hv2 hcy
  subst hv2
  clear hown2
  unfold maxLen at hcxm hcym
  have hrxm : Rd w2 (.slice (some ⟨g1, 0, none⟩) fa c1) (FA.take fa) := by
    have := hrx2.take fa (by rw [← HA.out]; omega)
    exact this
  have hrym : Rd w2 (.slice a2 fa c2) (FB.take fa) := by
    have := hry.take fa (by rw [← HB.out]; omega)
    exact this
  have hsame : decide (FA.take fa = FB.take fa) = decide (a = b) := by
    rw [Bool.eq_iff_iff]
    simp only [decide_eq_true_eq]
    exact ⟨HAP.out fa (by omega), fun h => by rw [HEQ.out h]⟩
  obtain ⟨same, HSM⟩ := named (decide (a = b))
  have hs1 := same_any _ _ (FA.take fa) (FB.take fa) w2.drew hrxm.drew hrym.drew
  have hs2 := same_any _ _ a b w2.drew hra2.drew hrb2.drew
  rw [hsame] at hs1
  rw [← HSM.out] at hs1 hs2
  have HS1 : Hid _ := hs1
  have HS2 : Hid _ := hs2
  have hne : (same != same) = false := by simp
  have hxc : (fa : Int) ≤ (c1 : Int) := by omega
  have hyc : (fa : Int) ≤ (c2 : Int) := by omega
  clear hrxm hrym hs1 hs2 hsame hrx hry hrx2 hra2 hrb2
  go_wp2_with fail
  have h7 : ¬ ((fa : Int) < 7) := by omega
  go_region_held3 (fun w' => w' = w2.drew) (first | rfl | assumption)
    (first
      | (go_at_call_of 17 (Value.slice (some ⟨g1, 0, none⟩) fa c1); refine Calls.mono HS1.out ?_; rintro e w6 ⟨rfl, rfl⟩)
      | (go_at_call_of 17 (Value.slice ao na capa); refine Calls.mono HS2.out ?_; rintro e w6 ⟨rfl, rfl⟩))
  all_goals
    have hB3 : Below w.heap.size w w2.drew := hB2.drew
    have hlast3 : w2.drew.cell? ⟨g1, fa - 1, none⟩ = some (Value.int IntKind.u8 165) := hlast2
    obtain ⟨w3, HW3⟩ := named w2.drew
    rw [← HW3.out] at hB3 hlast3 ⊢
    clear hB2 hlast2 HS1 HS2
    by_cases hl : 127 < na
    · have hl' : (127 : Int) < na := by omega
      have hfe : fa = 2 + na + 5 := HLONG.out.2 hl
      have hq : ((fa : Int) == 2 + (na : Int) + 5) = true := by simp only [beq_iff_eq]; omega
      clear hl hfe
      go_wp2_with fail
      refine (awake_true _).mono ?_
      rintro e w7 ⟨rfl, hb7⟩
      go_wp2
      go_ret
      exact ⟨rfl, below_call hB3 hb7⟩
    · have hl' : ¬ (127 : Int) < na := by omega
      have hfe : fa = 1 + na + 5 := HLONG.out.1 (by omega)
      have hq : ((fa : Int) == 1 + (na : Int) + 5) = true := by simp only [beq_iff_eq]; omega
      clear hl hfe
      go_wp2_with fail
      refine (awake_true _).mono ?_
      rintro e w7 ⟨rfl, hb7⟩
      go_wp2
      go_ret
      exact ⟨rfl, below_call hB3 hb7⟩
set_option maxRecDepth 100000 in
set_option maxHeartbeats 1600000 in
theorem apart_gt (va vb : Value) (a b : List UInt8) (w : World) (hra : Rd w va a) (hrb : Rd w vb b) (ha0 : 0 < a.length) (hb0 : 0 < b.length) (ha1 : a.length ≤ 500) (hb1 : b.length ≤ 500) (hle : (frameL b).length < (frameL a).length) :
    Calls Try.prog 8 #[va, vb] w fun e w' => e = .returned (.bool true) ∧ Below w.heap.size w w' := by
  have hputa := put_any (.slice none 0 0) va [] a w (Rd.nil _) hra (by decide)
  rw [putL_ok [] a ha0 (by omega), List.nil_append] at hputa
  have hputb := fun w h => put_any (.slice none 0 0) vb [] b w (Rd.nil _) h (by decide)
  rw [putL_ok [] b hb0 (by omega), List.nil_append] at hputb
  have hfla := frameL_length a
  have hflb := frameL_length b
  have hua := U_len a.length
  have hub := U_len b.length
  have hpa := U_pos a.length
  have hpb := U_pos b.length
  have hap := frame_apart a b ha0 (by omega) hb0 (by omega)
  have hll := frame_last a
  have hlong : (a.length ≤ 127 → (frameL a).length = 1 + a.length + 5) ∧ (127 < a.length → (frameL a).length = 2 + a.length + 5) :=
    ⟨fun h => by rw [hfla, U_small _ h], fun h => by rw [hfla, U_two _ h (by omega)]⟩
  have heq : a = b → frameL a = frameL b := fun h => by rw [h]
  obtain ⟨FA, HFA⟩ := named (frameL a)
  obtain ⟨FB, HFB⟩ := named (frameL b)
  rw [← HFA.out] at hputa hfla hap hll hlong heq
  rw [← HFB.out] at hputb hflb hap heq
  obtain ⟨na, HNA⟩ := named a.length
  obtain ⟨nb, HNB⟩ := named b.length
  obtain ⟨fa, HA⟩ := named FA.length
  obtain ⟨fb, HB⟩ := named FB.length
  rw [← HNA.out] at ha0 ha1 hfla hua hpa hlong
  rw [← HNB.out] at hb0 hb1 hflb hub hpb
  rw [← HFA.out, ← HFB.out, ← HA.out, ← HB.out] at hle
  rw [← HA.out] at hfla hap hlong
  rw [← HB.out] at hflb hap
  have hfa : 7 ≤ fa ∧ fa ≤ 600 := by omega
  have hfb : 7 ≤ fb ∧ fb ≤ 600 := by omega
  obtain ⟨ao, capa, hv, -⟩ := id hra
  subst hv
  obtain ⟨bo, capb, hv, -⟩ := id hrb
  subst hv
  rw [← HNA.out] at hputa hra ⊢
  rw [← HNB.out] at hputb hrb ⊢
  have HAP : Hid _ := hap
  have HLL : Hid _ := hll
  have HLONG : Hid _ := hlong
  have HEQ : Hid _ := heq
  clear hap hll hlong heq hfla hflb hua hub hpa hpb
  have h0' : ((na : Int) == 0) = false := by simp only [beq_eq_false_iff_ne]; omega
  have h1' : ((nb : Int) == 0) = false := by simp only [beq_eq_false_iff_ne]; omega
  simp only at hputa hputb
  have hle' : ¬ (fa : Int) ≤ (fb : Int) := by have := hle; omega
  go_enter Try.func8, Try.ntmps8
  go_wp2_with fail
  refine hputa.mono ?_
  rintro e w1 ⟨v1, rfl, hown1, hb1⟩
  clear hputa
  have hra1 := hra.below hb1
  have hrb1 := hrb.below hb1
  have hrx := hown1.rd
  obtain ⟨g1, c1, hv1, hcx, hcxm, hlast⟩ : ∃ g cap, v1 = .slice (some ⟨g, 0, none⟩) FA.length cap ∧ FA.length ≤ cap ∧ cap ≤ maxLen ∧ w1.cell? ⟨g, fa - 1, none⟩ = some (.int .u8 165) := by
    rcases hown1.shape with ⟨-, h⟩ | ⟨g, cap, h1, h2, h3, h4, h5, h6⟩
    · rw [HA.out, h] at hfa; simp at hfa
    · refine ⟨g, cap, h1, h4, h5, ?_⟩
      have := h6 (fa - 1) (by rw [← HA.out]; omega)
      rw [HLL.out (fa - 1) (by rw [← HA.out]; omega)] at this
      exact this
  rw [← HA.out] at hv1 hcx
  subst hv1
  have hputb1 := hputb w1 hrb1
  clear hputb
  go_wp2_with fail
  refine hputb1.mono ?_
  rintro e w2 ⟨v2, rfl, hown2, hb2⟩
  clear hputb1
  have hra2 := hra1.below hb2
  have hrb2 := hrb1.below hb2
  have hrx2 := hrx.below hb2
  have hlast2 := (hb2.cell (p := ⟨g1, fa - 1, none⟩) (World.block_lt_of_cell? w1 _ hlast)).trans hlast
  have hB2 := below_call hb1 hb2
  clear hra hrb hra1 hrb1 hlast hb1 hb2 hown1
  have hry := hown2.rd
  obtain ⟨a2, c2, hv2, hcy, hcym, -⟩ := id hown2.rd
  rw [← HB.out] at hv2 hcy
  subst hv2
  clear hown2
  unfold maxLen at hcxm hcym
  have hrxm : Rd w2 (.slice (some ⟨g1, 0, none⟩) fb c1) (FA.take fb) := by
    have := hrx2.take fb (by rw [← HA.out]; omega)
    exact this
  have hrym : Rd w2 (.slice a2 fb c2) (FB.take fb) := by
    have := hry.take fb (by rw [← HB.out]; omega)
    exact this
  have hsame : decide (FA.take fb = FB.take fb) = decide (a = b) := by
    rw [Bool.eq_iff_iff]
    simp only [decide_eq_true_eq]
    exact ⟨HAP.out fb (by omega), fun h => by rw [HEQ.out h]⟩
  obtain ⟨same, HSM⟩ := named (decide (a = b))
  have hs1 := same_any _ _ (FA.take fb) (FB.take fb) w2.drew hrxm.drew hrym.drew
  have hs2 := same_any _ _ a b w2.drew hra2.drew hrb2.drew
  rw [hsame] at hs1
  rw [← HSM.out] at hs1 hs2
  have HS1 : Hid _ := hs1
  have HS2 : Hid _ := hs2
  have hne : (same != same) = false := by simp
  have hxc : (fb : Int) ≤ (c1 : Int) := by omega
  have hyc : (fb : Int) ≤ (c2 : Int) := by omega
  clear hrxm hrym hs1 hs2 hsame hrx hry hrx2 hra2 hrb2
  go_wp2_with fail
  have h7 : ¬ ((fb : Int) < 7) := by omega
  go_region_held3 (fun w' => w' = w2.drew) (first | rfl | assumption)
    (first
      | (go_at_call_of 17 (Value.slice (some ⟨g1, 0, none⟩) fb c1); refine Calls.mono HS1.out ?_; rintro e w6 ⟨rfl, rfl⟩)
      | (go_at_call_of 17 (Value.slice ao na capa); refine Calls.mono HS2.out ?_; rintro e w6 ⟨rfl, rfl⟩))
  all_goals
    have hB3 : Below w.heap.size w w2.drew := hB2.drew
    have hlast3 : w2.drew.cell? ⟨g1, fa - 1, none⟩ = some (Value.int IntKind.u8 165) := hlast2
    obtain ⟨w3, HW3⟩ := named w2.drew
    rw [← HW3.out] at hB3 hlast3 ⊢
    clear hB2 hlast2 HS1 HS2
    by_cases hl : 127 < na
    · have hl' : (127 : Int) < na := by omega
      have hfe : fa = 2 + na + 5 := HLONG.out.2 hl
      have hq : ((fa : Int) == 2 + (na : Int) + 5) = true := by simp only [beq_iff_eq]; omega
      clear hl hfe
      go_wp2_with fail
      refine (awake_true _).mono ?_
      rintro e w7 ⟨rfl, hb7⟩
      go_wp2
      go_ret
      exact ⟨rfl, below_call hB3 hb7⟩
    · have hl' : ¬ (127 : Int) < na := by omega
      have hfe : fa = 1 + na + 5 := HLONG.out.1 (by omega)
      have hq : ((fa : Int) == 1 + (na : Int) + 5) = true := by simp only [beq_iff_eq]; omega
      clear hl hfe
      go_wp2_with fail
      refine (awake_true _).mono ?_
      rintro e w7 ⟨rfl, hb7⟩
      go_wp2
      go_ret
      exact ⟨rfl, below_call hB3 hb7⟩

theorem apart_walk (va vb : Value) (a b : List UInt8) (w : World) (hra : Rd w va a) (hrb : Rd w vb b) :
    Calls Try.prog 8 #[va, vb] w fun e w' => e = .returned (.bool true) ∧ Below w.heap.size w w' := by
  by_cases h : a.length = 0 ∨ b.length = 0 ∨ 500 < a.length ∨ 500 < b.length
  · exact apart_off va vb a b w hra hrb h
  · by_cases hle : (frameL a).length ≤ (frameL b).length
    · exact apart_le va vb a b w hra hrb (by omega) (by omega) (by omega) (by omega) hle
    · exact apart_gt va vb a b w hra hrb (by omega) (by omega) (by omega) (by omega) (by omega)
end Go.Proofs.Ytlpjfcfajagobaa
