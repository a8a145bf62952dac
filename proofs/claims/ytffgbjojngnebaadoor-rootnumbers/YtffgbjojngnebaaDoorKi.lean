/-
  The contract of root's place. Own work.
-/
import Derived.Test.YtffgbjojngnebaaDoorKh
namespace Go.Proofs.YtffgbjojngnebaaDoor
open Go.RowKit

theorem deed_seq {w w1 w' : World} {F : Nat → Prop} {d : Value} {D : AD} (hc1 : Chg F w w1) (h : Dk w' (grow (grow F w w1) w1 w') d D) (hc : Chg (grow F w w1) w1 w') : Dk w' (grow F w w') d D ∧ Chg F w w' := by
  have s1 := hc1.size
  have s2 := hc.size
  refine ⟨h.mono fun b hb hG => ?_, hc1.trans hc fun i hi hG => ?_⟩
  · rcases hG with (hG | hG) | hG
    · exact .inl hG
    · exact .inr ⟨hG.1, by have := hG.2; omega⟩
    · exact .inr ⟨by have := hG.1; omega, hG.2⟩
  · rcases hG with hG | hG
    · exact hG
    · have := hG.1; omega
theorem Rd.own_lt {w : World} {v : Value} {l : List UInt8} (h : Rd w v l) (a : Nat) (ha : v.ownBlock = some a) (hl : l ≠ []) : a < w.heap.size := by
  rcases h.cases with ⟨rfl, -⟩ | ⟨b, off, cap, rfl, -, -, -, hb, -⟩
  · exact absurd rfl hl
  · simp [Value.ownBlock] at ha
    omega

set_option maxRecDepth 100000 in
set_option maxHeartbeats 1600000 in
theorem placeRoot_any {w : World} {F : Nat → Prop} {d : Value} {D : AD} (h : Dk w F d D) (n : ByteArray) (hn : n.size ≤ 140737488355328) (sb : Value) (b : List UInt8) (hb : Rd w sb b) (hsb : ∀ a, sb.ownBlock = some a → b ≠ [] → ¬ F a) :
    Calls Tryd.prog 44 #[d, .string n, sb] w fun e w' => Deed e w w' F d (placeR D n b) := by
  have HP : Hid (placeR D n b = if (removeD D nNew).2 ≠ 0 ∧ (removeD D nNew).2 ≠ 16 then removeD D nNew
    else if (appendD (removeD D nNew).1 nNew b).2 ≠ 0 then appendD (removeD D nNew).1 nNew b
    else if (syncD (appendD (removeD D nNew).1 nNew b).1 nNew).2 ≠ 0 then syncD (appendD (removeD D nNew).1 nNew b).1 nNew
    else renameD (syncD (appendD (removeD D nNew).1 nNew b).1 nNew).1 nNew n) := rfl
  have c1 := remove_any h nNew
  obtain ⟨R1, H1⟩ := named (removeD D nNew)
  rw [← H1.out] at HP c1
  obtain ⟨D1, x1⟩ := R1
  simp only at HP c1
  obtain ⟨R2, H2⟩ := named (appendD D1 nNew b)
  rw [← H2.out] at HP
  have C2 : Hid (∀ w1 F1, Dk w1 F1 d D1 → Rd w1 sb b → (∀ a, sb.ownBlock = some a → b ≠ [] → ¬ F1 a) → Calls Tryd.prog 16 #[d, .string nNew, sb] w1 fun e w' => Deed e w1 w' F1 d R2) := fun w1 F1 q1 q2 q3 => H2.out ▸ append_any q1 nNew (by decide) sb b q2 q3
  obtain ⟨D2, x2⟩ := R2
  simp only at HP
  obtain ⟨R3, H3⟩ := named (syncD D2 nNew)
  rw [← H3.out] at HP
  have C3' : Hid (∀ w1 F1, Dk w1 F1 d D2 → Calls Tryd.prog 18 #[d, .string nNew] w1 fun e w' => Deed e w1 w' F1 d R3) := fun w1 F1 q1 => H3.out ▸ sync_any q1 nNew
  obtain ⟨D3, x3⟩ := R3
  simp only at HP
  obtain ⟨R4, H4⟩ := named (renameD D3 nNew n)
  rw [← H4.out] at HP
  have C4 : Hid (∀ w1 F1, Dk w1 F1 d D3 → Calls Tryd.prog 80 #[d, .string nNew, .string n] w1 fun e w' => Deed e w1 w' F1 d R4) := fun w1 F1 q1 => H4.out ▸ rename_any q1 nNew n hn
  obtain ⟨D4, x4⟩ := R4
  have HRB : Hid _ := hb
  have HSB : Hid _ := hsb
  obtain ⟨ao, cap, hv, -⟩ := id hb
  obtain ⟨m, HM⟩ := named b.length
  rw [← HM.out] at hv
  subst hv
  clear h hb hsb
  have HNN : Hid (nNew = ⟨#[114, 111, 111, 116, 46, 110, 101, 119]⟩) := rfl
  rw [HNN.out] at c1 C2 C3' C4
  by_cases hA : x1 ≠ 0 ∧ x1 ≠ 16
  · rw [if_pos hA] at HP
    have e1 : ((x1 : Int) == 0) = false := by simp only [beq_eq_false_iff_ne]; omega
    have e2 : ((x1 : Int) == 16) = false := by simp only [beq_eq_false_iff_ne]; omega
    have e1' : ((x1 : Int) != 0) = true := by simp only [bne_iff_ne]; omega
    have e2' : ((x1 : Int) != 16) = true := by simp only [bne_iff_ne]; omega
    clear hA
    go_enter Tryd.func44, Tryd.ntmps44
    go_wp2_with fail
    refine c1.mono ?_
    rintro e w1 ⟨rfl, k1, k2⟩
    go_wp2_with fail
    go_ret
    rw [HP.out]
    exact ⟨rfl, k1, k2⟩
  · rw [if_neg hA] at HP
    have hX : x1 = 0 ∨ x1 = 16 := by omega
    clear hA
    by_cases hB : x2 = 0
    · subst hB
      rw [if_neg (by simp)] at HP
      by_cases hC : x3 = 0
      · subst hC
        rw [if_neg (by simp)] at HP
        rcases hX with rfl | rfl
        all_goals
          go_enter Tryd.func44, Tryd.ntmps44
          go_wp2_with fail
          refine c1.mono ?_
          rintro e w1 ⟨rfl, k1, k2⟩
          have c2 := C2.out w1 _ k1 (Rd.chg HRB.out k2 HSB.out) (fun a ha hbn hG => by
            have hlt := Rd.own_lt HRB.out a ha hbn
            rcases hG with hG | hG
            · exact HSB.out a ha hbn hG
            · have := hG.1; omega)
          have HK1 : Hid _ := k2
          clear k1 k2 c1
          go_wp2_with fail
          refine c2.mono ?_
          rintro e w2 ⟨rfl, k1, k2⟩
          obtain ⟨k3, k4⟩ := deed_seq HK1.out k1 k2
          have c3 := C3'.out w2 _ k3
          have HK2 : Hid _ := k4
          clear k1 k2 k3 k4 c2
          go_wp2_with fail
          refine c3.mono ?_
          rintro e w3 ⟨rfl, k1, k2⟩
          obtain ⟨k3, k4⟩ := deed_seq HK2.out k1 k2
          have c4 := C4.out w3 _ k3
          have HK3 : Hid _ := k4
          clear k1 k2 k3 k4 c3
          go_wp2_with fail
          refine c4.mono ?_
          rintro e w4 ⟨rfl, k1, k2⟩
          obtain ⟨k3, k4⟩ := deed_seq HK3.out k1 k2
          clear k1 k2 c4
          go_wp2_with fail
          go_ret
          rw [HP.out]
          exact ⟨rfl, k3, k4⟩
      · rw [if_pos hC] at HP
        have e3 : ((x3 : Int) == 0) = false := by simp only [beq_eq_false_iff_ne]; omega
        rcases hX with rfl | rfl
        all_goals
          go_enter Tryd.func44, Tryd.ntmps44
          go_wp2_with fail
          refine c1.mono ?_
          rintro e w1 ⟨rfl, k1, k2⟩
          have c2 := C2.out w1 _ k1 (Rd.chg HRB.out k2 HSB.out) (fun a ha hbn hG => by
            have hlt := Rd.own_lt HRB.out a ha hbn
            rcases hG with hG | hG
            · exact HSB.out a ha hbn hG
            · have := hG.1; omega)
          have HK1 : Hid _ := k2
          clear k1 k2 c1
          go_wp2_with fail
          refine c2.mono ?_
          rintro e w2 ⟨rfl, k1, k2⟩
          obtain ⟨k3, k4⟩ := deed_seq HK1.out k1 k2
          have c3 := C3'.out w2 _ k3
          have HK2 : Hid _ := k4
          clear k1 k2 k3 k4 c2
          go_wp2_with fail
          refine c3.mono ?_
          rintro e w3 ⟨rfl, k1, k2⟩
          obtain ⟨k3, k4⟩ := deed_seq HK2.out k1 k2
          clear k1 k2 c3
          go_wp2_with fail
          go_ret
          rw [HP.out]
          exact ⟨rfl, k3, k4⟩
    · rw [if_pos hB] at HP
      have e2 : ((x2 : Int) == 0) = false := by simp only [beq_eq_false_iff_ne]; omega
      rcases hX with rfl | rfl
      all_goals
        go_enter Tryd.func44, Tryd.ntmps44
        go_wp2_with fail
        refine c1.mono ?_
        rintro e w1 ⟨rfl, k1, k2⟩
        have c2 := C2.out w1 _ k1 (Rd.chg HRB.out k2 HSB.out) (fun a ha hbn hG => by
          have hlt := Rd.own_lt HRB.out a ha hbn
          rcases hG with hG | hG
          · exact HSB.out a ha hbn hG
          · have := hG.1; omega)
        have HK1 : Hid _ := k2
        clear k1 k2 c1
        go_wp2_with fail
        refine c2.mono ?_
        rintro e w2 ⟨rfl, k1, k2⟩
        obtain ⟨k3, k4⟩ := deed_seq HK1.out k1 k2
        clear k1 k2 c2
        go_wp2_with fail
        go_ret
        rw [HP.out]
        exact ⟨rfl, k3, k4⟩
end Go.Proofs.YtffgbjojngnebaaDoor
