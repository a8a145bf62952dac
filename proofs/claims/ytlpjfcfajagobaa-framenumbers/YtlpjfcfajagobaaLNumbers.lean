/-
  The law FrameNumbers answers true: the chapter's examples, limits, lengths that are none, each byte of a frame that is another one. No condition.
-/
import Derived.Test.YtlpjfcfajagobaaLSpares
import Derived.Test.YtlpjfcfajagobaaFg
import Derived.Deep.RegionHeld3
namespace Go.Proofs.Ytlpjfcfajagobaa
open Go.RowKit

/-- so many noughts -/
def zs (n : Nat) : List UInt8 := List.replicate n 0
theorem zs_length (n : Nat) : (zs n).length = n := by simp [zs]
theorem zs_made (n : Nat) : (madeCells #[.int .u8 0] n).toList = BV (zs n) := by
  rw [toList_madeCells_one]
  simp [BV, zs]
theorem Own.made {w' : World} {B g n : Nat} (h : w'.ownsRow B 5 1 (.slice (some ⟨g, 0, none⟩) n n) n (madeCells #[.int .u8 0] n).toList) : Own w' B (.slice (some ⟨g, 0, none⟩) n n) (zs n) := by
  unfold Own
  rw [zs_length, ← zs_made]
  exact h
def fbody : List UInt8 := frameL [98, 111, 100, 121]
theorem fbody_len : fbody.length = 10 := by decide +kernel
theorem put_body : putL [] [98, 111, 100, 121] = (fbody, 0) := by decide +kernel
theorem fbody_turned : ∀ k, k < 10 → (getF (fbody.set k (xorB (fbody.getD k 0) 1)) 0).2.2 ≠ 0 := by
  have h : ∀ k : Fin 10, (getF (fbody.set k.val (xorB (fbody.getD k.val 0) 1)) 0).2.2 ≠ 0 := by decide +kernel
  exact fun k hk => h ⟨k, hk⟩
theorem U_mega : (U ((1048576 : Nat) : Int)).length = 3 := by decide +kernel

set_option maxRecDepth 100000 in
set_option maxHeartbeats 1600000 in
theorem numbers_walk (w : World) : Calls Try.prog 3 #[] w fun e w' => e = .returned (.bool true) ∧ Below w.heap.size w w' := by
  obtain ⟨i0, hi, hz0, hz1, hz2⟩ := info_parts Try.info5
  have kc := fun (w : World) (C : Array Value) (n c : Nat) => Lib.run_convert_bytes_const (P := Try.prog) w 22 5 C n c Try.underlying22 Try.underlying5
  obtain ⟨N1, HN1⟩ := named 1048577
  obtain ⟨N, HN⟩ := named 1048576
  have hput0 := fun w => put_any (.slice none 0 0) (.slice none 0 0) [] [] w (Rd.nil _) (Rd.nil _) (by decide)
  rw [show putL [] [] = ([], 2) from rfl] at hput0
  go_enter Try.func3, Try.ntmps3
  go_wp2_with fail
  refine (hput0 _).mono ?_
  rintro e w1 ⟨v1, rfl, -, hb1⟩
  clear hput0
  go_wp2_with (at_make; go_must (refine wpList_make_full _ rfl (.const (.int .i64 1048577)) (.const (.int .i64 1048577)) 22 rfl w1.heap.size 5 i0 (.int .u8 0) 1 Try.underlying22 hi hz0 hz1 .i64 .i64 _ _ N1 rfl rfl ?_ ?_ ?_ ?_ ?_ ?_))
  · have := HN1.out; omega
  · have := HN1.out; omega
  · rw [hz2]; have := HN1.out; omega
  · have := HN1.out; unfold maxLen; omega
  · exact Nat.le_refl _
  intro w2 hown2 hg2
  have hb2 : Below w1.heap.size w1 w2 := (Below.refl _ _).grown hg2 (Nat.le_refl _) (fun k hk => by cases hk)
  have hB2 := below_call hb1 hb2
  have hz := Own.made hown2
  have hput1 := put_any (.slice none 0 0) _ [] (zs N1) w2 (Rd.nil _) hz.rd (by decide)
  rw [show putL [] (zs N1) = ([], 3) from by unfold putL; rw [zs_length, if_neg (by have := HN1.out; omega), if_pos (by have := HN1.out; omega)]] at hput1
  clear hz hown2 hg2 hb2 hb1
  go_wp2_with fail
  refine hput1.mono ?_
  rintro e w3 ⟨v3, rfl, -, hb3⟩
  have hB3 := below_call hB2 hb3
  clear hput1 hb3 hB2
  have hrA : Rd (w3.alloc (.cells #[.int .u8 97, .int .u8 104, .int .u8 101, .int .u8 97, .int .u8 100] 5 (5, 6))) (.slice (some ⟨w3.heap.size, 0, none⟩) 5 5) [97, 104, 101, 97, 100] := Rd.lit _ _ [97, 104, 101, 97, 100] _ _ _ rfl rfl (by decide)
  have hB4 : Below w.heap.size w (w3.alloc (.cells #[.int .u8 97, .int .u8 104, .int .u8 101, .int .u8 97, .int .u8 100] 5 (5, 6))) := hB3.alloc hB3.size _
  obtain ⟨W4, HW4⟩ := named (w3.alloc (.cells #[.int .u8 97, .int .u8 104, .int .u8 101, .int .u8 97, .int .u8 100] 5 (5, 6)))
  have hs4 : W4.heap.size = w3.heap.size + 1 := by rw [HW4.out]; simp
  rw [← HW4.out] at hrA hB4
  obtain ⟨W5, hrun5, hown5, hg5⟩ := run_make_full (P := Try.prog) W4 W4.heap.size 22 5 i0 (.int .u8 0) 1 Try.underlying22 hi hz0 hz1 .i64 .i64 N (by rw [hz2]; have := HN.out; omega) (by have := HN.out; unfold maxLen; omega) (Nat.le_refl _)
  rw [show ((N : Nat) : Int) = 1048576 from by rw [HN.out]; rfl] at hrun5
  have hb5 : Below W4.heap.size W4 W5 := (Below.refl _ _).grown hg5 (Nat.le_refl _) (fun k hk => by cases hk)
  have hz5 : Own W5 W4.heap.size (.slice (some ⟨W4.heap.size, 0, none⟩) N N) (zs N) := by
    rw [Nat.mul_one] at hown5
    exact Own.made hown5
  have hrA5 := hrA.below hb5
  have hB5 := below_call hB4 hb5
  rw [HW4.out] at hrun5
  rw [hs4] at hz5
  clear hown5 hg5
  go_wp2_with fail
  have hNl : (zs N).length = 1048576 := by rw [zs_length]; exact HN.out
  have hput5 := put_any _ _ [97, 104, 101, 97, 100] (zs N) W5 hrA5 hz5.rd (by decide)
  rw [putL_ok _ (zs N) (by omega) (by omega)] at hput5
  have hfl := frameL_length (zs N)
  have hgf := getF_frame (zs N) [97, 104, 101, 97, 100] [] (by omega) (by omega)
  rw [hNl, U_mega] at hfl
  rw [List.append_nil] at hgf
  obtain ⟨Z, HZ⟩ := named (zs N)
  rw [← HZ.out] at hput5 hfl hgf hNl
  obtain ⟨F, HF⟩ := named (frameL Z)
  rw [← HF.out] at hput5 hfl hgf
  obtain ⟨LG, HLG⟩ := named ([97, 104, 101, 97, 100] ++ F)
  have hlg : LG.length = 1048589 := by rw [HLG.out, List.length_append, hfl]; rfl
  have hlt : LG.take 5 = [97, 104, 101, 97, 100] := by rw [HLG.out]; rfl
  rw [← HLG.out] at hput5 hgf
  have HGF : Hid _ := hgf
  have HFL : Hid _ := hfl
  have HNL : Hid _ := hNl
  have HLT : Hid _ := hlt
  simp only at hput5
  refine hput5.mono ?_
  rintro e w6 ⟨v6, rfl, hown6, hb6⟩
  have hB6 := below_call hB5 hb6
  have hr6 := hown6.rd
  obtain ⟨a6, c6, hv6, hc6, hc6m, -⟩ := id hown6.rd
  rw [hlg] at hv6 hc6
  subst hv6
  unfold maxLen at hc6m
  have hr7 : Rd w6 (.slice a6 5 c6) [97, 104, 101, 97, 100] := by
    have := hr6.take 5 (by rw [hlg]; omega)
    rw [hlt] at this
    exact this
  have HLGL : Hid _ := hlg
  have hT := run_toStr
  have hs1 := run_str w6 _ _ hr7
  have hs2 := run_str w6.drew _ _ hr7.drew
  clear hput5 hlg hlt hgf hfl hNl hb6 hB5 hB4 hB3 hrA hrA5 hz5 hown6 hb5 hrun5
  have hc65 : (5 : Int) ≤ (c6 : Int) := by omega
  go_wp2_with fail
  have hg5 : getF LG 5 = (Z, 1048589, 0) := by
    have h := HGF.out
    rw [HFL.out] at h
    exact h
  have hget := get_any _ LG 5 w6 hr6 (by rw [HLGL.out]; omega)
  rw [hg5] at hget
  simp only at hget
  refine hget.mono ?_
  rintro e w8 ⟨v8, rfl, hown8, hb8⟩
  have hB8 := below_call hB6 hb8
  obtain ⟨a8, c8, hv8, -⟩ := id hown8.rd
  rw [HNL.out] at hv8
  subst hv8
  clear hget hg5 hown8 hb8 hB6 hs1 hs2 hr6 hr7 HGF
  have HPB : Hid _ := put_body
  go_wp2_with fail
  refine (put_any _ _ [] [98, 111, 100, 121] _ (Rd.nil _) (Rd.lit _ _ [98, 111, 100, 121] _ _ _ rfl rfl (by decide)) (by decide)).mono ?_
  rintro e w9 ⟨v9, rfl, hown9, hb9⟩
  rw [HPB.out] at hown9 ⊢
  simp only at hown9
  have hB9 := below_alloc_call hB8 hb9
  have hr9 := hown9.rd
  obtain ⟨g9, c9, hv9, hg9, hc9, hc9m⟩ : ∃ g cap, v9 = .slice (some ⟨g, 0, none⟩) fbody.length cap ∧ w.heap.size ≤ g ∧ fbody.length ≤ cap ∧ cap ≤ maxLen := by
    rcases hown9.shape with ⟨-, h⟩ | ⟨g, cap, h1, h2, h3, h4, h5, -⟩
    · have := fbody_len; rw [h] at this; simp at this
    · exact ⟨g, cap, h1, by have := hB8.size; simp at h2; omega, h4, h5⟩
  rw [fbody_len] at hv9 hc9
  subst hv9
  unfold maxLen at hc9m
  clear hown9 hb9 hB8
  go_wp2
  go_loopw [95] (fun iv wr => ∃ k : Nat, k ≤ 10 ∧ iv = .int .i64 k ∧ Below w9.heap.size w9 wr) (fun iv _ => 10 - (intOf iv).toNat)
  case atStart => exact ⟨0, by omega, rfl, Below.refl _ _⟩
  case round =>
    obtain ⟨k, hk, rfl, hb⟩ := hrel
    have hr10 := hr9.below hb
    have hB10 := below_call hB9 hb
    have hFL := fbody_len
    by_cases hlt : k < 10
    · have hlt' : (k : Int) < 10 := by omega
      have htr := fbody_turned k hlt
      have hgd : fbody.getD k 0 = fbody[k]'(by rw [hFL]; exact hlt) := by
        have : k < fbody.length := by rw [hFL]; exact hlt
        simp [List.getD, this]
      rw [hgd] at htr
      have HTR : Hid _ := htr
      clear hgd htr
      go_wp2_with fail
      refine (copyBytes_any _ fbody _ hr10 (by rw [hFL]; omega)).mono ?_
      rintro e w11 ⟨v11, rfl, hown11, hb11⟩
      obtain ⟨g11, c11, hv11, hg11, hc11, hc11m⟩ : ∃ g cap, v11 = .slice (some ⟨g, 0, none⟩) fbody.length cap ∧ wr.heap.size ≤ g ∧ fbody.length ≤ cap ∧ cap ≤ maxLen := by
        rcases hown11.shape with ⟨-, h⟩ | ⟨g, cap, h1, h2, h3, h4, h5, -⟩
        · rw [h] at hFL; simp at hFL
        · exact ⟨g, cap, h1, h2, h4, h5⟩
      subst hv11
      have hfro := hown11.frozen k
      have hcell := hown11.cell k (by rw [hFL]; exact hlt)
      have hst := hown11.store k (xorB (fbody[k]'(by rw [hFL]; exact hlt)) 1) _ (xorB_val _ 1)
      obtain ⟨x0, HX0⟩ := named (fbody[k]'(by rw [hFL]; exact hlt))
      rw [← HX0.out] at hcell hst HTR
      obtain ⟨GG, HGG⟩ := named (fbody.set k (xorB x0 1))
      have hGl : GG.length = 10 := by rw [HGG.out, List.length_set, hFL]
      rw [← HGG.out] at hst HTR
      rw [hFL] at hst hc11 ⊢
      have HST : Hid _ := hst
      have hB12 : ∀ u, Below wr.heap.size wr (w11.setCell ⟨g11, k, none⟩ u) := fun u => hb11.trans ((Below.refl wr.heap.size w11).setCell hg11 u)
      have HB12 : Hid _ := hB12
      unfold maxLen at hc11m
      clear hst hown11 HX0 HGG hB12 hFL
      go_wp2_with fail
      have hrg : Rd (w11.setCell ⟨g11, k, none⟩ (Value.int IntKind.u8 (bits BinOp.xor IntKind.u8 (x0.toNat : Int) 1))) (.slice (some ⟨g11, 0, none⟩) 10 c11) GG := Own.rd (show Own _ _ _ _ from HST.out)
      have hB13 := HB12.out (Value.int IntKind.u8 (bits BinOp.xor IntKind.u8 (x0.toNat : Int) 1))
      have hget := get_any _ GG 0 _ hrg (by rw [hGl]; omega)
      obtain ⟨E, HE⟩ := named (getF GG 0).2.2
      rw [← HE.out] at hget HTR
      have hE : ((E : Int) == 0) = false := by
        simp only [beq_eq_false_iff_ne]
        intro h
        exact HTR.out (by omega)
      refine hget.mono ?_
      rintro e w14 ⟨v14, rfl, -, hb14⟩
      have hB14 := below_call hB13 hb14
      clear hget hb14 hB13 hrg HST HB12 hcell hfro
      go_wp2
      go_roundw
      case rel => exact ⟨k + 1, by omega, by go_num, below_call hb hB14⟩
      case measure => simp [intOf]; omega
    · have hlt' : ¬ (k : Int) < 10 := by omega
      clear hlt hFL
      go_wp2_with fail
      refine (errs_true 2 (-1) _ [1] _ (Rd.lit _ _ [1] _ _ _ rfl rfl (by decide)) (by decide) (by decide +kernel) (by decide +kernel) (by decide +kernel)).mono ?_
      rintro e w20 ⟨rfl, hb20⟩
      have hr11 := Rd.below (hr10.alloc _) hb20
      have hB11 := below_alloc_call hB10 hb20
      clear hb20 hB10 hr10
      go_wp2_with fail
      refine (errs_true 2 (2) _ [1] _ (Rd.lit _ _ [1] _ _ _ rfl rfl (by decide)) (by decide) (by decide +kernel) (by decide +kernel) (by decide +kernel)).mono ?_
      rintro e w21 ⟨rfl, hb21⟩
      have hr12 := Rd.below (hr11.alloc _) hb21
      have hB12 := below_alloc_call hB11 hb21
      clear hb21 hB11 hr11
      go_wp2_with fail
      refine (errs_true 11 (0) _ [] _ (Rd.nil _) (by decide) (by decide +kernel) (by decide +kernel) (by decide +kernel)).mono ?_
      rintro e w22 ⟨rfl, hb22⟩
      have hr13 := hr12.below hb22
      have hB13 := below_call hB12 hb22
      clear hb22 hB12 hr12
      go_wp2_with fail
      refine (errs_true 11 (0) _ [128] _ (Rd.lit _ _ [128] _ _ _ rfl rfl (by decide)) (by decide) (by decide +kernel) (by decide +kernel) (by decide +kernel)).mono ?_
      rintro e w23 ⟨rfl, hb23⟩
      have hr14 := Rd.below (hr13.alloc _) hb23
      have hB14 := below_alloc_call hB13 hb23
      clear hb23 hB13 hr13
      go_wp2_with fail
      refine (errs_true 10 (0) _ [128, 0] _ (Rd.lit _ _ [128, 0] _ _ _ rfl rfl (by decide)) (by decide) (by decide +kernel) (by decide +kernel) (by decide +kernel)).mono ?_
      rintro e w24 ⟨rfl, hb24⟩
      have hr15 := Rd.below (hr14.alloc _) hb24
      have hB15 := below_alloc_call hB14 hb24
      clear hb24 hB14 hr14
      go_wp2_with fail
      refine (errs_true 10 (0) _ [129, 128, 64] _ (Rd.lit _ _ [129, 128, 64] _ _ _ rfl rfl (by decide)) (by decide) (by decide +kernel) (by decide +kernel) (by decide +kernel)).mono ?_
      rintro e w25 ⟨rfl, hb25⟩
      have hr16 := Rd.below (hr15.alloc _) hb25
      have hB16 := below_alloc_call hB15 hb25
      clear hb25 hB15 hr15
      go_wp2_with fail
      refine (errs_true 11 (0) _ [128, 128, 64] _ (Rd.lit _ _ [128, 128, 64] _ _ _ rfl rfl (by decide)) (by decide) (by decide +kernel) (by decide +kernel) (by decide +kernel)).mono ?_
      rintro e w26 ⟨rfl, hb26⟩
      have hr17 := Rd.below (hr16.alloc _) hb26
      have hB17 := below_alloc_call hB16 hb26
      clear hb26 hB16 hr16
      have hr99 : Rd w26 (.slice (some ⟨g9, 0, none⟩) 9 c9) (fbody.take 9) := hr17.take 9 (by decide +kernel)
      have hf9 : (fbody.take 9).length ≤ 140737488355000 := by rw [List.length_take, fbody_len]; decide
      go_wp2_with fail
      refine (errs_true 11 0 _ (fbody.take 9) _ hr99 hf9 (by decide +kernel) (by decide +kernel) (by decide +kernel)).mono ?_
      rintro e w40 ⟨rfl, hb40⟩
      have hB40 := below_call hB17 hb40
      clear hb40 hB17 hr99 hr17
      go_wp2_with fail
      refine (awake_true _).mono ?_
      rintro e w41 ⟨rfl, hb41⟩
      go_wp2
      go_ret
      exact ⟨rfl, below_call hB40 hb41⟩
end Go.Proofs.Ytlpjfcfajagobaa
