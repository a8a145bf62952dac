/-
  The independent reading's digits. Own work.
-/
import Derived.Test.YtpiiehenmkinaaaDoorCk
namespace Go.Proofs.YtpiiehenmkinaaaDoor
open Go.RowKit

theorem itoa_pos (u : Nat) : Lib.itoa (u : Int) = Lib.decDigits u := by
  unfold Lib.itoa
  rw [if_neg (by omega)]
  rfl
theorem itoa_negs (u : Nat) (h : 1 ≤ u) : Lib.itoa (-(u : Int)) = 45 :: Lib.decDigits u := by
  unfold Lib.itoa
  rw [if_pos (by omega)]
  simp
theorem dec_big (u : Nat) (h : ¬ u < 10) : Lib.decDigits u = Lib.decDigits (u / 10) ++ Lib.decDigits (u % 10) := by
  rw [Lib.decDigits, dif_neg h, Lib.decDigits_one (show u % 10 < 10 by omega)]
theorem cat_mk (a b : List UInt8) : (⟨a.toArray⟩ : ByteArray) ++ ⟨b.toArray⟩ = ⟨(a ++ b).toArray⟩ := by
  apply ByteArray.ext
  simp [ByteArray.data_append]
theorem cat_minus (b : List UInt8) : (⟨#[45]⟩ : ByteArray) ++ ⟨b.toArray⟩ = ⟨(45 :: b).toArray⟩ := by
  apply ByteArray.ext
  simp [ByteArray.data_append]
theorem dec_len (u : Nat) (h : u ≤ 9223372036854775808) : (Lib.decDigits u).length ≤ 21 := by
  by_cases h2 : u ≤ 9223372036854775807
  · have := Lib.itoa_length_le (u : Int) (by omega) (by omega)
    rwa [itoa_pos] at this
  · have := Lib.itoa_length_le (-(u : Int)) (by omega) (by omega)
    rw [itoa_negs u (by omega)] at this
    simp only [List.length_cons] at this
    omega
set_option maxRecDepth 100000 in
theorem dig_one (u : Nat) (h : u < 10) (w : World) : Calls Tryd.prog 45 #[.int .i64 u] w fun e w' => e = .returned (.string ⟨(Lib.itoa (u : Int)).toArray⟩) ∧ Below w.heap.size w w' := by
  have h1 : ¬ (u : Int) < 0 := by omega
  have h2 : (u : Int) < 10 := by omega
  rw [itoa_pos, Lib.decDigits_one h]
  have hts := run_toStr
  have hrs := run_str _ _ _ (Rd.one w (UInt8.ofNat (48 + u)) (48 + (u : Int)) 5 (by rw [UInt8.toNat_ofNat']; omega))
  go_enter Tryd.func45, Tryd.ntmps45
  go_wp2
  go_ret
  exact ⟨rfl, (Below.refl _ _).alloc (Nat.le_refl _) _⟩
set_option maxRecDepth 100000 in
theorem dig_pos (u : Nat) : ∀ (w : World), u ≤ 9223372036854775807 → Calls Tryd.prog 45 #[.int .i64 u] w fun e w' => e = .returned (.string ⟨(Lib.itoa (u : Int)).toArray⟩) ∧ Below w.heap.size w w' := by
  induction u using Nat.strongRecOn with
  | _ u ih =>
    intro w hu
    by_cases h : u < 10
    · exact dig_one u h w
    · have h1 : ¬ (u : Int) < 0 := by omega
      have h2 : ¬ (u : Int) < 10 := by omega
      rw [itoa_pos, dec_big u h]
      have IH := hide ih
      clear ih
      have e1 : ((u / 10 : Nat) : Int) = (u : Int) / 10 := by omega
      have e2 : ((u % 10 : Nat) : Int) = (u : Int) % 10 := by omega
      have i1 := IH.out (u / 10) (by omega)
      have i2 := IH.out (u % 10) (by omega)
      rw [itoa_pos] at i1 i2
      have b1 := dec_len (u / 10) (by omega)
      have b2 := dec_len (u % 10) (by omega)
      obtain ⟨d1, D1⟩ := named (Lib.decDigits (u / 10))
      obtain ⟨d2, D2⟩ := named (Lib.decDigits (u % 10))
      rw [← D1.out] at b1
      rw [← D2.out] at b2
      have b3 : ¬ 9223372036854775807 < d1.length + d2.length := by omega
      rw [← D1.out, e1] at i1
      rw [← D2.out, e2] at i2
      rw [← D1.out, ← D2.out]
      have I1 := hide i1
      have I2 := hide i2
      clear i1 i2 e1 e2 h
      go_enter Tryd.func45, Tryd.ntmps45
      go_wp2_with fail
      refine (I1.out w (by omega)).mono ?_
      rintro e w1 ⟨rfl, hb1⟩
      go_wp2_with fail
      refine (I2.out w1 (by omega)).mono ?_
      rintro e w2 ⟨rfl, hb2⟩
      go_wp2
      go_ret
      exact ⟨by rw [cat_mk]; rfl, below_call hb1 hb2⟩
set_option maxRecDepth 100000 in
set_option maxHeartbeats 1600000 in
theorem dig_neg (u : Nat) : ∀ (w : World), 1 ≤ u → u ≤ 9223372036854775808 → Calls Tryd.prog 45 #[.int .i64 (-(u : Int))] w fun e w' => e = .returned (.string ⟨(Lib.itoa (-(u : Int))).toArray⟩) ∧ Below w.heap.size w w' := by
  induction u using Nat.strongRecOn with
  | _ u ih =>
    intro w h0 hu
    have h1 : (-(u : Int)) < 0 := by omega
    rw [itoa_negs u h0]
    obtain ⟨z, HZ⟩ := named (-(u : Int))
    rw [← HZ.out] at h1 ⊢
    have hz2 : -9223372036854775808 ≤ z ∧ z < 0 := by rw [HZ.out]; omega
    by_cases h : u < 10
    · have hz3 : -10 < z := by rw [HZ.out]; omega
      have i1 := dig_one u h
      have e1 : Int.tdiv z 10 = 0 := by
        rw [HZ.out, Int.neg_tdiv, Int.tdiv_eq_ediv_of_nonneg (by omega)]
        omega
      have e2 : -z = (u : Int) := by rw [HZ.out]; omega
      rw [itoa_pos] at i1
      have b1 := dec_len u (by omega)
      obtain ⟨d1, D1⟩ := named (Lib.decDigits u)
      rw [← D1.out] at b1
      have b3 : ¬ 9223372036854775807 < 1 + d1.length := by omega
      rw [← D1.out] at i1 ⊢
      rw [← e2] at i1
      have I1 := hide i1
      clear i1 e2
      go_enter Tryd.func45, Tryd.ntmps45
      go_wp2_with fail
      refine (I1.out w).mono ?_
      rintro e w1 ⟨rfl, hb1⟩
      go_wp2
      go_ret
      exact ⟨by rw [cat_minus]; rfl, hb1⟩
    · have e1 : Int.tdiv z 10 = -((u / 10 : Nat) : Int) := by
        rw [HZ.out, Int.neg_tdiv, Int.tdiv_eq_ediv_of_nonneg (by omega)]
        omega
      have e2 : Int.tmod z 10 = -((u % 10 : Nat) : Int) := by
        rw [HZ.out, Int.neg_tmod, Int.tmod_eq_emod_of_nonneg (by omega)]
        omega
      have e3 : ¬ (-((u / 10 : Nat) : Int)) = 0 := by omega
      have i1 := ih (u / 10) (by omega)
      have i2 := dig_pos (u % 10)
      rw [itoa_negs (u / 10) (by omega)] at i1
      rw [itoa_pos] at i2
      rw [dec_big u h]
      have b1 := dec_len (u / 10) (by omega)
      have b2 := dec_len (u % 10) (by omega)
      obtain ⟨d1, D1⟩ := named (Lib.decDigits (u / 10))
      obtain ⟨d2, D2⟩ := named (Lib.decDigits (u % 10))
      rw [← D1.out] at b1
      rw [← D2.out] at b2
      have b3 : ¬ 9223372036854775807 < d1.length + d2.length := by omega
      rw [← D1.out] at i1 ⊢
      rw [← D2.out] at i2 ⊢
      obtain ⟨q, HQ⟩ := named (u / 10)
      obtain ⟨r, HR⟩ := named (u % 10)
      rw [← HQ.out] at i1 e1 e3
      rw [← HR.out] at i2 e2
      have hq : 1 ≤ q ∧ q ≤ 922337203685477580 := by rw [HQ.out]; omega
      have hr : r < 10 := by rw [HR.out]; omega
      have I1 := hide i1
      have I2 := hide i2
      clear i1 i2 ih h
      have e4 : -(-(r : Int)) = (r : Int) := by omega
      go_enter Tryd.func45, Tryd.ntmps45
      go_wp2_with fail
      refine (I1.out w (by omega) (by omega)).mono ?_
      rintro e w1 ⟨rfl, hb1⟩
      go_wp2_with fail
      refine (I2.out w1 (by omega)).mono ?_
      rintro e w2 ⟨rfl, hb2⟩
      go_wp2
      go_ret
      exact ⟨by rw [cat_mk]; rfl, below_call hb1 hb2⟩
theorem digits_any (n : Int) (w : World) (h : IR n) : Calls Tryd.prog 45 #[.int .i64 n] w fun e w' => e = .returned (.string ⟨(Lib.itoa n).toArray⟩) ∧ Below w.heap.size w w' := by
  by_cases h0 : 0 ≤ n
  · obtain ⟨u, rfl⟩ := Int.eq_ofNat_of_zero_le h0
    exact dig_pos u w (by have := h.2; omega)
  · obtain ⟨u, hu⟩ := Int.eq_ofNat_of_zero_le (show 0 ≤ -n by omega)
    have : n = -(u : Int) := by omega
    subst this
    exact dig_neg u w (by omega) (by have := h.1; omega)
end Go.Proofs.YtpiiehenmkinaaaDoor
