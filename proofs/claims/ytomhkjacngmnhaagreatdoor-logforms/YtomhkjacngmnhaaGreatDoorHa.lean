/-
  First after Name: a segment's name tells its number. Own work.
-/
import Derived.Test.YtomhkjacngmnhaaGreatDoorGx
import Derived.Lib.AtoiAllCases
namespace Go.Proofs.YtomhkjacngmnhaaGreatDoor
open Go.RowKit

theorem parse_snoc (c : UInt8) (l : List UInt8) (acc a : Nat) (h : Lib.parseUint10 acc l = .ok a) : Lib.parseUint10 acc (l ++ [c]) = Lib.parseUint10 a [c] := by
  induction l generalizing acc with
  | nil =>
    simp only [Lib.parseUint10] at h
    injection h with h
    subst h
    rfl
  | cons d l ih =>
    rw [List.cons_append]
    unfold Lib.parseUint10 at h ⊢
    split at h
    · rename_i hd
      rw [if_pos hd]
      split at h
      · cases h
      · rename_i h1
        rw [if_neg h1]
        split at h
        · cases h
        · rename_i h2
          rw [if_neg h2]
          rw [ih _ h]
          rfl
    · cases h

theorem digit_toNat (d : Nat) (h : d < 10) : (UInt8.ofNat (48 + d)).toNat = 48 + d := by
  rw [UInt8.toNat_ofNat']
  omega

theorem parse_dec (u : Nat) (h : u ≤ 1152921504606846976) : Lib.parseUint10 0 (Lib.decDigits u) = .ok u := by
  induction u using Nat.strongRecOn with
  | _ u ih =>
    by_cases hu : u < 10
    · rw [Lib.decDigits, dif_pos hu]
      have := digit_toNat u hu
      simp only [Lib.parseUint10, this]
      rw [if_pos (by omega), if_neg (by omega), if_neg (by omega)]
      congr 1
      omega
    · rw [Lib.decDigits, dif_neg hu, parse_snoc _ _ _ _ (ih (u / 10) (by omega) (by omega))]
      have := digit_toNat (u % 10) (by omega)
      simp only [Lib.parseUint10, this]
      rw [if_pos (by omega), if_neg (by omega), if_neg (by omega)]
      congr 1
      omega

theorem dec_head (u : Nat) : ∃ c r, Lib.decDigits u = c :: r ∧ 48 ≤ c.toNat ∧ c.toNat ≤ 57 := by
  induction u using Nat.strongRecOn with
  | _ u ih =>
    by_cases hu : u < 10
    · rw [Lib.decDigits, dif_pos hu]
      exact ⟨_, [], rfl, by rw [digit_toNat u hu]; omega, by rw [digit_toNat u hu]; omega⟩
    · obtain ⟨c, r, h1, h2⟩ := ih (u / 10) (by omega)
      rw [Lib.decDigits, dif_neg hu, h1]
      exact ⟨c, r ++ [_], rfl, h2⟩

theorem atoi_dec (u : Nat) (h : u ≤ 1152921504606846976) : Lib.atoiAll (Lib.decDigits u) = .ok (u : Int) := by
  obtain ⟨c, r, h1, h2, h3⟩ := dec_head u
  have hp := parse_dec u h
  rw [h1] at hp ⊢
  rw [Lib.atoiAll_plain c r (by omega) (by omega)]
  unfold Lib.parseMag
  rw [if_neg (by simp), hp]
  simp only [Lib.signless]
  rw [if_neg (by omega)]

theorem first_name (n : Int) : firstB (nameB n) = if isNum n = true then (n, true) else (0, false) := by
  by_cases h : isNum n = true
  · rw [if_pos h]
    have hb : 1 ≤ n ∧ n ≤ 1152921504606846976 := by simpa [isNum] using h
    obtain ⟨u, rfl⟩ : ∃ u : Nat, n = u := ⟨n.toNat, by omega⟩
    have hd : (nameB (u : Int)).data.toList.drop 1 = Lib.decDigits u := by
      unfold nameB
      rw [if_pos h]
      simp [Lib.itoa_nonneg]
    unfold firstB
    rw [hd, atoi_dec u (by omega)]
    exact if_pos ⟨h, rfl⟩
  · rw [if_neg h]
    unfold nameB
    rw [if_neg h]
    exact firstB_no (by simp [Lib.hasPrefix])
end Go.Proofs.YtomhkjacngmnhaaGreatDoor
