/-
  A number as the document cuts it, bit by bit, is a number as the program cuts it. Plain lemmas. Own work.
-/
import Derived.Test.YtpiiehenmkinaaaDoorMath
namespace Go.Proofs.YtpiiehenmkinaaaDoor
open Go.RowKit

/-- the highest bit that is set, of the first k -/
def hiBit (n : Nat) : Nat → Nat
  | 0 => 0
  | k + 1 => if n.testBit k then k else hiBit n k
theorem hiBit_lt (n k : Nat) (hk : 0 < k) : hiBit n k < k := by
  induction k with
  | zero => omega
  | succ k ih =>
    rw [hiBit]
    split
    · omega
    · by_cases h : k = 0
      · subst h; simp [hiBit]
      · have := ih (by omega); omega
theorem hiBit_spec (n k : Nat) : n % 2 ^ k < 2 ^ (hiBit n k + 1) ∧ (hiBit n k = 0 ∨ 2 ^ hiBit n k ≤ n % 2 ^ k) := by
  induction k with
  | zero => simp [hiBit, Nat.mod_one]
  | succ k ih =>
    have hsp : n % 2 ^ (k + 1) = n % 2 ^ k + (if n.testBit k then 2 ^ k else 0) := by
      rw [Nat.mod_pow_succ, Nat.testBit_eq_decide_div_mod_eq]
      have : n / 2 ^ k % 2 < 2 := Nat.mod_lt _ (by omega)
      by_cases h : n / 2 ^ k % 2 = 1
      · simp [h]
      · have h0 : n / 2 ^ k % 2 = 0 := by omega
        simp [h0]
    have hlt : n % 2 ^ k < 2 ^ k := Nat.mod_lt _ (Nat.two_pow_pos k)
    rw [hiBit]
    by_cases hb : n.testBit k
    · rw [if_pos hb]
      rw [if_pos hb] at hsp
      have : 2 ^ (k + 1) = 2 ^ k + 2 ^ k := by rw [Nat.pow_succ]; omega
      exact ⟨by omega, by omega⟩
    · rw [if_neg hb]
      rw [if_neg hb] at hsp
      rw [hsp]
      simpa using ih

/-- one byte of a number of s of them -/
def digit (n s j : Nat) : UInt8 := UInt8.ofNat (if j + 1 < s then n / 128 ^ j % 128 + 128 else n / 128 ^ j % 128)
theorem sev_form (f s n : Nat) (hs : 1 ≤ s) (hsf : s ≤ f) (hn : n < 128 ^ s) (hlo : s = 1 ∨ 128 ^ (s - 1) ≤ n) : sev f n = (List.range s).map (digit n s) := by
  induction f generalizing s n with
  | zero => omega
  | succ f ih =>
    by_cases h1 : s = 1
    · subst h1
      rw [sev, if_pos (by simpa using hn)]
      simp [digit, List.range_succ]
      rw [Nat.mod_eq_of_lt (by simpa using hn)]
    · have hlo' := hlo.resolve_left h1
      obtain ⟨t, rfl⟩ : ∃ t, s = t + 2 := ⟨s - 2, by omega⟩
      have h128 : 128 ≤ n := by
        have : 128 ^ 1 ≤ 128 ^ (t + 2 - 1) := Nat.pow_le_pow_right (by omega) (by omega)
        omega
      rw [sev, if_neg (by omega), ih (t + 1) (n / 128) (by omega) (by omega) (by rw [Nat.div_lt_iff_lt_mul (by omega)]; rw [← Nat.pow_succ]; exact hn) (by
        right
        rw [Nat.le_div_iff_mul_le (by omega), ← Nat.pow_succ]
        exact hlo')]
      have hrg : List.range (t + 2) = 0 :: (List.range (t + 1)).map Nat.succ := List.range_succ_eq_map
      rw [hrg, List.map_cons, List.map_map]
      congr 1
      · simp [digit]
      · apply List.map_congr_left
        intro j _
        simp only [Function.comp, digit]
        have e1 : (j.succ + 1 < t + 2) = (j + 1 < t + 1) := by
          simp only [Nat.succ_eq_add_one, eq_iff_iff]
          omega
        have e2 : n / 128 ^ j.succ = n / 128 / 128 ^ j := by
          rw [Nat.div_div_eq_div_mul, Nat.pow_succ, Nat.mul_comm]
        rw [e2]
        simp only [e1]
theorem U_form (n : Nat) (hn : n ≤ 18446744073709551615) : U n = (List.range (hiBit n 64 / 7 + 1)).map (digit n (hiBit n 64 / 7 + 1)) := by
  have hlt := hiBit_lt n 64 (by omega)
  have hsp := hiBit_spec n 64
  have hm : n % 2 ^ 64 = n := Nat.mod_eq_of_lt (by omega)
  rw [hm] at hsp
  obtain ⟨h, hh⟩ : ∃ h, h = hiBit n 64 := ⟨_, rfl⟩
  rw [← hh] at hlt hsp ⊢
  have e : U (n : Int) = sev 10 n := rfl
  rw [e]
  have hp : ∀ k, 128 ^ k = 2 ^ (7 * k) := fun k => by rw [show 128 = 2 ^ 7 by rfl, ← Nat.pow_mul]
  refine sev_form 10 (h / 7 + 1) n (by omega) (by omega) ?_ ?_
  · rw [hp]
    have : 2 ^ (h + 1) ≤ 2 ^ (7 * (h / 7 + 1)) := Nat.pow_le_pow_right (by omega) (by omega)
    omega
  · by_cases h7 : h / 7 = 0
    · left; omega
    · right
      rw [hp]
      have : 2 ^ (7 * (h / 7 + 1 - 1)) ≤ 2 ^ h := Nat.pow_le_pow_right (by omega) (by omega)
      rcases hsp.2 with h0 | h0
      · omega
      · omega

/-- of one byte what the first k bits come to -/
def part (n j k : Nat) : Nat := n / 128 ^ j % 2 ^ (min 7 (k - 7 * j))
theorem part_lt (n j k : Nat) : part n j k < 128 := by
  unfold part
  have h1 : 2 ^ (min 7 (k - 7 * j)) ≤ 2 ^ 7 := Nat.pow_le_pow_right (by omega) (by omega)
  have h2 := Nat.mod_lt (n / 128 ^ j) (Nat.two_pow_pos (min 7 (k - 7 * j)))
  omega
theorem part_other (n j k : Nat) (h : j ≠ k / 7) : part n j (k + 1) = part n j k := by
  unfold part
  have : min 7 (k + 1 - 7 * j) = min 7 (k - 7 * j) := by omega
  rw [this]
theorem part_same (n k : Nat) : part n (k / 7) (k + 1) = part n (k / 7) k + (if n.testBit k then 2 ^ (k % 7) else 0) := by
  unfold part
  have e1 : min 7 (k + 1 - 7 * (k / 7)) = k % 7 + 1 := by omega
  have e2 : min 7 (k - 7 * (k / 7)) = k % 7 := by omega
  rw [e1, e2, Nat.mod_pow_succ]
  have e3 : n / 128 ^ (k / 7) / 2 ^ (k % 7) = n / 2 ^ k := by
    rw [show 128 = 2 ^ 7 by rfl, ← Nat.pow_mul, Nat.div_div_eq_div_mul, ← Nat.pow_add]
    congr 2
    omega
  rw [e3, Nat.testBit_eq_decide_div_mod_eq]
  have : n / 2 ^ k % 2 < 2 := Nat.mod_lt _ (by omega)
  by_cases h : n / 2 ^ k % 2 = 1
  · simp [h]
  · have h0 : n / 2 ^ k % 2 = 0 := by omega
    simp [h0]
def parts (n s k : Nat) : List UInt8 := (List.range s).map fun j => UInt8.ofNat (part n j k)
theorem parts_length (n s k : Nat) : (parts n s k).length = s := by simp [parts]
theorem parts_get (n s k j : Nat) (h : j < (parts n s k).length) : (parts n s k)[j] = UInt8.ofNat (part n j k) := by simp [parts]
theorem parts_succ (n s k : Nat) : parts n s (k + 1) = (parts n s k).set (k / 7) (UInt8.ofNat (part n (k / 7) k + (if n.testBit k then 2 ^ (k % 7) else 0))) := by
  apply List.ext_getElem
  · simp [parts]
  · intro i h1 h2
    rw [List.getElem_set]
    by_cases h : k / 7 = i
    · rw [if_pos h, parts_get, ← h, part_same]
    · rw [if_neg h, parts_get, parts_get, part_other _ _ _ (fun e => h e.symm)]
theorem parts_skip (n s k : Nat) (hb : n.testBit k = false) : parts n s (k + 1) = parts n s k := by
  apply List.ext_getElem
  · simp [parts]
  · intro i h1 h2
    rw [parts_get, parts_get]
    by_cases h : i = k / 7
    · rw [h, part_same, hb]; simp
    · rw [part_other _ _ _ h]
/-- the first k bytes with the highest bit set -/
def more (n s k : Nat) : List UInt8 := (List.range s).map fun j => UInt8.ofNat (if j < k then n / 128 ^ j % 128 + 128 else n / 128 ^ j % 128)
theorem more_length (n s k : Nat) : (more n s k).length = s := by simp [more]
theorem more_get (n s k j : Nat) (h : j < (more n s k).length) : (more n s k)[j] = UInt8.ofNat (if j < k then n / 128 ^ j % 128 + 128 else n / 128 ^ j % 128) := by simp [more]
theorem more_start (n s : Nat) : parts n s (7 * s) = more n s 0 := by
  unfold parts more
  apply List.map_congr_left
  intro j hj
  have : j < s := by simpa using hj
  unfold part
  rw [show min 7 (7 * s - 7 * j) = 7 by omega, if_neg (by omega)]
theorem more_end (n s : Nat) (hs : 1 ≤ s) : more n s (s - 1) = (List.range s).map (digit n s) := by
  unfold more
  apply List.map_congr_left
  intro j hj
  unfold digit
  have : (j < s - 1) = (j + 1 < s) := by simp only [eq_iff_iff]; omega
  simp only [this]
theorem more_succ (n s k : Nat) : more n s (k + 1) = (more n s k).set k (UInt8.ofNat (n / 128 ^ k % 128 + 128)) := by
  apply List.ext_getElem
  · simp [more]
  · intro i h1 h2
    rw [List.getElem_set]
    by_cases h : k = i
    · subst h
      rw [if_pos rfl, more_get, if_pos (by omega)]
    · rw [if_neg h, more_get, more_get]
      have : (i < k + 1) = (i < k) := by simp only [eq_iff_iff]; omega
      simp only [this]

end Go.Proofs.YtpiiehenmkinaaaDoor
