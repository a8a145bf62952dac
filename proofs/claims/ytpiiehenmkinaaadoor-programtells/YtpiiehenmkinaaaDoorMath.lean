/-
  What is read of what was written, and how long it is: plain lemmas. Own work.
-/
import Derived.Test.YtpiiehenmkinaaaDoorSpec
namespace Go.Proofs.YtpiiehenmkinaaaDoor
open Go.RowKit

/-- all sevens are full -/
def fullL : List UInt8 → Bool
  | [] => false
  | [x] => decide (x = 127)
  | x :: y :: t => decide (x = 255) && fullL (y :: t)

theorem sev_pos (f n : Nat) : 0 < (sev (f + 1) n).length := by
  rw [sev]; split <;> simp
theorem sev_ne (f n : Nat) : ∃ x t, sev (f + 1) n = x :: t := by
  rw [sev]; split
  · exact ⟨_, _, rfl⟩
  · exact ⟨_, _, rfl⟩
theorem sev_mono (f x y : Nat) (h : x ≤ y) : (sev f x).length ≤ (sev f y).length := by
  induction f generalizing x y with
  | zero => simp [sev]
  | succ f ih =>
    by_cases hx : x < 128
    · have := sev_pos f y
      rw [sev, if_pos hx]
      simp only [List.length_cons, List.length_nil]
      omega
    · have hy : ¬ y < 128 := by omega
      rw [sev, if_neg hx, sev, if_neg hy]
      simp only [List.length_cons]
      have := ih (x / 128) (y / 128) (Nat.div_le_div_right h)
      omega

theorem sev_next (f n : Nat) (h : n + 1 < 128 ^ f) : (sev f (n + 1)).length = (sev f n).length + (if fullL (sev f n) then 1 else 0) := by
  induction f generalizing n with
  | zero => simp at h
  | succ f ih =>
    by_cases h1 : n < 127
    · rw [sev, if_pos (by omega), sev, if_pos (by omega)]
      have : fullL [UInt8.ofNat n] = false := by
        simp only [fullL, decide_eq_false_iff_not]
        intro e
        have := congrArg UInt8.toNat e
        simp [UInt8.toNat_ofNat'] at this
        omega
      rw [this]
      rfl
    · by_cases h2 : n = 127
      · subst h2
        have hf : f ≠ 0 := by
          intro e
          subst e
          simp at h
        obtain ⟨f', rfl⟩ : ∃ f', f = f' + 1 := ⟨f - 1, by omega⟩
        rw [sev, if_neg (by omega), sev, if_pos (by omega), sev, if_pos (by omega)]
        rfl
      · have h3 : ¬ n < 128 := by omega
        rw [sev, if_neg (by omega), sev, if_neg h3]
        have hf : f ≠ 0 := by
          intro e
          subst e
          simp at h
          omega
        obtain ⟨f', rfl⟩ : ∃ f', f = f' + 1 := ⟨f - 1, by omega⟩
        have hp : 128 ^ (f' + 1 + 1) = 128 * 128 ^ (f' + 1) := by rw [Nat.pow_succ]; omega
        by_cases h4 : n % 128 = 127
        · have e1 : (n + 1) / 128 = n / 128 + 1 := by omega
          rw [e1]
          have hi := ih (n / 128) (by omega)
          obtain ⟨x, t, hx⟩ := sev_ne f' (n / 128)
          have ef : fullL (UInt8.ofNat (n % 128 + 128) :: sev (f' + 1) (n / 128)) = fullL (sev (f' + 1) (n / 128)) := by
            rw [hx, fullL, h4]
            simp
          rw [ef]
          simp only [List.length_cons]
          omega
        · have e1 : (n + 1) / 128 = n / 128 := by omega
          rw [e1]
          obtain ⟨x, t, hx⟩ := sev_ne f' (n / 128)
          have ef : fullL (UInt8.ofNat (n % 128 + 128) :: sev (f' + 1) (n / 128)) = false := by
            rw [hx, fullL]
            have : decide (UInt8.ofNat (n % 128 + 128) = 255) = false := by
              apply decide_eq_false
              intro e
              have := congrArg UInt8.toNat e
              rw [UInt8.toNat_ofNat'] at this
              simp at this
              omega
            rw [this]
            rfl
          rw [ef]
          simp

theorem pow_split (i : Nat) : 2 ^ (7 * (i + 1)) = 128 * 2 ^ (7 * i) := by
  rw [Nat.mul_add, Nat.pow_add]; omega

/-- what was written is read -/
theorem rdU_sev (p f i acc n : Nat) (rest : List UInt8) (hf : i + f = 10) (hn : n * 2 ^ (7 * i) < 18446744073709551616) (hi : 0 < i → 0 < n) (hf0 : 0 < f) :
    rdU p i acc (sev f n ++ rest) = (acc + n * 2 ^ (7 * i), p + i + (sev f n).length, 0) := by
  induction f generalizing i acc n with
  | zero => omega
  | succ f ih =>
    have hb9 : i = 9 → n ≤ 1 := by
      intro h9
      subst h9
      simp at hn
      omega
    by_cases hs : n < 128
    · rw [sev, if_pos hs, List.singleton_append, rdU_cons _ _ _ _ _ (by omega)]
      have hx : (UInt8.ofNat n).toNat = n := by rw [UInt8.toNat_ofNat']; omega
      rw [hx]
      have hm : mayB n i = true := by
        unfold mayB
        by_cases h9 : i = 9
        · have := hb9 h9
          have := hi (by omega)
          subst h9
          have : n = 1 := by omega
          subst this
          rfl
        · have : ((i : Int) == 9) = false := by simp; omega
          rw [this]
          by_cases h0 : i = 0
          · subst h0; simp
          · have := hi (by omega)
            simp
            omega
      rw [if_neg (by rw [hm]; simp), if_pos hs, Nat.mod_eq_of_lt hs]
      simp
    · rw [sev, if_neg hs, List.cons_append, rdU_cons _ _ _ _ _ (by omega)]
      have hx : (UInt8.ofNat (n % 128 + 128)).toNat = n % 128 + 128 := by rw [UInt8.toNat_ofNat']; omega
      rw [hx]
      have hm : mayB ((n % 128 + 128 : Nat) : Int) i = true := by
        unfold mayB
        have h9 : ((i : Int) == 9) = false := by
          simp
          intro h9
          have := hb9 (by omega)
          omega
        rw [h9]
        simp
        omega
      rw [if_neg (by rw [hm]; simp), if_neg (by omega)]
      have hf1 : 0 < f := by
        rcases Nat.eq_zero_or_pos f with h | h
        · subst h
          have := hb9 (by omega)
          omega
        · exact h
      have e1 : (n % 128 + 128) % 128 = n % 128 := by omega
      have e2 : n / 128 * 2 ^ (7 * (i + 1)) = n / 128 * 128 * 2 ^ (7 * i) := by rw [pow_split, Nat.mul_assoc]
      have e3 : n % 128 * 2 ^ (7 * i) + n / 128 * 128 * 2 ^ (7 * i) = n * 2 ^ (7 * i) := by
        rw [← Nat.add_mul]
        congr 1
        omega
      rw [e1, ih (i + 1) _ (n / 128) (by omega) (by omega) (by omega) hf1]
      simp only [List.length_cons, Prod.mk.injEq]
      refine ⟨by omega, by omega, trivial⟩

theorem getU_U (n : Nat) (hn : n ≤ 18446744073709551615) (ahead rest : List UInt8) : getU (ahead ++ (U n ++ rest)) ahead.length = (n, ahead.length + (U n).length, 0) := by
  unfold getU
  rw [if_neg (by simp; omega)]
  have : ((ahead.length : Nat) : Int).toNat = ahead.length := by omega
  rw [this, List.drop_left]
  have h := rdU_sev ahead.length 10 0 0 n rest rfl (by simp; omega) (by omega) (by omega)
  have e : U (n : Int) = sev 10 n := rfl
  rw [e, h]
  simp
theorem getU_U0 (n : Nat) (hn : n ≤ 18446744073709551615) : getU (U n) 0 = (n, (U n).length, 0) := by
  have := getU_U n hn [] []
  simpa using this
theorem U_inj (n m : Nat) (hn : n ≤ 18446744073709551615) (hm : m ≤ 18446744073709551615) (h : U n = U m) : n = m := by
  have h1 := getU_U0 n hn
  have h2 := getU_U0 m hm
  rw [h, h2] at h1
  exact (congrArg Prod.fst h1).symm
theorem U_pos (n : Int) : 0 < (U n).length := sev_pos 9 _
theorem U_mono (n m : Nat) (h : n ≤ m) : (U n).length ≤ (U m).length := sev_mono 10 n m h
theorem U_next (n : Nat) (h : n < 18446744073709551615) : (U ((n + 1 : Nat) : Int)).length = (U n).length + (if fullL (U n) then 1 else 0) :=
  sev_next 10 n (by omega)
theorem U_top : (U 18446744073709551615).length = 10 := by decide +kernel

/-- full up to the j-th, by what the last one is -/
def fullTo (l : List UInt8) (b : Bool) (j : Nat) : Bool := b && (l.take j).all fun x => decide (x = 255)
theorem fullTo_succ (l : List UInt8) (b : Bool) (j : Nat) (h : j < l.length) : fullTo l b (j + 1) = (fullTo l b j && decide (l[j] = 255)) := by
  unfold fullTo
  rw [List.take_succ_eq_append_getElem h, List.all_append]
  simp [Bool.and_assoc]
theorem fullL_eq (l : List UInt8) (k : Nat) (h : l.length = k + 1) : fullL l = fullTo l (decide (l[k] = 127)) k := by
  induction l generalizing k with
  | nil => simp at h
  | cons x t ih =>
    cases t with
    | nil =>
      simp at h
      subst h
      simp [fullL, fullTo]
    | cons y t =>
      obtain ⟨k', rfl⟩ : ∃ k', k = k' + 1 := ⟨k - 1, by simp at h; omega⟩
      rw [fullL, ih k' (by simpa using h)]
      unfold fullTo
      simp only [List.take_succ_cons, List.all_cons, List.getElem_cons_succ]
      cases decide (x = 255) <;> simp
theorem u8_eq (x : UInt8) (n : Nat) (hn : n < 256) : ((x.toNat : Int) == (n : Int)) = decide (x = UInt8.ofNat n) := by
  rw [Bool.eq_iff_iff]
  simp only [beq_iff_eq, decide_eq_true_eq]
  constructor
  · intro h
    apply UInt8.toNat_inj.1
    rw [UInt8.toNat_ofNat']
    omega
  · intro h
    rw [h, UInt8.toNat_ofNat']
    omega

end Go.Proofs.YtpiiehenmkinaaaDoor
