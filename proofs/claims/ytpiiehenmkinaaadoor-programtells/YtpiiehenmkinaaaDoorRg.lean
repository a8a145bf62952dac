/-
  The contract of the document's GetUint. Own work.
-/
import Derived.Test.YtpiiehenmkinaaaDoorRc
import Derived.Test.YtpiiehenmkinaaaDoorWc
namespace Go.Proofs.YtpiiehenmkinaaaDoor
open Go.RowKit

def byt (l : List UInt8) (j : Nat) : Nat := (l.getD j 0).toNat
theorem byt_lt (l : List UInt8) (j : Nat) : byt l j < 256 := UInt8.toNat_lt _
theorem byt_eq (l : List UInt8) (j : Nat) (h : j < l.length) : byt l j = (l[j]).toNat := by
  unfold byt
  rw [List.getD_eq_getElem?_getD, List.getElem?_eq_getElem h]
  rfl
/-- what the first m sevens come to -/
def val (l : List UInt8) (q : Nat) : Nat → Nat
  | 0 => 0
  | m + 1 => val l q m + byt l (q + m) % 128 * 2 ^ (7 * m)
theorem rdU_skip (p q k : Nat) (l : List UInt8) (hk : k ≤ 9) (h : ∀ j, j < k → q + j < l.length ∧ 127 < byt l (q + j)) : rdU p 0 0 (l.drop q) = rdU p k (val l q k) (l.drop (q + k)) := by
  induction k with
  | zero => rfl
  | succ k ih =>
    rw [ih (by omega) (fun j hj => h j (by omega))]
    have hk2 := h k (by omega)
    rw [drop_at l (q + k) hk2.1, rdU_cons _ _ _ _ _ (by omega)]
    rw [byt_eq l _ hk2.1] at hk2
    rw [if_neg (by
      have h1 : ((k : Int) == 9) = false := by rw [beq_eq_false_iff_ne]; omega
      have h2 : (((l[q + k]'hk2.1).toNat : Int) != 0) = true := by rw [bne_iff_ne]; omega
      simp only [mayB, h1, h2]
      simp), if_neg (by omega)]
    have e := byt_eq l _ hk2.1
    exact congrArg (fun z => rdU p (k + 1) (val l q k + z % 128 * 2 ^ (7 * k)) (l.drop (q + k + 1))) e.symm
theorem rdU_ok (p q k : Nat) (l : List UInt8) (hk : k ≤ 9) (h : ∀ j, j < k → q + j < l.length ∧ 127 < byt l (q + j)) (hq : q + k < l.length) (hx : byt l (q + k) < 128) (h9 : k = 9 → byt l (q + k) ≤ 1) (h0 : byt l (q + k) = 0 → k = 0) :
    rdU p 0 0 (l.drop q) = (val l q (k + 1), p + k + 1, 0) := by
  rw [rdU_skip p q k l hk h, drop_at l (q + k) hq, rdU_cons _ _ _ _ _ (by omega)]
  have e := byt_eq l _ hq
  rw [← e, val, if_neg (by
      rw [Bool.not_eq_false]
      simp only [mayB, Bool.and_eq_true, Bool.not_eq_true', Bool.and_eq_false_iff, beq_eq_false_iff_ne, decide_eq_false_iff_not, Bool.or_eq_true, bne_iff_ne, beq_iff_eq]
      omega), if_pos hx]
theorem rdU_bad (p q k : Nat) (l : List UInt8) (hk : k ≤ 9) (h : ∀ j, j < k → q + j < l.length ∧ 127 < byt l (q + j)) (hq : q + k < l.length) (hx : k = 9 ∧ 1 < byt l (q + k) ∨ byt l (q + k) = 0 ∧ 0 < k) :
    rdU p 0 0 (l.drop q) = (0, 0, 10) := by
  rw [rdU_skip p q k l hk h, drop_at l (q + k) hq, rdU_cons _ _ _ _ _ (by omega)]
  have e := byt_eq l _ hq
  rw [← e, if_pos (by
      rw [← Bool.not_eq_true]
      simp only [mayB, Bool.and_eq_true, Bool.not_eq_true', Bool.and_eq_false_iff, beq_eq_false_iff_ne, decide_eq_false_iff_not, Bool.or_eq_true, bne_iff_ne, beq_iff_eq]
      omega)]
theorem rdU_none (p q k : Nat) (l : List UInt8) (hk : k ≤ 9) (h : ∀ j, j < k → q + j < l.length ∧ 127 < byt l (q + j)) (hq : l.length ≤ q + k) :
    rdU p 0 0 (l.drop q) = (0, 0, 11) := by
  rw [rdU_skip p q k l hk h, List.drop_eq_nil_of_le hq, rdU]

set_option maxRecDepth 100000 in
set_option maxHeartbeats 2000000 in
theorem refGetUint_in (v : Value) (l : List UInt8) (p : Nat) (w : World) (hrd : Rd w v l) (hp : p ≤ l.length) (hl : l.length ≤ 140737488355328) :
    Calls Tryd.prog 57 #[v, .int .i64 p] w fun e w' => e = .returned (.tuple #[.int .u64 (rdU p 0 0 (l.drop p)).1, .int .i64 (rdU p 0 0 (l.drop p)).2.1, .int .i64 (rdU p 0 0 (l.drop p)).2.2]) ∧ w = w' := by
  rcases hrd.cases with ⟨rfl, ao, cap, rfl, h1, h2⟩ | ⟨b, off, cap, rfl, h1, h2, h3, h4, h5⟩
  · have hp0 : p = 0 := by simp at hp; exact hp
    subst hp0
    clear h1 h2 hrd
    go_enter Tryd.func57, Tryd.ntmps57
    go_wp2
    refine wp_loop_rounds 1 ?_
    rw [rounds_succ]
    go_wp2
    go_ret3
    exact ⟨rfl, rfl⟩
  · have HC : Hid (∀ j, j < l.length → w.cell? ⟨b, off + j, none⟩ = some (.int .u8 (byt l j : Int))) := fun j hj => by
      rw [byt_eq l j hj]
      exact h5 j hj
    have HLT : Hid _ := rdU_lt p 0 0 (l.drop p) (by omega) (by decide)
    have HN : Hid _ := rdU_none p p
    have HB : Hid _ := rdU_bad p p
    have HO : Hid _ := rdU_ok p p
    obtain ⟨n, HNN⟩ := named l.length
    rw [← HNN.out] at hp hl h1 h2 ⊢
    obtain ⟨R, HR⟩ := named (rdU p 0 0 (l.drop p))
    rw [← HR.out] at HLT ⊢
    clear h5 hrd
    unfold maxLen at h3
    have hp' : ¬ ((n : Int) < p) := by omega
    go_enter Tryd.func57, Tryd.ntmps57
    go_wp2
    go_loop [7] (fun iv => ∃ k : Nat, k ≤ 10 ∧ p + k ≤ n ∧ iv = .int .i64 k ∧ Hid (∀ j, j < k → p + j < l.length ∧ 127 < byt l (p + j))) (fun iv => 10 - (intOf iv).toNat)
    case atStart => exact ⟨0, by omega, by omega, rfl, fun j hj => by omega⟩
    case round =>
      obtain ⟨k, hk, hkn, rfl, HJ⟩ := hrel
      by_cases hlt : p + k < n
      · have hltI : (p : Int) + k < n := by omega
        have hne : ¬ (p : Int) + k = n := by omega
        have hc := HC.out (p + k) (by rw [← HNN.out]; exact hlt)
        have hx8 := byt_lt l (p + k)
        obtain ⟨x, HX⟩ := named (byt l (p + k))
        rw [← HX.out] at hc hx8
        by_cases hk10 : k < 10
        · have hk10I : (k : Int) < 10 := by omega
          have hk10n : ¬ (k : Int) = 10 := by omega
          by_cases hx : 127 < x
          · have hxI : (127 : Int) < x := by omega
            go_wp2
            go_round
            case rel =>
              refine ⟨k + 1, by omega, by omega, by go_num, fun j hj => ?_⟩
              by_cases e : j = k
              · subst e
                rw [← HX.out, ← HNN.out]
                exact ⟨hlt, hx⟩
              · exact HJ.out j (by omega)
            case measure => first | (simp [intOf]; done) | (simp [intOf]; omega)
          · have hxI : ¬ (127 : Int) < x := by omega
            by_cases hbd : k = 9 ∧ 1 < x ∨ x = 0 ∧ 0 < k
            · have hbad := HB.out k l (by omega) HJ.out (by rw [← HNN.out]; exact hlt) (by rw [← HX.out]; exact hbd)
              rw [← HR.out] at hbad
              have HBAD : Hid _ := hbad
              clear hbad
              by_cases h9 : k = 9
              · subst h9
                by_cases hx1 : 1 < x
                · have hx1I : (1 : Int) < x := by omega
                  clear hbd
                  go_wp2
                  go_ret3
                  exact ⟨by rw [HBAD.out]; rfl, rfl⟩
                · obtain rfl : x = 0 := by omega
                  clear hbd
                  go_wp2
                  go_ret3
                  exact ⟨by rw [HBAD.out]; rfl, rfl⟩
              · obtain rfl : x = 0 := by omega
                have h9I : ¬ (k : Int) = 9 := by omega
                have h0I : (0 : Int) < k := by omega
                clear hbd
                go_wp2
                go_ret3
                exact ⟨by rw [HBAD.out]; rfl, rfl⟩
            · have hok := HO.out k l (by omega) HJ.out (by rw [← HNN.out]; exact hlt) (by rw [← HX.out]; omega) (by rw [← HX.out]; omega) (by rw [← HX.out]; omega)
              rw [← HR.out] at hok
              have HOK : Hid _ := hok
              have HV : Hid (val l p (k + 1) < 18446744073709551616) := by
                have := HLT.out
                rw [hok] at this
                exact this
              have HCK : Hid (∀ m, m < k + 1 → p + m < l.length) := fun m hm => by rw [← HNN.out]; omega
              obtain ⟨V, HVV⟩ := named (val l p (k + 1))
              rw [← HVV.out] at HV HOK
              clear hok
              by_cases h9 : k = 9
              · subst h9
                have hx1I : ¬ (1 : Int) < x := by omega
                have hx0I : ¬ (x : Int) = 0 := by omega
                clear hbd
                go_wp2
                go_loop [8, 9] (fun nv iv => ∃ m a : Nat, m ≤ 9 + 1 ∧ iv = .int .i64 ((m : Int) - 1) ∧ nv = .int .u64 a ∧ Hid (val l p m + a * 2 ^ (7 * m) = V)) (fun _ iv => (intOf iv + 1).toNat)
                case atStart => exact ⟨9 + 1, 0, by omega, by simp, rfl, by rw [HVV.out]; show val l p (9 + 1) + 0 * 2 ^ (7 * (9 + 1)) = val l p (9 + 1); omega⟩
                case round =>
                  obtain ⟨m, a, hm, rfl, rfl, HS⟩ := hrel
                  cases m with
                  | zero =>
                    have haV : a = V := by
                      have := HS.out
                      rw [val] at this
                      omega
                    subst haV
                    go_wp2
                    go_ret3
                    exact ⟨by rw [HOK.out]; exact ret3 rfl (by go_num) rfl, rfl⟩
                  | succ m =>
                    have hmm : ((m + 1 : Nat) : Int) - 1 = (m : Int) := by omega
                    have hc2 := HC.out (p + m) (HCK.out m (by omega))
                    have hy8 := byt_lt l (p + m)
                    have hst : val l p m + (128 * a + byt l (p + m) % 128) * 2 ^ (7 * m) = V := by
                      rw [← HS.out, val, show 7 * (m + 1) = 7 * m + 7 by omega, Nat.pow_add, Nat.add_mul, Nat.add_assoc]
                      congr 1
                      rw [Nat.add_comm, Nat.mul_comm 128 a, Nat.mul_assoc, Nat.mul_comm 128]
                    obtain ⟨y, HY⟩ := named (byt l (p + m))
                    rw [← HY.out] at hc2 hy8 hst
                    have hle : 128 * a + y % 128 ≤ V := by
                      have h1 : (128 * a + y % 128) * 1 ≤ (128 * a + y % 128) * 2 ^ (7 * m) := Nat.mul_le_mul_left _ (Nat.two_pow_pos _)
                      omega
                    have hVV := HV.out
                    have hpm : (p : Int) + (m : Int) < n := by omega
                    have hpmN : p + m < n := by omega
                    have HS2 : Hid _ := hst
                    rw [hmm]
                    clear hst hmm
                    go_wp2
                    go_round
                    case rel => exact ⟨m, 128 * a + y % 128, by omega, by go_num, by go_num, HS2.out⟩
                    case measure => first | (simp [intOf]; done) | (simp [intOf]; omega)
              · have h9I : ¬ (k : Int) = 9 := by omega
                by_cases h0 : k = 0
                · subst h0
                  clear hbd
                  simp only [Nat.add_zero, Int.add_zero, Int.natCast_zero] at hc hltI hne hlt
                  go_wp2
                  go_loop [8, 9] (fun nv iv => ∃ m a : Nat, m ≤ 0 + 1 ∧ iv = .int .i64 ((m : Int) - 1) ∧ nv = .int .u64 a ∧ Hid (val l p m + a * 2 ^ (7 * m) = V)) (fun _ iv => (intOf iv + 1).toNat)
                  case atStart => exact ⟨0 + 1, 0, by omega, by simp, rfl, by rw [HVV.out]; show val l p (0 + 1) + 0 * 2 ^ (7 * (0 + 1)) = val l p (0 + 1); omega⟩
                  case round =>
                    obtain ⟨m, a, hm, rfl, rfl, HS⟩ := hrel
                    cases m with
                    | zero =>
                      have haV : a = V := by
                        have := HS.out
                        rw [val] at this
                        omega
                      subst haV
                      go_wp2
                      go_ret3
                      exact ⟨by rw [HOK.out]; exact ret3 rfl (by go_num) rfl, rfl⟩
                    | succ m =>
                      have hmm : ((m + 1 : Nat) : Int) - 1 = (m : Int) := by omega
                      have hc2 := HC.out (p + m) (HCK.out m (by omega))
                      have hy8 := byt_lt l (p + m)
                      have hst : val l p m + (128 * a + byt l (p + m) % 128) * 2 ^ (7 * m) = V := by
                        rw [← HS.out, val, show 7 * (m + 1) = 7 * m + 7 by omega, Nat.pow_add, Nat.add_mul, Nat.add_assoc]
                        congr 1
                        rw [Nat.add_comm, Nat.mul_comm 128 a, Nat.mul_assoc, Nat.mul_comm 128]
                      obtain ⟨y, HY⟩ := named (byt l (p + m))
                      rw [← HY.out] at hc2 hy8 hst
                      have hle : 128 * a + y % 128 ≤ V := by
                        have h1 : (128 * a + y % 128) * 1 ≤ (128 * a + y % 128) * 2 ^ (7 * m) := Nat.mul_le_mul_left _ (Nat.two_pow_pos _)
                        omega
                      have hVV := HV.out
                      have hpm : (p : Int) + (m : Int) < n := by omega
                      have hpmN : p + m < n := by omega
                      have HS2 : Hid _ := hst
                      rw [hmm]
                      clear hst hmm
                      go_wp2
                      go_round
                      case rel => exact ⟨m, 128 * a + y % 128, by omega, by go_num, by go_num, HS2.out⟩
                      case measure => first | (simp [intOf]; done) | (simp [intOf]; omega)
                · have h0I : (0 : Int) < k := by omega
                  have hx0I : ¬ (x : Int) = 0 := by omega
                  have hb1 : ((k : Int) == 10) = false := by rw [beq_eq_false_iff_ne]; omega
                  have hb2 : ((x : Int) == 0) = false := by rw [beq_eq_false_iff_ne]; omega
                  clear hbd
                  go_wp2
                  go_loop [8, 9] (fun nv iv => ∃ m a : Nat, m ≤ k + 1 ∧ iv = .int .i64 ((m : Int) - 1) ∧ nv = .int .u64 a ∧ Hid (val l p m + a * 2 ^ (7 * m) = V)) (fun _ iv => (intOf iv + 1).toNat)
                  case atStart => exact ⟨k + 1, 0, by omega, by simp, rfl, by rw [HVV.out]; show val l p (k + 1) + 0 * 2 ^ (7 * (k + 1)) = val l p (k + 1); omega⟩
                  case round =>
                    obtain ⟨m, a, hm, rfl, rfl, HS⟩ := hrel
                    cases m with
                    | zero =>
                      have haV : a = V := by
                        have := HS.out
                        rw [val] at this
                        omega
                      subst haV
                      go_wp2
                      go_ret3
                      exact ⟨by rw [HOK.out]; exact ret3 rfl (by go_num) rfl, rfl⟩
                    | succ m =>
                      have hmm : ((m + 1 : Nat) : Int) - 1 = (m : Int) := by omega
                      have hc2 := HC.out (p + m) (HCK.out m (by omega))
                      have hy8 := byt_lt l (p + m)
                      have hst : val l p m + (128 * a + byt l (p + m) % 128) * 2 ^ (7 * m) = V := by
                        rw [← HS.out, val, show 7 * (m + 1) = 7 * m + 7 by omega, Nat.pow_add, Nat.add_mul, Nat.add_assoc]
                        congr 1
                        rw [Nat.add_comm, Nat.mul_comm 128 a, Nat.mul_assoc, Nat.mul_comm 128]
                      obtain ⟨y, HY⟩ := named (byt l (p + m))
                      rw [← HY.out] at hc2 hy8 hst
                      have hle : 128 * a + y % 128 ≤ V := by
                        have h1 : (128 * a + y % 128) * 1 ≤ (128 * a + y % 128) * 2 ^ (7 * m) := Nat.mul_le_mul_left _ (Nat.two_pow_pos _)
                        omega
                      have hVV := HV.out
                      have hpm : (p : Int) + (m : Int) < n := by omega
                      have hpmN : p + m < n := by omega
                      have HS2 : Hid _ := hst
                      rw [hmm]
                      clear hst hmm
                      go_wp2
                      go_round
                      case rel => exact ⟨m, 128 * a + y % 128, by omega, by go_num, by go_num, HS2.out⟩
                      case measure => first | (simp [intOf]; done) | (simp [intOf]; omega)
        · obtain rfl : k = 10 := by omega
          have hbad := HB.out 9 l (by omega) (fun j hj => HJ.out j (by omega)) (HJ.out 9 (by omega)).1 (.inl ⟨rfl, by have := (HJ.out 9 (by omega)).2; omega⟩)
          rw [← HR.out] at hbad
          have HBAD : Hid _ := hbad
          clear hbad
          go_wp2
          go_ret3
          exact ⟨by rw [HBAD.out]; rfl, rfl⟩
      · obtain rfl : n = p + k := by omega
        have hltI : ¬ (p : Int) + k < ((p + k : Nat) : Int) := by omega
        by_cases hk10 : k < 10
        · have hk10I : (k : Int) < 10 := by omega
          have hno := HN.out k l (by omega) HJ.out (by rw [← HNN.out]; exact Nat.le_refl _)
          rw [← HR.out] at hno
          have HNO : Hid _ := hno
          clear hno
          go_wp2
          go_ret3
          exact ⟨by rw [HNO.out]; rfl, rfl⟩
        · obtain rfl : k = 10 := by omega
          have hbad := HB.out 9 l (by omega) (fun j hj => HJ.out j (by omega)) (HJ.out 9 (by omega)).1 (.inl ⟨rfl, by have := (HJ.out 9 (by omega)).2; omega⟩)
          rw [← HR.out] at hbad
          have HBAD : Hid _ := hbad
          clear hbad
          go_wp2
          go_ret3
          exact ⟨by rw [HBAD.out]; rfl, rfl⟩

set_option maxRecDepth 100000 in
set_option maxHeartbeats 800000 in
theorem refGetUint_any (v : Value) (l : List UInt8) (p : Int) (w : World) (hrd : Rd w v l) (hl : l.length ≤ 140737488355328) :
    Calls Tryd.prog 57 #[v, .int .i64 p] w fun e w' => e = .returned (.tuple #[.int .u64 (getU l p).1, .int .i64 (getU l p).2.1, .int .i64 (getU l p).2.2]) ∧ w = w' := by
  by_cases hb : p < 0 ∨ (l.length : Int) < p
  · have e : getU l p = (0, 0, 2) := by unfold getU; rw [if_pos hb]
    rw [e]
    obtain ⟨ao, cap, rfl, -⟩ := hrd
    by_cases h0 : p < 0
    · go_enter Tryd.func57, Tryd.ntmps57
      go_wp2
      go_ret3
      exact ⟨rfl, rfl⟩
    · have h1 : (l.length : Int) < p := by omega
      clear hb
      go_enter Tryd.func57, Tryd.ntmps57
      go_wp2
      go_ret3
      exact ⟨rfl, rfl⟩
  · have e : getU l p = rdU p.toNat 0 0 (l.drop p.toNat) := by unfold getU; rw [if_neg hb]
    rw [e]
    obtain ⟨q, rfl⟩ := Int.eq_ofNat_of_zero_le (a := p) (by omega)
    rw [show ((q : Nat) : Int).toNat = q from by omega]
    exact refGetUint_in v l q w hrd (by omega) hl
theorem rdU_err (p i acc : Nat) (l : List UInt8) : (rdU p i acc l).2.2 ≠ 0 → (rdU p i acc l).1 = 0 ∧ (rdU p i acc l).2.1 = 0 := by
  induction l generalizing i acc with
  | nil => simp [rdU]
  | cons x t ih =>
    rw [rdU]
    split
    · simp
    · split
      · simp
      · split
        · simp
        · exact ih (i + 1) _
theorem getU_err (l : List UInt8) (p : Int) (h : (getU l p).2.2 ≠ 0) : (getU l p).1 = 0 ∧ (getU l p).2.1 = 0 := by
  unfold getU at h ⊢
  split at h
  · rename_i hb
    rw [if_pos hb]
    simp
  · rename_i hb
    rw [if_neg hb]
    exact rdU_err _ _ _ _ h
end Go.Proofs.YtpiiehenmkinaaaDoor
