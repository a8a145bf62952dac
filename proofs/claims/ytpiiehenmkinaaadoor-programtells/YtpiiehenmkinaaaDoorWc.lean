/-
  The contracts of bytes.GetUint, GetInt. Own work.
-/
import Derived.Test.YtpiiehenmkinaaaDoorWb
namespace Go.Proofs.YtpiiehenmkinaaaDoor
open Go.RowKit

set_option maxRecDepth 100000 in
set_option maxHeartbeats 800000 in
theorem getUint_in (v : Value) (l : List UInt8) (p : Nat) (w : World) (hrd : Rd w v l) (hp : p ≤ l.length) (hl : l.length ≤ 140737488355328) :
    Calls Tryd.prog 71 #[v, .int .i64 p] w fun e w' => e = .returned (.tuple #[.int .u64 (rdU p 0 0 (l.drop p)).1, .int .i64 (rdU p 0 0 (l.drop p)).2.1, .int .i64 (rdU p 0 0 (l.drop p)).2.2]) ∧ w = w' := by
  rcases hrd.cases with ⟨rfl, ao, cap, rfl, h1, h2⟩ | ⟨b, off, cap, rfl, h1, h2, h3, h4, h5⟩
  · have hp0 : p = 0 := by simp at hp; exact hp
    subst hp0
    clear h1 h2 hrd
    go_enter Tryd.func71, Tryd.ntmps71
    go_wp2
    refine wp_loop_rounds 1 ?_
    rw [rounds_succ]
    go_wp2
    go_ret3
    exact ⟨rfl, rfl⟩
  · have HC : Hid _ := h5
    obtain ⟨n, HN⟩ := named l.length
    rw [← HN.out] at hp hl h1 h2 ⊢
    obtain ⟨R, HR⟩ := named (rdU p 0 0 (l.drop p))
    rw [← HR.out]
    clear h5 hrd
    unfold maxLen at h3
    have hp' : ¬ ((n : Int) < p) := by omega
    obtain ⟨lim, hl10, hpl, hor⟩ : ∃ lim : Nat, lim ≤ 10 ∧ p + lim ≤ n ∧ (10 ≤ lim ∨ n ≤ p + lim ∧ n < p + 10) := by
      by_cases hm : 10 ≤ n - p
      · exact ⟨10, by omega, by omega, by omega⟩
      · exact ⟨n - p, by omega, by omega, by omega⟩
    have HOR : Hid (10 ≤ lim ∨ n ≤ p + lim) := by
      rcases hor with h | h
      · exact .inl h
      · exact .inr h.1
    rcases hor with hor | hor
    rotate_left
    obtain ⟨hor, hor2⟩ := hor
    rotate_left
    all_goals
      first | have hm' : (10 : Int) ≤ (n : Int) - p := by omega
            | have hm' : ¬ ((10 : Int) ≤ (n : Int) - p) := by omega
      go_enter Tryd.func71, Tryd.ntmps71
      go_wp2
      go_loop [7, 23] (fun nv iv => ∃ k acc : Nat, k ≤ lim ∧ iv = .int .i64 k ∧ nv = .int .u64 acc ∧ acc < 2 ^ (7 * k) ∧ rdU p k acc (l.drop (p + k)) = R) (fun _ iv => 10 - (intOf iv).toNat)
      case atStart => exact ⟨0, 0, by omega, rfl, rfl, by decide, HR.out.symm⟩
      case round =>
        obtain ⟨k, acc, hk, rfl, rfl, hacc, hrest⟩ := hrel
        have HA : Hid _ := hacc
        have HS : Hid _ := hrest
        clear hacc hrest
        by_cases hlt : k < lim
        · have hkl : p + k < l.length := by rw [← HN.out]; omega
          have hc := HC.out (p + k) hkl
          have hst := HS.out
          rw [drop_at l (p + k) hkl, rdU_cons _ _ _ _ _ (by omega)] at hst
          obtain ⟨x, HX⟩ := named (l[p + k]'hkl)
          rw [← HX.out] at hc hst
          have HT : Hid _ := hst
          have hx8 : x.toNat < 256 := x.toNat_lt
          clear hst
          go_wp2_with fail
          refine (mayStand_any _ _ _).mono ?_
          rintro e w1 ⟨rfl, hw1⟩
          subst hw1
          cases hmay : mayB x.toNat k with
          | false => 
            have hf := HT.out
            rw [if_pos hmay] at hf
            have HF : Hid _ := hf
            clear hf
            go_wp2
            go_ret3
            exact ⟨by rw [← HF.out]; rfl, rfl⟩
          | true =>
            have hf := HT.out
            rw [if_neg (by rw [hmay]; simp)] at hf
            have HF : Hid _ := hf
            have HV : Hid _ := acc_step acc k x (by omega) HA.out (mayB_nine _ _ hmay)
            have HL : Hid _ := acc_lt acc k x.toNat HA.out
            clear hf
            by_cases hx : x.toNat < 128
            · have hf := HF.out
              rw [if_pos hx] at hf
              have HF2 : Hid _ := hf
              clear hf
              have hx' : (x.toNat : Int) < 128 := by omega
              go_wp2
              go_ret3
              exact ⟨by rw [← HF2.out]; exact ret3 HV.out (by simp) rfl, rfl⟩
            · have hf := HF.out
              rw [if_neg hx] at hf
              have HF2 : Hid _ := hf
              clear hf
              have hx' : ¬ (x.toNat : Int) < 128 := by omega
              go_wp2
              go_round
              case rel => exact ⟨k + 1, _, by omega, by go_num, congrArg (Value.int .u64) HV.out, HL.out, HF2.out⟩
              case measure => simp [intOf]; omega
        · have hend : rdU p k acc (l.drop (p + k)) = (0, 0, 11) := rdU_end _ _ _ _ (by
            rcases HOR.out with h | h
            · left; omega
            · right; apply List.drop_eq_nil_of_le; rw [← HN.out]; omega)
          rw [HS.out] at hend
          have HE : Hid _ := hend
          clear hend
          go_wp2
          go_ret3
          exact ⟨by rw [HE.out]; rfl, rfl⟩

theorem rdU_lt (p i acc : Nat) (l : List UInt8) (hi : i ≤ 10) (h : acc < 2 ^ (7 * i)) : (rdU p i acc l).1 < 18446744073709551616 := by
  induction l generalizing i acc with
  | nil => simp [rdU]
  | cons x t ih =>
    by_cases h10 : i = 10
    · rw [rdU, if_pos h10]; simp
    · rw [rdU_cons _ _ _ _ _ (by omega)]
      cases hm : mayB x.toNat i with
      | false => simp
      | true =>
        rw [if_neg (by simp)]
        split
        · have e := acc_step acc i x (by omega) h (mayB_nine _ _ hm)
          have : ((acc + x.toNat % 128 * 2 ^ (7 * i) : Nat) : Int) < 18446744073709551616 := by
            rw [← e]
            show IntKind.u64.wrap _ < _
            rw [wrap_u64]
            omega
          simp only
          omega
        · exact ih _ _ (by omega) (acc_lt _ _ _ h)
theorem getU_lt (l : List UInt8) (p : Int) : (getU l p).1 < 18446744073709551616 := by
  unfold getU
  split
  · simp
  · exact rdU_lt _ _ _ _ (by omega) (by simp)

set_option maxRecDepth 100000 in
set_option maxHeartbeats 800000 in
theorem getUint_any (v : Value) (l : List UInt8) (p : Int) (w : World) (hrd : Rd w v l) (hl : l.length ≤ 140737488355328) :
    Calls Tryd.prog 71 #[v, .int .i64 p] w fun e w' => e = .returned (.tuple #[.int .u64 (getU l p).1, .int .i64 (getU l p).2.1, .int .i64 (getU l p).2.2]) ∧ w = w' := by
  by_cases hb : p < 0 ∨ (l.length : Int) < p
  · have e : getU l p = (0, 0, 2) := by unfold getU; rw [if_pos hb]
    rw [e]
    obtain ⟨ao, cap, rfl, -⟩ := hrd
    by_cases h0 : p < 0
    · go_enter Tryd.func71, Tryd.ntmps71
      go_wp2
      go_ret3
      exact ⟨rfl, rfl⟩
    · have h1 : (l.length : Int) < p := by omega
      clear hb
      go_enter Tryd.func71, Tryd.ntmps71
      go_wp2
      go_ret3
      exact ⟨rfl, rfl⟩
  · have e : getU l p = rdU p.toNat 0 0 (l.drop p.toNat) := by unfold getU; rw [if_neg hb]
    rw [e]
    obtain ⟨q, rfl⟩ := Int.eq_ofNat_of_zero_le (a := p) (by omega)
    rw [show ((q : Nat) : Int).toNat = q from by omega]
    exact getUint_in v l q w hrd (by omega) hl

set_option maxRecDepth 100000 in
set_option maxHeartbeats 800000 in
theorem getInt_any (v : Value) (l : List UInt8) (p : Int) (w : World) (hrd : Rd w v l) (hl : l.length ≤ 140737488355328) :
    Calls Tryd.prog 81 #[v, .int .i64 p] w fun e w' => e = .returned (.tuple #[.int .i64 (unfoldI (getU l p).1), .int .i64 (getU l p).2.1, .int .i64 (getU l p).2.2]) ∧ w = w' := by
  have hg := getU_lt l p
  obtain ⟨R, HR⟩ := named (getU l p)
  rw [← HR.out] at hg ⊢
  have HG : Hid _ := hg
  clear hg
  obtain ⟨ao, cap, hv, -⟩ := id hrd
  subst hv
  go_enter Tryd.func81, Tryd.ntmps81
  go_wp2_with fail
  refine (getUint_any _ l p _ hrd hl).mono ?_
  rintro e w1 ⟨rfl, hw1⟩
  subst hw1
  rw [← HR.out]
  go_wp2_with fail
  refine (unfold_any _ _ (by omega) (by have := HG.out; omega)).mono ?_
  rintro e w1 ⟨rfl, hw1⟩
  subst hw1
  go_wp2
  go_ret3
  exact ⟨rfl, rfl⟩
end Go.Proofs.YtpiiehenmkinaaaDoor
