/-
  The contracts of the document's GetInt and GetBlob. Own work.
-/
import Derived.Test.YtpiiehenmkinaaaDoorRg
import Derived.Test.YtpiiehenmkinaaaDoorWf
namespace Go.Proofs.YtpiiehenmkinaaaDoor
open Go.RowKit

set_option maxRecDepth 100000 in
set_option maxHeartbeats 800000 in
theorem refGetInt_any (v : Value) (l : List UInt8) (p : Int) (w : World) (hrd : Rd w v l) (hl : l.length ≤ 140737488355328) :
    Calls Tryd.prog 34 #[v, .int .i64 p] w fun e w' => e = .returned (.tuple #[.int .i64 (unfoldI (getU l p).1), .int .i64 (getU l p).2.1, .int .i64 (getU l p).2.2]) ∧ w = w' := by
  have hg := getU_lt l p
  have he := getU_err l p
  obtain ⟨R, HR⟩ := named (getU l p)
  rw [← HR.out] at hg he ⊢
  obtain ⟨ao, cap, hv, -⟩ := id hrd
  subst hv
  have hcall : Calls Tryd.prog 57 #[.slice ao l.length cap, .int .i64 p] w fun e w' => e = .returned (.tuple #[.int .u64 R.1, .int .i64 R.2.1, .int .i64 R.2.2]) ∧ w = w' := by
    rw [HR.out]
    exact refGetUint_any _ l p _ hrd hl
  obtain ⟨n, nx, er⟩ := R
  simp only at hg he hcall ⊢
  clear HR
  by_cases h0 : er = 0
  · subst h0
    clear he
    by_cases h2 : n % 2 = 0
    · have h2I : (n : Int) % 2 = 0 := by omega
      have e : unfoldI n = (n : Int) / 2 := by unfold unfoldI; rw [if_pos h2I]
      rw [e]
      clear e
      go_enter Tryd.func34, Tryd.ntmps34
      go_wp2_with fail
      refine hcall.mono ?_
      rintro e w1 ⟨rfl, hw1⟩
      subst hw1
      clear hcall
      go_wp2
      go_ret3
      exact ⟨rfl, rfl⟩
    · have h2I : ¬ (n : Int) % 2 = 0 := by omega
      have e : unfoldI n = -1 - (n : Int) / 2 := by unfold unfoldI; rw [if_neg h2I]; omega
      rw [e]
      clear e
      go_enter Tryd.func34, Tryd.ntmps34
      go_wp2_with fail
      refine hcall.mono ?_
      rintro e w1 ⟨rfl, hw1⟩
      subst hw1
      clear hcall
      go_wp2
      go_ret3
      exact ⟨rfl, rfl⟩
  · obtain ⟨rfl, rfl⟩ := he h0
    have her : ((er : Int) != 0) = true := by simp only [bne_iff_ne]; omega
    have HE : Hid _ := h0
    clear h0 he
    go_enter Tryd.func34, Tryd.ntmps34
    go_wp2_with fail
    refine hcall.mono ?_
    rintro e w1 ⟨rfl, hw1⟩
    subst hw1
    clear hcall
    go_wp2
    go_ret3
    exact ⟨rfl, rfl⟩

set_option maxRecDepth 100000 in
set_option maxHeartbeats 2000000 in
theorem refGetBlob_any (v : Value) (l : List UInt8) (p q : Int) (w : World) (hrd : Rd w v l) (hl : l.length ≤ 140737488355000) (hq : q ≤ 9223372036854775807) :
    Calls Tryd.prog 56 #[v, .int .i64 p, .int .i64 q] w fun e w' => ∃ v, e = .returned (.tuple #[v, .int .i64 (getB l p q).2.1, .int .i64 (getB l p q).2.2]) ∧ Own w' w.heap.size v (getB l p q).1 ∧ Below w.heap.size w w' := by
  have hpl := getU_place l p
  have hG : getB l p q = if (getU l p).2.2 ≠ 0 then ([], 0, (getU l p).2.2)
    else if q < 0 ∨ q < (getU l p).1 then ([], 0, 3)
    else if l.length - (getU l p).2.1 < (getU l p).1 then ([], 0, 11)
    else ((l.drop (getU l p).2.1).take (getU l p).1, (getU l p).2.1 + (getU l p).1, 0) := rfl
  have hlt := getU_lt l p
  have HGU : Hid (getU l p = getU l p) := rfl
  have hcall := fun w => fun h => refGetUint_any v l p w h (by omega)
  obtain ⟨R, HR⟩ := named (getU l p)
  obtain ⟨n, from_, er⟩ := R
  rw [← HR.out] at hpl hG hlt
  simp only at hpl hG hlt
  rw [hG]
  clear hG HGU
  obtain ⟨ao, cap, hv, h1, h2, -⟩ := id hrd
  subst hv
  have hc2 : Calls Tryd.prog 57 #[.slice ao l.length cap, .int .i64 p] w fun e w' => e = .returned (.tuple #[.int .u64 n, .int .i64 from_, .int .i64 er]) ∧ w = w' := by
    have := hcall w hrd
    rw [← HR.out] at this
    exact this
  clear hcall
  by_cases he : er = 0
  · rw [if_neg (by simpa using he)]
    subst he
    obtain ⟨hp0, hp1, hp2⟩ := hpl rfl
    by_cases hm : q < 0 ∨ q < n
    · rw [if_pos hm]
      by_cases hq0 : q < 0
      · clear hm hpl hlt
        go_enter Tryd.func56, Tryd.ntmps56
        go_wp2_with fail
        refine hc2.mono ?_
        rintro e w1 ⟨rfl, hw1⟩
        subst hw1
        clear hc2
        go_wp2
        go_ret3
        exact ⟨_, rfl, Own.nil _ _, Below.refl _ _⟩
      · have hqn : q < n := by omega
        have HQ : Hid (q ≤ 9223372036854775807) := hq
        clear hm hpl hlt
        go_enter Tryd.func56, Tryd.ntmps56
        go_wp2_with fail
        refine hc2.mono ?_
        rintro e w1 ⟨rfl, hw1⟩
        subst hw1
        clear hc2
        go_wp2
        go_ret3
        exact ⟨_, rfl, Own.nil _ _, Below.refl _ _⟩
    · rw [if_neg hm]
      have hq0 : 0 ≤ q := by omega
      have hqn : (n : Int) ≤ q := by omega
      clear hm hpl hlt
      by_cases hs : l.length - from_ < n
      · rw [if_pos hs]
        obtain ⟨d, hd⟩ : ∃ d, l.length = from_ + d := ⟨l.length - from_, by omega⟩
        have hdn : d < n := by omega
        have hl2 : from_ + d ≤ 140737488355000 := by omega
        have HQ : Hid (q ≤ 9223372036854775807) := hq
        have HRD : Hid _ := hrd
        clear hs hrd
        rw [hd] at hc2 hp2 hl h1 ⊢
        clear hd
        go_enter Tryd.func56, Tryd.ntmps56
        go_wp2_with fail
        refine hc2.mono ?_
        rintro e w1 ⟨rfl, hw1⟩
        subst hw1
        clear hc2
        go_wp2
        go_loop [12] (fun iv => ∃ k : Nat, k ≤ d ∧ iv = .int .u64 k) (fun iv => n - (intOf iv).toNat)
        case atStart => exact ⟨0, by omega, rfl⟩
        case round =>
          obtain ⟨k, hk, rfl⟩ := hrel
          have hkn : (k : Int) < n := by omega
          by_cases hkd : k < d
          · have hkl : (from_ : Int) + k < ((from_ + d : Nat) : Int) := by omega
            go_wp2
            go_round
            case rel => exact ⟨k + 1, by omega, by go_num⟩
            case measure => simp [intOf]; omega
          · obtain rfl : k = d := by omega
            go_wp2
            go_ret3
            exact ⟨_, rfl, Own.nil _ _, Below.refl _ _⟩
      · rw [if_neg hs]
        have hn1 : from_ + n ≤ l.length := by omega
        have hln : ((l.drop from_).take n).length ≤ 140737488355000 := by rw [List.length_take, List.length_drop]; omega
        have HLN : Hid _ := hln
        clear hln
        unfold maxLen at h2
        by_cases hcf : cap = from_
        · obtain rfl : n = 0 := by omega
          subst hcf
          have hrdC : Rd w (.slice ao 0 0) ((l.drop cap).take 0) := by
            simp only [List.take_zero]
            exact ⟨ao, 0, rfl, Nat.le_refl _, by simp [maxLen], fun _ => rfl, fun a _ i hi => by simp at hi⟩
          obtain ⟨lC, HC⟩ := named ((l.drop cap).take 0)
          rw [← HC.out] at hrdC HLN ⊢
          go_enter Tryd.func56, Tryd.ntmps56
          go_wp2_with fail
          refine hc2.mono ?_
          rintro e w1 ⟨rfl, hw1⟩
          subst hw1
          clear hc2
          go_wp2
          refine wp_loop_rounds 1 ?_
          rw [rounds_succ]
          go_wp2_with fail
          refine (both_any _ _ [] lC _ (Rd.nil _) hrdC (by have := HLN.out; simp; omega)).mono ?_
          rintro e w3 ⟨v3, rfl, hown3, hb3⟩
          go_wp2
          go_ret3
          exact ⟨_, rfl, hown3, hb3⟩
        · have hrdC : Rd w (.slice (Option.map (fun x => x.add from_) ao) n (cap - from_)) ((l.drop from_).take n) := by
            have := hrd.cut from_ (from_ + n) (by omega) hn1
            rw [List.drop_take, show from_ + n - from_ = n by omega] at this
            exact this
          obtain ⟨lC, HC⟩ := named ((l.drop from_).take n)
          rw [← HC.out] at hrdC HLN ⊢
          go_enter Tryd.func56, Tryd.ntmps56
          go_wp2_with fail
          refine hc2.mono ?_
          rintro e w1 ⟨rfl, hw1⟩
          subst hw1
          clear hc2
          go_wp2
          go_loop [12] (fun iv => ∃ k : Nat, k ≤ n ∧ iv = .int .u64 k) (fun iv => n - (intOf iv).toNat)
          case atStart => exact ⟨0, by omega, rfl⟩
          case round =>
            obtain ⟨k, hk, rfl⟩ := hrel
            by_cases hkd : k < n
            · have hkl : (from_ : Int) + k < (l.length : Int) := by omega
              have hkn : (k : Int) < n := by omega
              go_wp2
              go_round
              case rel => exact ⟨k + 1, by omega, by go_num⟩
              case measure => simp [intOf]; omega
            · obtain rfl : k = n := by omega
              go_wp2_with fail
              refine (both_any _ _ [] lC _ (Rd.nil _) hrdC (by have := HLN.out; simp; omega)).mono ?_
              rintro e w3 ⟨v3, rfl, hown3, hb3⟩
              go_wp2
              go_ret3
              exact ⟨_, by simp, hown3, hb3⟩
  · rw [if_pos (by simpa using he)]
    have her : ((er : Int) != 0) = true := by simp only [bne_iff_ne]; omega
    have HE : Hid _ := he
    clear he hpl hlt
    go_enter Tryd.func56, Tryd.ntmps56
    go_wp2_with fail
    refine hc2.mono ?_
    rintro e w1 ⟨rfl, hw1⟩
    subst hw1
    clear hc2
    go_wp2
    go_ret3
    exact ⟨_, rfl, Own.nil _ _, Below.refl _ _⟩
end Go.Proofs.YtpiiehenmkinaaaDoor
