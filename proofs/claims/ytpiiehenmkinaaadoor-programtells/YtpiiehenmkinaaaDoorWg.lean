/-
  The contract of bytes.GetBlob. Own work.
-/
import Derived.Test.YtpiiehenmkinaaaDoorWe
namespace Go.Proofs.YtpiiehenmkinaaaDoor
open Go.RowKit

set_option maxRecDepth 100000 in
set_option maxHeartbeats 800000 in
theorem getBlob_any (v : Value) (l : List UInt8) (p q : Int) (w : World) (hrd : Rd w v l) (hl : l.length ≤ 140737488355000) (hq : q ≤ 9223372036854775807) :
    Calls Tryd.prog 70 #[v, .int .i64 p, .int .i64 q] w fun e w' => ∃ v, e = .returned (.tuple #[v, .int .i64 (getB l p q).2.1, .int .i64 (getB l p q).2.2]) ∧ Own w' w.heap.size v (getB l p q).1 ∧ Below w.heap.size w w' := by
  have hpl := getU_place l p
  have hG : getB l p q = if (getU l p).2.2 ≠ 0 then ([], 0, (getU l p).2.2)
    else if q < 0 ∨ q < (getU l p).1 then ([], 0, 3)
    else if l.length - (getU l p).2.1 < (getU l p).1 then ([], 0, 11)
    else ((l.drop (getU l p).2.1).take (getU l p).1, (getU l p).2.1 + (getU l p).1, 0) := rfl
  have hlt := getU_lt l p
  have HGU : Hid (getU l p = getU l p) := rfl
  have hcall := fun w => fun h => getUint_any v l p w h (by omega)
  obtain ⟨R, HR⟩ := named (getU l p)
  obtain ⟨n, from_, er⟩ := R
  rw [← HR.out] at hpl hG hlt
  simp only at hpl hG hlt
  rw [hG]
  clear hG HGU
  obtain ⟨ao, cap, hv, h1, h2, -⟩ := id hrd
  subst hv
  have hc2 : Calls Tryd.prog 71 #[.slice ao l.length cap, .int .i64 p] w fun e w' => e = .returned (.tuple #[.int .u64 n, .int .i64 from_, .int .i64 er]) ∧ w = w' := by
    have := hcall w hrd
    rw [← HR.out] at this
    exact this
  clear hcall
  by_cases he : er = 0
  · rw [if_neg (by simpa using he)]
    subst he
    obtain ⟨hp0, hp1, hp2⟩ := hpl rfl
    by_cases hm : q < 0 ∨ q < n
    · rw [if_pos hm]
      by_cases hq0 : q < 0
      · clear hm hpl hlt
        go_enter Tryd.func70, Tryd.ntmps70
        go_wp2_with fail
        refine hc2.mono ?_
        rintro e w1 ⟨rfl, hw1⟩
        subst hw1
        clear hc2
        go_wp2
        go_ret3
        exact ⟨_, rfl, Own.nil _ _, Below.refl _ _⟩
      · have hqn : q < n := by omega
        have HQ : Hid (q ≤ 9223372036854775807) := hq
        clear hm hpl hlt
        go_enter Tryd.func70, Tryd.ntmps70
        go_wp2_with fail
        refine hc2.mono ?_
        rintro e w1 ⟨rfl, hw1⟩
        subst hw1
        clear hc2
        go_wp2
        go_ret3
        exact ⟨_, rfl, Own.nil _ _, Below.refl _ _⟩
    · rw [if_neg hm]
      have hq0 : 0 ≤ q := by omega
      have hqn : (n : Int) ≤ q := by omega
      clear hm hpl hlt
      by_cases hs : l.length - from_ < n
      · rw [if_pos hs]
        go_enter Tryd.func70, Tryd.ntmps70
        go_wp2_with fail
        refine hc2.mono ?_
        rintro e w1 ⟨rfl, hw1⟩
        subst hw1
        clear hc2
        go_wp2
        go_ret3
        exact ⟨_, rfl, Own.nil _ _, Below.refl _ _⟩
      · rw [if_neg hs]
        have hn1 : from_ + n ≤ l.length := by omega
        have hln : ((l.drop from_).take n).length ≤ 140737488355000 := by rw [List.length_take, List.length_drop]; omega
        have HLN : Hid _ := hln
        clear hln
        unfold maxLen at h2
        by_cases hcf : cap = from_
        · obtain rfl : n = 0 := by omega
          subst hcf
          have hrdC : Rd w (.slice ao 0 0) ((l.drop cap).take 0) := by
            simp only [List.take_zero]
            exact ⟨ao, 0, rfl, Nat.le_refl _, by simp [maxLen], fun _ => rfl, fun a _ i hi => by simp at hi⟩
          obtain ⟨lC, HC⟩ := named ((l.drop cap).take 0)
          rw [← HC.out] at hrdC HLN ⊢
          go_enter Tryd.func70, Tryd.ntmps70
          go_wp2_with fail
          refine hc2.mono ?_
          rintro e w1 ⟨rfl, hw1⟩
          subst hw1
          clear hc2
          go_wp2_with fail
          refine (own_any _ lC _ hrdC HLN.out).mono ?_
          rintro e w3 ⟨v3, rfl, hown3, hb3⟩
          go_wp2
          go_ret3
          exact ⟨_, rfl, hown3, hb3⟩
        · have hrdC : Rd w (.slice (Option.map (fun x => x.add from_) ao) n (cap - from_)) ((l.drop from_).take n) := by
            have := hrd.cut from_ (from_ + n) (by omega) hn1
            rw [List.drop_take, show from_ + n - from_ = n by omega] at this
            exact this
          obtain ⟨lC, HC⟩ := named ((l.drop from_).take n)
          rw [← HC.out] at hrdC HLN ⊢
          go_enter Tryd.func70, Tryd.ntmps70
          go_wp2_with fail
          refine hc2.mono ?_
          rintro e w1 ⟨rfl, hw1⟩
          subst hw1
          clear hc2
          go_wp2_with fail
          refine (own_any _ lC _ hrdC HLN.out).mono ?_
          rintro e w3 ⟨v3, rfl, hown3, hb3⟩
          go_wp2
          go_ret3
          exact ⟨_, by simp, hown3, hb3⟩
  · rw [if_pos (by simpa using he)]
    have her : ((er : Int) != 0) = true := by simp only [bne_iff_ne]; omega
    have HE : Hid _ := he
    clear he hpl hlt
    go_enter Tryd.func70, Tryd.ntmps70
    go_wp2_with fail
    refine hc2.mono ?_
    rintro e w1 ⟨rfl, hw1⟩
    subst hw1
    clear hc2
    go_wp2
    go_ret3
    exact ⟨_, rfl, Own.nil _ _, Below.refl _ _⟩
end Go.Proofs.YtpiiehenmkinaaaDoor
