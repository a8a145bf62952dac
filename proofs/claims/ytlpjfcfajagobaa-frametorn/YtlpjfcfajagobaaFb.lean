/-
  The contracts of frame.bounds, Get. Own work.
-/
import Derived.Test.YtlpjfcfajagobaaFa
namespace Go.Proofs.Ytlpjfcfajagobaa
open Go.RowKit

theorem addr_add (b off k : Nat) : (⟨b, off, none⟩ : Addr).add k = ⟨b, off + k, none⟩ := by unfold Addr.add; split <;> simp_all

/-- where the body of the frame at a place begins, where its last byte stands; the error -/
def bnd (l : List UInt8) (p : Int) : Nat × Nat × Nat :=
  if (getU l p).2.2 ≠ 0 then (0, 0, (getU l p).2.2)
  else if (getU l p).1 = 0 ∨ 1048576 < (getU l p).1 then (0, 0, 10)
  else if l.length ≤ (getU l p).2.1 + (getU l p).1 + 4 then (0, 0, 11)
  else ((getU l p).2.1, (getU l p).2.1 + (getU l p).1 + 4, 0)
/-- the body of the frame at a place, the place behind it, the error -/
def getF (l : List UInt8) (p : Int) : List UInt8 × Nat × Nat :=
  if (bnd l p).2.2 ≠ 0 then ([], 0, (bnd l p).2.2)
  else if l.getD (bnd l p).2.1 0 ≠ 165 then ([], 0, 10)
  else if (unsealL ((l.take (bnd l p).2.1).drop (bnd l p).1)).2 ≠ 0 then ([], 0, (unsealL ((l.take (bnd l p).2.1).drop (bnd l p).1)).2)
  else ((unsealL ((l.take (bnd l p).2.1).drop (bnd l p).1)).1, (bnd l p).2.1 + 1, 0)

theorem bnd_in (l : List UInt8) (p : Int) (h : (bnd l p).2.2 = 0) : (bnd l p).1 + 5 ≤ (bnd l p).2.1 ∧ (bnd l p).2.1 < l.length ∧ 0 ≤ p ∧ p < (bnd l p).1 := by
  unfold bnd at h ⊢
  by_cases h1 : (getU l p).2.2 ≠ 0
  · rw [if_pos h1] at h; exact absurd h h1
  · rw [if_neg h1] at h ⊢
    have := getU_place l p (by omega)
    by_cases h2 : (getU l p).1 = 0 ∨ 1048576 < (getU l p).1
    · rw [if_pos h2] at h; simp at h
    · rw [if_neg h2] at h ⊢
      by_cases h3 : l.length ≤ (getU l p).2.1 + (getU l p).1 + 4
      · rw [if_pos h3] at h; simp at h
      · rw [if_neg h3] at h ⊢
        simp only
        omega

set_option maxRecDepth 100000 in
set_option maxHeartbeats 800000 in
theorem bounds_any (v : Value) (l : List UInt8) (p : Int) (w : World) (hrd : Rd w v l) (hl : l.length ≤ 140737488355000) :
    Calls Try.prog 25 #[v, .int .i64 p] w fun e w' => e = .returned (.tuple #[.int .i64 (bnd l p).1, .int .i64 (bnd l p).2.1, .int .i64 (bnd l p).2.2]) ∧ w = w' := by
  have hG : bnd l p = if (getU l p).2.2 ≠ 0 then (0, 0, (getU l p).2.2)
    else if (getU l p).1 = 0 ∨ 1048576 < (getU l p).1 then (0, 0, 10)
    else if l.length ≤ (getU l p).2.1 + (getU l p).1 + 4 then (0, 0, 11)
    else ((getU l p).2.1, (getU l p).2.1 + (getU l p).1 + 4, 0) := rfl
  have hpl := getU_place l p
  have hlt := getU_lt l p
  have hcall := getUint_any v l p w hrd (by omega)
  obtain ⟨R, HR⟩ := named (getU l p)
  obtain ⟨n, from_, er⟩ := R
  rw [← HR.out] at hpl hG hlt hcall
  simp only at hpl hG hlt hcall
  rw [hG]
  clear hG
  obtain ⟨ao, cap, hv, h1, h2, -⟩ := id hrd
  subst hv
  by_cases he : er = 0
  · rw [if_neg (by simpa using he)]
    subst he
    obtain ⟨hp0, hp1, hp2⟩ := hpl rfl
    clear hpl
    by_cases hn0 : n = 0
    · rw [if_pos (Or.inl hn0)]
      subst hn0
      go_enter Try.func25, Try.ntmps25
      go_wp2_with fail
      refine hcall.mono ?_
      rintro e w1 ⟨rfl, hw1⟩
      subst hw1
      clear hcall
      go_wp2
      go_ret3
      exact ⟨rfl, rfl⟩
    · have hn0' : ((n : Int) == 0) = false := by simp only [beq_eq_false_iff_ne]; omega
      by_cases hn1 : 1048576 < n
      · rw [if_pos (Or.inr hn1)]
        have hn1' : (1048576 : Int) < n := by omega
        clear hn0
        go_enter Try.func25, Try.ntmps25
        go_wp2_with fail
        refine hcall.mono ?_
        rintro e w1 ⟨rfl, hw1⟩
        subst hw1
        clear hcall
        go_wp2
        go_ret3
        exact ⟨rfl, rfl⟩
      · rw [if_neg (by omega)]
        have hn1' : ¬ (1048576 : Int) < n := by omega
        have hn2 : n ≤ 1048576 := by omega
        clear hlt hn0
        by_cases hs : l.length ≤ from_ + n + 4
        · rw [if_pos hs]
          go_enter Try.func25, Try.ntmps25
          go_wp2_with fail
          refine hcall.mono ?_
          rintro e w1 ⟨rfl, hw1⟩
          subst hw1
          clear hcall
          go_wp2
          go_ret3
          exact ⟨rfl, rfl⟩
        · rw [if_neg hs]
          go_enter Try.func25, Try.ntmps25
          go_wp2_with fail
          refine hcall.mono ?_
          rintro e w1 ⟨rfl, hw1⟩
          subst hw1
          clear hcall
          go_wp2
          go_ret3
          exact ⟨by simp, rfl⟩
  · rw [if_pos (by simpa using he)]
    have her : ((er : Int) != 0) = true := by simp only [bne_iff_ne]; omega
    clear he hpl hlt
    go_enter Try.func25, Try.ntmps25
    go_wp2_with fail
    refine hcall.mono ?_
    rintro e w1 ⟨rfl, hw1⟩
    subst hw1
    clear hcall
    go_wp2
    go_ret3
    exact ⟨rfl, rfl⟩

set_option maxRecDepth 100000 in
set_option maxHeartbeats 800000 in
theorem get_any (v : Value) (l : List UInt8) (p : Int) (w : World) (hrd : Rd w v l) (hl : l.length ≤ 140737488355000) :
    Calls Try.prog 11 #[v, .int .i64 p] w fun e w' => ∃ v, e = .returned (.tuple #[v, .int .i64 (getF l p).2.1, .int .i64 (getF l p).2.2]) ∧ Own w' w.heap.size v (getF l p).1 ∧ Below w.heap.size w w' := by
  have hG : getF l p = if (bnd l p).2.2 ≠ 0 then ([], 0, (bnd l p).2.2)
    else if l.getD (bnd l p).2.1 0 ≠ 165 then ([], 0, 10)
    else if (unsealL ((l.take (bnd l p).2.1).drop (bnd l p).1)).2 ≠ 0 then ([], 0, (unsealL ((l.take (bnd l p).2.1).drop (bnd l p).1)).2)
    else ((unsealL ((l.take (bnd l p).2.1).drop (bnd l p).1)).1, (bnd l p).2.1 + 1, 0) := rfl
  have hpl := bnd_in l p
  have hcall := bounds_any v l p w hrd hl
  obtain ⟨R, HR⟩ := named (bnd l p)
  obtain ⟨from_, last, er⟩ := R
  rw [← HR.out] at hpl hG hcall
  simp only at hpl hG hcall
  rw [hG]
  clear hG
  by_cases he : er = 0
  · rw [if_neg (by simpa using he)]
    subst he
    obtain ⟨hp0, hp1, hp2, hp3⟩ := hpl rfl
    clear hpl
    obtain ⟨b, off, cap, hv, h1, h2, h3, h4, h5⟩ : ∃ b off cap, v = .slice (some ⟨b, off, none⟩) l.length cap ∧ 0 < l.length ∧ l.length ≤ cap ∧ cap ≤ maxLen ∧ b < w.heap.size ∧ ∀ i (h : i < l.length), w.cell? ⟨b, off + i, none⟩ = some (.int .u8 (l[i].toNat : Int)) := by
      rcases hrd.cases with ⟨rfl, -⟩ | h
      · simp at hp1
      · exact h
    subst hv
    have hc := h5 last hp1
    have hd : l.getD last 0 = l[last] := by simp [List.getD, hp1]
    rw [hd]
    have HLL : Hid (last < l.length) := hp1
    obtain ⟨x, HX⟩ := named (l[last]'hp1)
    rw [← HX.out] at hc ⊢
    clear h5 hd
    unfold maxLen at h3
    obtain ⟨n, HN⟩ := named l.length
    rw [← HN.out] at hp1 h1 h2 hl hcall hrd ⊢
    by_cases hx : x = 165
    · rw [if_neg (by simpa using hx)]
      subst hx
      have hlc : (last : Int) ≤ (cap : Int) := by omega
      have hfl : (from_ : Int) ≤ (last : Int) := by omega
      have hcf : ¬ cap = from_ := by omega
      have hrdC : Rd w (.slice (some ⟨b, off + from_, none⟩) (last - from_) (cap - from_)) ((l.take last).drop from_) := by
        have hr := hrd
        rw [HN.out] at hr
        have := hr.cut from_ last (by omega) (by have := HLL.out; omega)
        rw [Option.map_some, addr_add] at this
        exact this
      have hlen : ((l.take last).drop from_).length = last - from_ := by rw [List.length_drop, List.length_take]; have := HLL.out; omega
      have hus := fun w h => unseal_any (.slice (some ⟨b, off + from_, none⟩) (last - from_) (cap - from_)) ((l.take last).drop from_) w h (by omega)
      obtain ⟨body, HBD⟩ := named ((l.take last).drop from_)
      rw [← HBD.out] at hrdC hlen hus ⊢
      have hc2 := hus w hrdC
      obtain ⟨S, HS⟩ := named (unsealL body)
      obtain ⟨bd, ue⟩ := S
      rw [← HS.out] at hc2 ⊢
      simp only at hc2 ⊢
      clear hus
      by_cases hu : ue = 0
      · rw [if_neg (by simpa using hu)]
        subst hu
        go_enter Try.func11, Try.ntmps11
        go_wp2_with fail
        refine hcall.mono ?_
        rintro e w1 ⟨rfl, hw1⟩
        subst hw1
        clear hcall
        go_wp2_with fail
        refine hc2.mono ?_
        rintro e w2 ⟨v2, rfl, hown2, hb2⟩
        go_wp2
        go_ret3
        exact ⟨_, by simp, hown2, hb2⟩
      · rw [if_pos (by simpa using hu)]
        have hu' : ((ue : Int) != 0) = true := by simp only [bne_iff_ne]; omega
        clear hu
        go_enter Try.func11, Try.ntmps11
        go_wp2_with fail
        refine hcall.mono ?_
        rintro e w1 ⟨rfl, hw1⟩
        subst hw1
        clear hcall
        go_wp2_with fail
        refine hc2.mono ?_
        rintro e w2 ⟨v2, rfl, hown2, hb2⟩
        go_wp2
        go_ret3
        exact ⟨_, rfl, Own.nil _ _, hb2⟩
    · rw [if_pos (by simpa using hx)]
      have hx' : ((x.toNat : Int) != 165) = true := by
        simp only [bne_iff_ne]
        intro h
        exact hx (UInt8.toNat_inj.1 (by simp; omega))
      clear hx
      go_enter Try.func11, Try.ntmps11
      go_wp2_with fail
      refine hcall.mono ?_
      rintro e w1 ⟨rfl, hw1⟩
      subst hw1
      clear hcall
      go_wp2
      go_ret3
      exact ⟨_, rfl, Own.nil _ _, Below.refl _ _⟩
  · rw [if_pos (by simpa using he)]
    have her : ((er : Int) != 0) = true := by simp only [bne_iff_ne]; omega
    clear he hpl
    obtain ⟨ao, cap, hv, -⟩ := id hrd
    subst hv
    go_enter Try.func11, Try.ntmps11
    go_wp2_with fail
    refine hcall.mono ?_
    rintro e w1 ⟨rfl, hw1⟩
    subst hw1
    clear hcall
    go_wp2
    go_ret3
    exact ⟨_, rfl, Own.nil _ _, Below.refl _ _⟩
end Go.Proofs.Ytlpjfcfajagobaa
