/-
  The contracts of Cap, Take, Drop, Look, Len, Room, All. Own work.
-/
import Derived.Test.YtdbbdecmfnajiaaMn
namespace Go.Proofs.Ytdbbdecmfnajiaa
open Go.RowKit

/-- how Cap answers, and what stands there then -/
def capR (most : Int) (m : Nat) (A : PR) (s : ByteArray) (c : Int) : Nat × PR × Nat :=
  if ¬ (right s ∧ capOk c) then (2, A, m)
  else if c ≠ most ∧ A s = none ∧ m = 1000 then (5, A, m)
  else (0, setA A s (keepO most c (lA A s)), keepN A s (keepO most c (lA A s)) m)

/-- the cap is another one -/
theorem recap {w : World} {q : Qd} (h : QM w q) (c : Int) (hc : capOk c) : QStep w (w.setCell ⟨q.qb, 0, none⟩ (.int .i64 c)) q { q with most := c } := by
  have hcs := heap_setCell_same w q.qb 0 _ 93 (.int .i64 c) h.1.cs
  refine ⟨⟨⟨by simpa using hcs, h.1.pl.heap fun a e => Below.heap_setCell _ _ _ _ (by rintro rfl; exact h.1.row_ne e), h.1.fi, h.1.le, ?_, h.1.cm⟩, h.2⟩, rfl, (Chg.refl _ _).setCell (.inl (.inl rfl)) _, fun b hb => .inl hb⟩
  unfold capOk at hc
  simp only
  omega

set_option maxRecDepth 100000 in
set_option maxHeartbeats 3200000 in
theorem cap_r {w : World} {r : Value} {most : Int} {m : Nat} {A : PR} {F : Nat → Prop} (h : Rg w r most m A F) (s : ByteArray) (hs : s.size ≤ maxLen) (c : Int) :
    Calls Try.prog 13 #[r, .string s, .int .i64 c] w fun e w' => e = .returned (.int .i64 (capR most m A s c).1) ∧ ∃ G, Rg w' r most (capR most m A s c).2.2 (capR most m A s c).2.1 G ∧ Step F w w' G := by
  obtain ⟨rb, sb, mb, E, rfl, h2, h3, h4, h5⟩ := id h
  have HR := hide h
  have km := made_yes w rb sb h2.r0
  have kn := name_any s w hs
  have kc := cap_any c w
  have r0 := h2.r0
  have s0 := h2.s0
  by_cases hrc : right s ∧ capOk c
  · obtain ⟨hr, hc⟩ := hrc
    rw [decide_eq_true hr] at kn
    rw [decide_eq_true hc] at kc
    have hroom : E s = none → m < 1000 ∨ m = 1000 := fun _ => by have := h2.many; omega
    by_cases hfull : c ≠ most ∧ A s = none ∧ m = 1000
    · have hpr : capR most m A s c = (5, A, m) := by unfold capR; rw [if_neg (fun h => h ⟨hr, hc⟩), if_pos hfull]
      rw [hpr]
      have hE : E s = none := by
        have := hfull.2.1
        rw [h3] at this
        simpa using this
      have kfu := full_any h2 hr
      rw [decide_eq_true ⟨hE, hfull.2.2⟩] at kfu
      have hne : (c == most) = false := beq_eq_false_iff_ne.2 hfull.1
      have hne2 : (c != most) = true := by simpa [bne] using hfull.1
      clear h h2 h3 h4 h5 hfull hE hroom
      go_enter Try.func13, Try.ntmps13
      go_wp2_with fail
      (with_reducible refine Calls.mono km ?_)
      clear km
      rintro e u ⟨rfl, rfl⟩
      go_wp2_with fail
      (with_reducible refine Calls.mono kn ?_)
      clear kn
      rintro e u ⟨rfl, rfl⟩
      go_wp2_with fail
      (with_reducible refine Calls.mono kc ?_)
      clear kc
      rintro e u ⟨rfl, rfl⟩
      go_wp2_with fail
      (with_reducible refine Calls.mono kfu ?_)
      clear kfu
      rintro e u ⟨rfl, rfl⟩
      go_wp2_with fail
      go_ret
      exact ⟨rfl, F, HR.out, Step.below (Below.refl _ _)⟩
    · have hpr : capR most m A s c = (0, setA A s (keepO most c (lA A s)), keepN A s (keepO most c (lA A s)) m) := by unfold capR; rw [if_neg (fun h => h ⟨hr, hc⟩), if_neg hfull]
      rw [hpr]
      have kf := find_any h2 h3 s hs
      have H2 := hide h2
      have HA := hide h3
      have HF4 := hide h4
      have HRS := hide hr
      have HCC := hide hc
      have HLN : Hid (E s = none → lA A s = []) := fun he => by unfold lA; rw [h3, he]; rfl
      have HEE : Hid (E s = none → m < 1000 ∨ c = most) := fun he => by
        by_cases e1 : c = most
        · exact .inr e1
        · by_cases e : m = 1000
          · exact absurd ⟨e1, by rw [h3, he]; rfl, e⟩ hfull
          · have := h2.many; exact .inl (by omega)
      have hfn : ∀ q w1, Fnd w w1 E most A s q → Calls Try.prog 47 #[.pointer (some ⟨sb, 0, none⟩), .string s, .pointer (some ⟨q.qb, 0, none⟩)] (w1.setCell ⟨q.qb, 0, none⟩ (.int .i64 c)) (fun e w' => e = .returned (.tuple #[]) ∧ ∃ G, Rg w' (.pointer (some ⟨rb, 0, none⟩)) most (keepN A s (keepO most c (lA A s)) m) (setA A s (keepO most c (lA A s))) G ∧ Step F w w' G) ∧ w1.cell? ⟨q.qb, 0, none⟩ = some (.int .i64 q.most) ∧ w1.frozen? ⟨q.qb, 0, none⟩ = false ∧ (w1.setCell ⟨q.qb, 0, none⟩ (.int .i64 c)).cell? ⟨rb, 0, none⟩ = some (.pointer (some ⟨sb, 0, none⟩)) := fun q w1 hf => by
        have hst := recap hf.qm c HCC.out
        have hrp := rp_of H2.out HRS.out hf hst (fun he => (HEE.out he).imp id fun e => ⟨hf.l.trans (HLN.out he), e⟩)
        refine ⟨(keep_any hrp HRS.out).mono ?_, hf.qm.1.s0, frozen_of hf.qm.1.cs 0, by rw [cell_of hrp.hr]; rfl⟩
        rintro e w' ⟨he, hk⟩
        have hend := rg_of H2.out HA.out HF4.out HRS.out hf hst hk
        simp only [hf.l] at hend
        exact ⟨he, hend⟩
      have HFN := hide hfn
      by_cases hcm : c = most
      · subst hcm
        have hbb : (c != c) = false := by simp [bne]
        clear h h2 h3 h4 h5 hroom hfull hfn
        go_enter Try.func13, Try.ntmps13
        go_wp2_with fail
        (with_reducible refine Calls.mono km ?_)
        clear km
        rintro e u ⟨rfl, rfl⟩
        go_wp2_with fail
        (with_reducible refine Calls.mono kn ?_)
        clear kn
        rintro e u ⟨rfl, rfl⟩
        go_wp2_with fail
        (with_reducible refine Calls.mono kc ?_)
        clear kc
        rintro e u ⟨rfl, rfl⟩
        go_wp2_with fail
        (with_reducible refine Calls.mono kf ?_)
        clear kf
        rintro e w1 ⟨q, rfl, hf⟩
        obtain ⟨kk, c0, z0, c1⟩ := HFN.out q w1 hf
        clear hf
        go_wp2_with fail
        (with_reducible refine Calls.mono kk ?_)
        clear kk
        rintro e w5 ⟨rfl, hk⟩
        have HK := hide hk
        clear hk
        go_wp2_with fail
        go_ret
        exact ⟨rfl, HK.out⟩
      · have kfu := full_any h2 hr
        have hE : ¬ (E s = none ∧ m = 1000) := fun hh => hfull ⟨hcm, by rw [h3, hh.1]; rfl, hh.2⟩
        rw [decide_eq_false hE] at kfu
        have hne : (c == most) = false := beq_eq_false_iff_ne.2 hcm
        have hne2 : (c != most) = true := by simpa [bne] using hcm
        clear h h2 h3 h4 h5 hroom hfull hfn hE
        go_enter Try.func13, Try.ntmps13
        go_wp2_with fail
        (with_reducible refine Calls.mono km ?_)
        clear km
        rintro e u ⟨rfl, rfl⟩
        go_wp2_with fail
        (with_reducible refine Calls.mono kn ?_)
        clear kn
        rintro e u ⟨rfl, rfl⟩
        go_wp2_with fail
        (with_reducible refine Calls.mono kc ?_)
        clear kc
        rintro e u ⟨rfl, rfl⟩
        go_wp2_with fail
        (with_reducible refine Calls.mono kfu ?_)
        clear kfu
        rintro e u ⟨rfl, rfl⟩
        go_wp2_with fail
        (with_reducible refine Calls.mono kf ?_)
        clear kf
        rintro e w1 ⟨q, rfl, hf⟩
        obtain ⟨kk, c0, z0, c1⟩ := HFN.out q w1 hf
        clear hf
        go_wp2_with fail
        (with_reducible refine Calls.mono kk ?_)
        clear kk
        rintro e w5 ⟨rfl, hk⟩
        have HK := hide hk
        clear hk
        go_wp2_with fail
        go_ret
        exact ⟨rfl, HK.out⟩
  · have hp : capR most m A s c = (2, A, m) := by unfold capR; rw [if_pos hrc]
    rw [hp]
    by_cases hr : right s
    · have hc : ¬ capOk c := fun h => hrc ⟨hr, h⟩
      rw [decide_eq_true hr] at kn
      rw [decide_eq_false hc] at kc
      clear h h2 h3 h4 h5
      go_enter Try.func13, Try.ntmps13
      go_wp2_with fail
      (with_reducible refine Calls.mono km ?_)
      clear km
      rintro e u ⟨rfl, rfl⟩
      go_wp2_with fail
      (with_reducible refine Calls.mono kn ?_)
      clear kn
      rintro e u ⟨rfl, rfl⟩
      go_wp2_with fail
      (with_reducible refine Calls.mono kc ?_)
      clear kc
      rintro e u ⟨rfl, rfl⟩
      go_wp2_with fail
      go_ret
      exact ⟨rfl, F, HR.out, Step.below (Below.refl _ _)⟩
    · rw [decide_eq_false hr] at kn
      clear h h2 h3 h4 h5
      go_enter Try.func13, Try.ntmps13
      go_wp2_with fail
      (with_reducible refine Calls.mono km ?_)
      clear km
      rintro e u ⟨rfl, rfl⟩
      go_wp2_with fail
      (with_reducible refine Calls.mono kn ?_)
      clear kn
      rintro e u ⟨rfl, rfl⟩
      go_wp2_with fail
      go_ret
      exact ⟨rfl, F, HR.out, Step.below (Below.refl _ _)⟩

set_option maxRecDepth 100000 in
set_option maxHeartbeats 1600000 in
theorem len_r {w : World} {r : Value} {most : Int} {m : Nat} {A : PR} {F : Nat → Prop} (h : Rg w r most m A F) (s : ByteArray) (hs : s.size ≤ maxLen) :
    Calls Try.prog 18 #[r, .string s] w fun e w' => e = .returned (.int .i64 (lA A s).length) ∧ Below w.heap.size w w' := by
  obtain ⟨rb, sb, mb, E, rfl, h2, h3, h4, h5⟩ := h
  have kf := find_any h2 h3 s hs
  clear h2 h3 h4 h5
  go_enter Try.func18, Try.ntmps18
  go_wp2_with fail
  (with_reducible refine Calls.mono kf ?_)
  clear kf
  rintro e w1 ⟨q, rfl, hf⟩
  have q3 := hf.qm.1.s3
  rw [hf.l] at q3
  have HB := hide hf.be
  clear hf
  go_wp2_with fail
  go_ret
  exact ⟨rfl, HB.out⟩
set_option maxRecDepth 100000 in
set_option maxHeartbeats 1600000 in
theorem room_r {w : World} {r : Value} {most : Int} {m : Nat} {A : PR} {F : Nat → Prop} (h : Rg w r most m A F) (s : ByteArray) (hs : s.size ≤ maxLen) :
    Calls Try.prog 14 #[r, .string s] w fun e w' => e = .returned (.int .i64 (max (capA most A s - (lA A s).length) 0)) ∧ Below w.heap.size w w' := by
  obtain ⟨rb, sb, mb, E, rfl, h2, h3, h4, h5⟩ := h
  have kf := find_any h2 h3 s hs
  clear h2 h3 h4 h5
  obtain ⟨p, HP⟩ := named (max (capA most A s - (lA A s).length) 0)
  rw [← HP.out]
  go_enter Try.func14, Try.ntmps14
  go_wp2_with fail
  (with_reducible refine Calls.mono kf ?_)
  clear kf
  rintro e w1 ⟨q, rfl, hf⟩
  have kr := room_any hf.qm
  rw [hf.mo, hf.l, ← HP.out] at kr
  have HB := hide hf.be
  clear hf
  go_wp2_with fail
  (with_reducible refine Calls.mono kr ?_)
  clear kr
  rintro e w2 ⟨rfl, hb2⟩
  have HB2 := hide (below_call HB.out hb2)
  clear hb2
  go_wp2_with fail
  go_ret
  exact ⟨rfl, HB2.out⟩
set_option maxRecDepth 100000 in
set_option maxHeartbeats 1600000 in
theorem all_r {w : World} {r : Value} {most : Int} {m : Nat} {A : PR} {F : Nat → Prop} (h : Rg w r most m A F) (s : ByteArray) (hs : s.size ≤ maxLen) :
    Calls Try.prog 32 #[r, .string s] w fun e w' => ∃ v, e = .returned v ∧ OwnI w' w.heap.size v (lA A s) ∧ Below w.heap.size w w' := by
  obtain ⟨rb, sb, mb, E, rfl, h2, h3, h4, h5⟩ := h
  have kf := find_any h2 h3 s hs
  clear h2 h3 h4 h5
  go_enter Try.func32, Try.ntmps32
  go_wp2_with fail
  (with_reducible refine Calls.mono kf ?_)
  clear kf
  rintro e w1 ⟨q, rfl, hf⟩
  have kg := gather_nil hf.qm.1
  rw [hf.qm.2, hf.l] at kg
  have q1 := hf.qm.1.s1
  obtain ⟨-, ao, hv⟩ := hf.qm.1.pl.shape
  rw [hv] at q1 kg
  have HB := hide hf.be
  clear hf hv
  go_wp2_with fail
  (with_reducible refine Calls.mono kg ?_)
  clear kg
  rintro e w2 ⟨v, rfl, ho, hb2⟩
  have HB2 := hide (below_call HB.out hb2)
  have HO := hide (ho.mono HB.out.size)
  obtain ⟨ao', c', rfl⟩ := ho.shape
  clear hb2 ho
  go_wp2_with fail
  go_ret
  exact ⟨_, rfl, HO.out, HB2.out⟩

/-- the first number, and whether there is one -/
def headA (A : PR) (s : ByteArray) : Int × Bool := match lA A s with
  | [] => (0, false)
  | x :: _ => (x, true)
set_option maxRecDepth 100000 in
set_option maxHeartbeats 1600000 in
theorem look_r {w : World} {r : Value} {most : Int} {m : Nat} {A : PR} {F : Nat → Prop} (h : Rg w r most m A F) (s : ByteArray) (hs : s.size ≤ maxLen) :
    Calls Try.prog 31 #[r, .string s] w fun e w' => e = .returned (.tuple #[.int .i64 (headA A s).1, .bool (headA A s).2]) ∧ Below w.heap.size w w' := by
  obtain ⟨rb, sb, mb, E, rfl, h2, h3, h4, h5⟩ := h
  have kf := find_any h2 h3 s hs
  clear h2 h3 h4 h5
  unfold headA
  cases hl : lA A s with
  | nil =>
    go_enter Try.func31, Try.ntmps31
    go_wp2_with fail
    (with_reducible refine Calls.mono kf ?_)
    clear kf
    rintro e w1 ⟨q, rfl, hf⟩
    have q3 := hf.qm.1.s3
    rw [hf.l, hl, List.length_nil] at q3
    have HB := hide hf.be
    clear hf
    go_wp2_with fail
    go_ret2
    exact ⟨rfl, HB.out⟩
  | cons x t =>
    have hn0 : (((x :: t).length : Nat) : Int) ≠ 0 := by rw [List.length_cons]; omega
    obtain ⟨c, HC⟩ := named (x :: t).length
    rw [← HC.out] at hn0
    have hnB : ((c : Int) == 0) = false := beq_eq_false_iff_ne.2 hn0
    clear hn0
    go_enter Try.func31, Try.ntmps31
    go_wp2_with fail
    (with_reducible refine Calls.mono kf ?_)
    clear kf
    rintro e w1 ⟨q, rfl, hf⟩
    have q3 := hf.qm.1.s3
    rw [hf.l, hl, ← HC.out] at q3
    have q1 := hf.qm.1.s1
    have q2 := hf.qm.1.s2
    have hle := hf.qm.1.le
    rw [hf.l, hl, ← HC.out] at hle
    have hc0 : 0 < c := by rw [HC.out, List.length_cons]; omega
    have hfn : q.first < q.n := by rcases hf.qm.1.fi with h1 | ⟨h1, h2⟩; exact h1; omega
    obtain ⟨g, hv, -, -, -, hcell⟩ := hf.qm.1.pl.at (by omega)
    rw [hv] at q1
    have hx : q.f q.first = x := by
      have h2 := hf.qm.2
      have h1 := qL_pos q.f q.first q.n q.L.length 0 (by rw [hf.l, hl, ← HC.out]; exact hc0)
      rw [h2, hf.l, hl, pos_eq hfn (by omega), if_pos (by omega)] at h1
      simpa using h1.symm
    have cg := hcell _ hfn
    rw [hx] at cg
    have hfI : (q.first : Int) < (q.n : Int) := by omega
    obtain ⟨fi, HFI⟩ := named q.first
    obtain ⟨qn, HQN⟩ := named q.n
    rw [← HFI.out] at q2 cg hfI
    rw [← HQN.out] at q1 hfI
    have HB := hide hf.be
    clear hf hv hcell hx hle hc0 hfn
    go_wp2_with fail
    go_quiet (fail)
    go_wp2_with fail
    go_ret2
    exact ⟨rfl, HB.out.trans ((drewN_below _ _).mono HB.out.size)⟩
end Go.Proofs.Ytdbbdecmfnajiaa
