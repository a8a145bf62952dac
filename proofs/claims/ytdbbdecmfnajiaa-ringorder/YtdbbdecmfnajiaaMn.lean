/-
  The contracts of New, Put, Cap, Take, Drop, Look, Len, Room, All. Own work.
-/
import Derived.Test.YtdbbdecmfnajiaaMm
namespace Go.Proofs.Ytdbbdecmfnajiaa
open Go.RowKit

set_option maxRecDepth 100000 in
set_option maxHeartbeats 800000 in
theorem new_bad (w : World) (c : Int) (h : ¬ capOk c) : Calls Try.prog 10 #[.int .i64 c] w fun e w' => e = .returned (.tuple #[.pointer none, .int .i64 2]) ∧ w' = w := by
  have kc := cap_any c w
  rw [decide_eq_false h] at kc
  go_enter Try.func10, Try.ntmps10
  go_wp2_with fail
  (with_reducible refine Calls.mono kc ?_)
  clear kc
  rintro e u ⟨rfl, rfl⟩
  go_wp2_with fail
  go_ret2
  exact ⟨rfl, rfl⟩
set_option maxRecDepth 100000 in
set_option maxHeartbeats 800000 in
theorem new_any (w : World) (c : Int) (h : capOk c) : Calls Try.prog 10 #[.int .i64 c] w fun e w' => ∃ r F, e = .returned (.tuple #[r, .int .i64 0]) ∧ Rg w' r c 0 (fun _ => none) F ∧ (∀ b, F b → w.heap.size ≤ b) ∧ Below w.heap.size w w' := by
  have kc := cap_any c w
  rw [decide_eq_true h] at kc
  have hm0 := Mp.made w
  have hend : Rg (((w.alloc (.map #[] 0)).alloc (.cells #[.int .i64 c, .map (some w.heap.size)] 72)).alloc (.cells #[.pointer (some ⟨w.heap.size + 1, 0, none⟩)] 60)) (.pointer (some ⟨w.heap.size + 1 + 1, 0, none⟩)) c 0 (fun _ => none) (fun b => w.heap.size ≤ b ∧ b < w.heap.size + 1 + 1 + 1) := by
    refine ⟨w.heap.size + 1 + 1, w.heap.size + 1, w.heap.size, fun _ => none, rfl, ⟨?_, ?_, ?_, fun s q h => (by cases h), fun s t q r _ h => (by cases h), h, fun s q h => (by cases h), Nat.zero_le _⟩, fun _ => rfl, fun b hb => ?_, fun b hb => ?_⟩
    · have := heap_new ((w.alloc (.map #[] 0)).alloc (.cells #[.int .i64 c, .map (some w.heap.size)] 72)) (.cells #[.pointer (some ⟨w.heap.size + 1, 0, none⟩)] 60)
      simpa using this
    · rw [Below.heap_alloc _ _ _ (by simp)]
      have := heap_new (w.alloc (.map #[] 0)) (.cells #[.int .i64 c, .map (some w.heap.size)] 72)
      simpa using this
    · exact hm0.heap (by rw [Below.heap_alloc _ _ _ (by simp <;> omega), Below.heap_alloc _ _ _ (by simp)])
    · rcases hb with rfl | rfl | rfl | ⟨_, _, h, _⟩
      · omega
      · omega
      · omega
      · cases h
    · simp; omega
  have HE := hide hend
  have hb : Below w.heap.size w (((w.alloc (.map #[] 0)).alloc (.cells #[.int .i64 c, .map (some w.heap.size)] 72)).alloc (.cells #[.pointer (some ⟨w.heap.size + 1, 0, none⟩)] 60)) := ((((Below.refl _ _).alloc (Nat.le_refl _) _).alloc (by simp) _).alloc (by simp; omega) _)
  have HB := hide hb
  have hmm := @run_makeMap Try.prog
  clear hend hm0 hb
  go_enter Try.func10, Try.ntmps10
  go_wp2_with fail
  (with_reducible refine Calls.mono kc ?_)
  clear kc
  rintro e u ⟨rfl, rfl⟩
  go_wp2_with fail
  go_ret2
  exact ⟨_, _, rfl, HE.out, fun b hb => hb.1, HB.out⟩

/-- how Put answers, and what stands there then -/
def putR (most : Int) (m : Nat) (A : PR) (s : ByteArray) (x : Int) : Nat × PR × Nat :=
  if ¬ right s then (2, A, m)
  else if capA most A s ≤ (lA A s).length then (50, A, m)
  else if A s = none ∧ m = 1000 then (5, A, m)
  else (0, setA A s (keepO most (capA most A s) (lA A s ++ [x])), keepN A s (keepO most (capA most A s) (lA A s ++ [x])) m)

set_option maxRecDepth 100000 in
set_option maxHeartbeats 3200000 in
theorem put_r {w : World} {r : Value} {most : Int} {m : Nat} {A : PR} {F : Nat → Prop} (h : Rg w r most m A F) (s : ByteArray) (hs : s.size ≤ maxLen) (x : Int) :
    Calls Try.prog 12 #[r, .string s, .int .i64 x] w fun e w' => e = .returned (.int .i64 (putR most m A s x).1) ∧ ∃ G, Rg w' r most (putR most m A s x).2.2 (putR most m A s x).2.1 G ∧ Step F w w' G := by
  have hcap := h.cap s
  obtain ⟨rb, sb, mb, E, rfl, h2, h3, h4, h5⟩ := id h
  have HR := hide h
  have km := made_yes w rb sb h2.r0
  have kn := name_any s w hs
  have r0 := h2.r0
  by_cases hr : right s
  · rw [decide_eq_true hr] at kn
    have kf := find_any h2 h3 s hs
    have h2' := fun u (hb : Below w.heap.size w u) => h2.below hb
    have H2 := hide h2
    have HA := hide h3
    have HF4 := hide h4
    by_cases hb : capA most A s ≤ (lA A s).length
    · have hp : putR most m A s x = (50, A, m) := by unfold putR; rw [if_neg (fun h => h hr), if_pos hb]
      rw [hp]
      clear h2' h h2 h3 h4 h5
      go_enter Try.func12, Try.ntmps12
      go_wp2_with fail
      (with_reducible refine Calls.mono km ?_)
      clear km
      rintro e u ⟨rfl, rfl⟩
      go_wp2_with fail
      (with_reducible refine Calls.mono kn ?_)
      clear kn
      rintro e u ⟨rfl, rfl⟩
      go_wp2_with fail
      (with_reducible refine Calls.mono kf ?_)
      clear kf
      rintro e w1 ⟨q, rfl, hf⟩
      have kr := room_any hf.qm
      rw [hf.mo, hf.l, show max (capA most A s - (lA A s).length) 0 = 0 by omega] at kr
      have HB1 := hide hf.be
      clear hf hb
      go_wp2_with fail
      (with_reducible refine Calls.mono kr ?_)
      clear kr
      rintro e w2 ⟨rfl, hb2⟩
      have HB2 := hide (below_call HB1.out hb2)
      clear hb2
      go_wp2_with fail
      go_ret
      exact ⟨rfl, F, HR.out.below HB2.out, Step.below HB2.out⟩
    · have hpos : ∃ p : Int, p = max (capA most A s - (lA A s).length) 0 ∧ 0 < p := ⟨_, rfl, by omega⟩
      obtain ⟨p, hp, hp0⟩ := hpos
      have hpB : (p == 0) = false := beq_eq_false_iff_ne.2 (by omega)
      have HPP := hide hp
      have hlt : (lA A s).length < 65536 := by omega
      by_cases hfull : A s = none ∧ m = 1000
      · have hpr : putR most m A s x = (5, A, m) := by unfold putR; rw [if_neg (fun h => h hr), if_neg hb, if_pos hfull]
        rw [hpr]
        have hE : E s = none := by
          have := hfull.1
          rw [h3] at this
          simpa using this
        have kfu := fun u (hbu : Below w.heap.size w u) => full_any (h2' u hbu) hr
        rw [decide_eq_true ⟨hE, hfull.2⟩] at kfu
        have HKF := hide kfu
        have HC0 : Hid (∀ u : World, Below w.heap.size w u → u.cell? ⟨rb, 0, none⟩ = some (.pointer (some ⟨sb, 0, none⟩))) := fun u hbu => (h2.below hbu).r0
        clear h2' h h2 h3 h4 h5 kfu hfull hb hE hp
        go_enter Try.func12, Try.ntmps12
        go_wp2_with fail
        (with_reducible refine Calls.mono km ?_)
        clear km
        rintro e u ⟨rfl, rfl⟩
        go_wp2_with fail
        (with_reducible refine Calls.mono kn ?_)
        clear kn
        rintro e u ⟨rfl, rfl⟩
        go_wp2_with fail
        (with_reducible refine Calls.mono kf ?_)
        clear kf
        rintro e w1 ⟨q, rfl, hf⟩
        have kr := room_any hf.qm
        rw [hf.mo, hf.l, ← HPP.out] at kr
        have HB1 := hide hf.be
        clear hf
        go_wp2_with fail
        (with_reducible refine Calls.mono kr ?_)
        clear kr
        rintro e w2 ⟨rfl, hb2⟩
        have HB2 := hide (below_call HB1.out hb2)
        have c0 := HC0.out w2 HB2.out
        have kk := HKF.out w2 HB2.out
        clear hb2
        go_wp2_with fail
        (with_reducible refine Calls.mono kk ?_)
        clear kk
        rintro e w3 ⟨rfl, rfl⟩
        go_wp2_with fail
        go_ret
        exact ⟨rfl, F, HR.out.below HB2.out, Step.below HB2.out⟩
      · have hpr : putR most m A s x = (0, setA A s (keepO most (capA most A s) (lA A s ++ [x])), keepN A s (keepO most (capA most A s) (lA A s ++ [x])) m) := by unfold putR; rw [if_neg (fun h => h hr), if_neg hb, if_neg hfull]
        rw [hpr]
        have hE : ¬ (E s = none ∧ m = 1000) := fun hh => hfull ⟨by rw [h3, hh.1]; rfl, hh.2⟩
        have kfu := fun u (hbu : Below w.heap.size w u) => full_any (h2' u hbu) hr
        rw [decide_eq_false hE] at kfu
        have HKF := hide kfu
        have HC0 : Hid (∀ u : World, Below w.heap.size w u → u.cell? ⟨rb, 0, none⟩ = some (.pointer (some ⟨sb, 0, none⟩))) := fun u hbu => (h2.below hbu).r0
        have HRS := hide hr
        have HEE : Hid (E s = none → m < 1000) := fun he => by
          have := h2.many
          by_cases e : m = 1000
          · exact absurd ⟨he, e⟩ hE
          · omega
        have HLT := hide hlt
        clear h2' h h2 h3 h4 h5 kfu hfull hb hE hp hr
        go_enter Try.func12, Try.ntmps12
        go_wp2_with fail
        (with_reducible refine Calls.mono km ?_)
        clear km
        rintro e u ⟨rfl, rfl⟩
        go_wp2_with fail
        (with_reducible refine Calls.mono kn ?_)
        clear kn
        rintro e u ⟨rfl, rfl⟩
        go_wp2_with fail
        (with_reducible refine Calls.mono kf ?_)
        clear kf
        rintro e w1 ⟨q, rfl, hf⟩
        have kr := room_any hf.qm
        rw [hf.mo, hf.l, ← HPP.out] at kr
        have HFN := hide hf
        clear hf
        go_wp2_with fail
        (with_reducible refine Calls.mono kr ?_)
        clear kr
        rintro e w2 ⟨rfl, hb2⟩
        have HB2 := hide (below_call HFN.out.be hb2)
        have HST2 := hide (QStep.ofBelow HFN.out.qm hb2)
        have c0 := HC0.out w2 HB2.out
        have kk := HKF.out w2 HB2.out
        have kp := put_any HST2.out.qm x (by rw [HFN.out.l]; exact HLT.out)
        clear hb2
        go_wp2_with fail
        (with_reducible refine Calls.mono kk ?_)
        clear kk
        rintro e w3 ⟨rfl, rfl⟩
        go_wp2_with fail
        (with_reducible refine Calls.mono kp ?_)
        clear kp
        rintro e w4 ⟨rfl, q', hst, hmo, hL⟩
        have HST := hide (HST2.out.trans hst)
        have HRP := hide (rp_of H2.out HRS.out HFN.out HST.out (fun he => .inl (HEE.out he)))
        have c1 : w4.cell? ⟨rb, 0, none⟩ = some (.pointer (some ⟨sb, 0, none⟩)) := by rw [cell_of HRP.out.hr]; rfl
        have kd := keep_any HRP.out HRS.out
        have eqb : q'.qb = q.qb := HST.out.qb
        rw [eqb] at kd
        have HMO := hide hmo
        have HL := hide hL
        clear hst hmo hL c0 eqb
        go_wp2_with fail
        (with_reducible refine Calls.mono kd ?_)
        clear kd
        rintro e w5 ⟨rfl, hk⟩
        have HK := hide hk
        clear hk
        go_wp2_with fail
        go_ret
        have hend := rg_of H2.out HA.out HF4.out HRS.out HFN.out HST.out HK.out
        rw [HMO.out, HL.out, HFN.out.mo, HFN.out.l] at hend
        exact ⟨rfl, hend⟩
  · rw [decide_eq_false hr] at kn
    have hp : putR most m A s x = (2, A, m) := by unfold putR; rw [if_pos hr]
    rw [hp]
    clear h h2 h3 h4 h5
    go_enter Try.func12, Try.ntmps12
    go_wp2_with fail
    (with_reducible refine Calls.mono km ?_)
    clear km
    rintro e u ⟨rfl, rfl⟩
    go_wp2_with fail
    (with_reducible refine Calls.mono kn ?_)
    clear kn
    rintro e u ⟨rfl, rfl⟩
    go_wp2_with fail
    go_ret
    exact ⟨rfl, F, HR.out, Step.below (Below.refl _ _)⟩
end Go.Proofs.Ytdbbdecmfnajiaa
