/-
  The contracts of Take, Drop. Own work.
-/
import Derived.Test.YtdbbdecmfnajiaaMo
namespace Go.Proofs.Ytdbbdecmfnajiaa
open Go.RowKit

/-- what stands there behind Take -/
def takeR (most : Int) (m : Nat) (A : PR) (s : ByteArray) : PR × Nat := match lA A s with
  | [] => (A, m)
  | _ :: t => (setA A s (keepO most (capA most A s) t), keepN A s (keepO most (capA most A s) t) m)
def dropR (most : Int) (m : Nat) (A : PR) (s : ByteArray) (x : Int) : PR × Nat :=
  if x ∈ lA A s then (setA A s (keepO most (capA most A s) ((lA A s).erase x)), keepN A s (keepO most (capA most A s) ((lA A s).erase x)) m) else (A, m)

/-- what has numbers may have its name -/
theorem Rg.right_of {w : World} {r : Value} {most : Int} {m : Nat} {A : PR} {F : Nat → Prop} (h : Rg w r most m A F) (s : ByteArray) (hl : lA A s ≠ []) : right s ∧ (A s).isSome := by
  have hs : (A s).isSome := by
    unfold lA at hl
    cases hA : A s with
    | none => rw [hA] at hl; exact absurd rfl hl
    | some x => rfl
  refine ⟨Decidable.byContradiction fun hn => ?_, hs⟩
  rw [h.rt s hn] at hs
  cases hs

set_option maxRecDepth 100000 in
set_option maxHeartbeats 3200000 in
theorem take_r {w : World} {r : Value} {most : Int} {m : Nat} {A : PR} {F : Nat → Prop} (h : Rg w r most m A F) (s : ByteArray) (hs : s.size ≤ maxLen) :
    Calls Try.prog 23 #[r, .string s] w fun e w' => e = .returned (.tuple #[.int .i64 (headA A s).1, .bool (headA A s).2]) ∧ ∃ G, Rg w' r most (takeR most m A s).2 (takeR most m A s).1 G ∧ Step F w w' G := by
  have HRT := hide (h.right_of s)
  obtain ⟨rb, sb, mb, E, rfl, h2, h3, h4, h5⟩ := id h
  have HR := hide h
  have kf := find_any h2 h3 s hs
  have H2 := hide h2
  have HA := hide h3
  have HF4 := hide h4
  clear h h2 h3 h4 h5
  unfold headA takeR
  cases hl : lA A s with
  | nil =>
    go_enter Try.func23, Try.ntmps23
    go_wp2_with fail
    (with_reducible refine Calls.mono kf ?_)
    clear kf
    rintro e w1 ⟨q, rfl, hf⟩
    have q3 := hf.qm.1.s3
    rw [hf.l, hl, List.length_nil] at q3
    have HB := hide hf.be
    clear hf
    go_wp2_with fail
    go_ret2
    exact ⟨rfl, F, HR.out.below HB.out, Step.below HB.out⟩
  | cons x t =>
    have hn0 : (((x :: t).length : Nat) : Int) ≠ 0 := by rw [List.length_cons]; omega
    obtain ⟨c, HC⟩ := named (x :: t).length
    rw [← HC.out] at hn0
    have hnB : ((c : Int) == 0) = false := beq_eq_false_iff_ne.2 hn0
    have HRS := hide (HRT.out (by rw [hl]; exact List.cons_ne_nil _ _))
    clear hn0
    have HLL := hide hl
    clear hl
    go_enter Try.func23, Try.ntmps23
    go_wp2_with fail
    (with_reducible refine Calls.mono kf ?_)
    clear kf
    rintro e w1 ⟨q, rfl, hf⟩
    have q3 := hf.qm.1.s3
    rw [hf.l, HLL.out, ← HC.out] at q3
    have kt := take_any hf.qm (hf.l.trans HLL.out)
    have HFN := hide hf
    clear hf
    go_wp2_with fail
    (with_reducible refine Calls.mono kt ?_)
    clear kt
    rintro e w2 ⟨rfl, q', hst, hmo, hL⟩
    have HST := hide hst
    have hne : E s = none → m < 1000 ∨ (q'.L = [] ∧ q'.most = most) := fun he => by
      have := HRS.out.2
      rw [HA.out, he] at this
      cases this
    have HRP := hide (rp_of H2.out HRS.out.1 HFN.out HST.out hne)
    have c1 : w2.cell? ⟨rb, 0, none⟩ = some (.pointer (some ⟨sb, 0, none⟩)) := by rw [cell_of HRP.out.hr]; rfl
    have kd := keep_any HRP.out HRS.out.1
    have eqb : q'.qb = q.qb := HST.out.qb
    rw [eqb] at kd
    have HMO := hide hmo
    have HL := hide hL
    clear hst hmo hL eqb hne
    go_wp2_with fail
    (with_reducible refine Calls.mono kd ?_)
    clear kd
    rintro e w5 ⟨rfl, hk⟩
    have HK := hide hk
    clear hk
    go_wp2_with fail
    go_ret2
    have hend := rg_of H2.out HA.out HF4.out HRS.out.1 HFN.out HST.out HK.out
    rw [HMO.out, HL.out, HFN.out.mo] at hend
    exact ⟨rfl, hend⟩

set_option maxRecDepth 100000 in
set_option maxHeartbeats 3200000 in
theorem drop_r {w : World} {r : Value} {most : Int} {m : Nat} {A : PR} {F : Nat → Prop} (h : Rg w r most m A F) (s : ByteArray) (hs : s.size ≤ maxLen) (x : Int) :
    Calls Try.prog 25 #[r, .string s, .int .i64 x] w fun e w' => e = .returned (.bool (decide (x ∈ lA A s))) ∧ ∃ G, Rg w' r most (dropR most m A s x).2 (dropR most m A s x).1 G ∧ Step F w w' G := by
  have HRT := hide (h.right_of s)
  obtain ⟨rb, sb, mb, E, rfl, h2, h3, h4, h5⟩ := id h
  have HR := hide h
  have kf := find_any h2 h3 s hs
  have H2 := hide h2
  have HA := hide h3
  have HF4 := hide h4
  clear h h2 h3 h4 h5
  unfold dropR
  by_cases hx : x ∈ lA A s
  · rw [if_pos hx, decide_eq_true hx]
    have HRS := hide (HRT.out (fun e => by rw [e] at hx; cases hx))
    have HX := hide hx
    clear hx
    go_enter Try.func25, Try.ntmps25
    go_wp2_with fail
    (with_reducible refine Calls.mono kf ?_)
    clear kf
    rintro e w1 ⟨q, rfl, hf⟩
    have kt := drop_any hf.qm x
    rw [hf.l, decide_eq_true HX.out] at kt
    have HFN := hide hf
    clear hf
    go_wp2_with fail
    (with_reducible refine Calls.mono kt ?_)
    clear kt
    rintro e w2 ⟨rfl, -, q', hst, hmo, hL⟩
    have HST := hide hst
    have hne : E s = none → m < 1000 ∨ (q'.L = [] ∧ q'.most = most) := fun he => by
      have := HRS.out.2
      rw [HA.out, he] at this
      cases this
    have HRP := hide (rp_of H2.out HRS.out.1 HFN.out HST.out hne)
    have c1 : w2.cell? ⟨rb, 0, none⟩ = some (.pointer (some ⟨sb, 0, none⟩)) := by rw [cell_of HRP.out.hr]; rfl
    have kd := keep_any HRP.out HRS.out.1
    have eqb : q'.qb = q.qb := HST.out.qb
    rw [eqb] at kd
    have HMO := hide hmo
    have HL := hide hL
    clear hst hmo hL eqb hne
    go_wp2_with fail
    (with_reducible refine Calls.mono kd ?_)
    clear kd
    rintro e w5 ⟨rfl, hk⟩
    have HK := hide hk
    clear hk
    go_wp2_with fail
    go_ret
    have hend := rg_of H2.out HA.out HF4.out HRS.out.1 HFN.out HST.out HK.out
    rw [HMO.out, HL.out, HFN.out.mo] at hend
    exact ⟨rfl, hend⟩
  · rw [if_neg hx, decide_eq_false hx]
    have HX := hide hx
    clear hx
    go_enter Try.func25, Try.ntmps25
    go_wp2_with fail
    (with_reducible refine Calls.mono kf ?_)
    clear kf
    rintro e w1 ⟨q, rfl, hf⟩
    have kt := drop_any hf.qm x
    rw [hf.l, decide_eq_false HX.out] at kt
    have HFN := hide hf
    clear hf
    go_wp2_with fail
    (with_reducible refine Calls.mono kt ?_)
    clear kt
    rintro e w2 ⟨rfl, hb, -⟩
    have HB := hide (below_call HFN.out.be (hb HX.out))
    clear hb
    go_wp2_with fail
    go_ret
    exact ⟨rfl, F, HR.out.below HB.out, Step.below HB.out⟩
end Go.Proofs.Ytdbbdecmfnajiaa
