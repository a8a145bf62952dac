/-
  Which instructions may be, by their fields; the contract of an instruction; where a run goes on. Own work.
-/
import Derived.Test.YtlngeonfabahnaaDoorQg
import Derived.Test.YtlngeonfabahnaaDoorQh
import Derived.Test.YtlngeonfabahnaaDoorQi
import Derived.Test.YtlngeonfabahnaaDoorQj
import Derived.Test.YtlngeonfabahnaaDoorQk
namespace Go.Proofs.YtlngeonfabahnaaDoor
open Go Go.RowKit

/-- the fields of an instruction that may be -/
structure Fit (places : Int) (i : Ins) : Prop where
  op0 : 1 ≤ i.op
  op1 : i.op ≤ 16
  a0 : 0 ≤ i.a
  a1 : i.a < 16
  b0 : 0 ≤ i.b
  b1 : i.b < 16
  c0 : 0 ≤ i.c
  c1 : i.op ≠ 10 → i.c < 16
  n : i.op = 8 ∨ i.op = 9 → 0 ≤ i.n ∧ i.n < places
  s : i.s.size ≤ 1000000
theorem fit_reg {regs places pol x : Int} (h : fit regs places pol 114 x = true) (hr : regs ≤ 16) : 0 ≤ x ∧ x < 16 := by
  simp [fit] at h; omega
theorem fit_none {regs places pol x : Int} (h : fit regs places pol 46 x = true) : x = 0 := by
  simp [fit] at h; omega
theorem fit_place {regs places pol x : Int} (h : fit regs places pol 106 x = true) : 0 ≤ x ∧ x < places := by
  simp [fit] at h; omega
theorem fit_pol {regs places pol x : Int} (h : fit regs places pol 112 x = true) : 0 ≤ x := by
  simp [fit] at h; omega
theorem fit_str {regs places pol x : Int} (h : fit regs places pol 115 x = true) : x ≤ 40 := by
  simp [fit] at h; omega
theorem fit_of {regs places : Int} {i : Ins} (h : insB regs places 20 i = true) (hr : regs ≤ 16) : Fit places i := by
  obtain ⟨op, a, b, c, n, s⟩ := i
  have hop : op < 17 ∧ 1 ≤ op := by
    have h1 : (fields op).length = 5 := by
      unfold insB at h
      rw [Bool.and_eq_true, decide_eq_true_eq] at h
      exact h.1
    rcases Nat.lt_or_ge op 17 with h2 | h2
    · refine ⟨h2, ?_⟩
      rcases Nat.eq_zero_or_pos op with rfl | h3
      · simp [fields] at h1
      · exact h3
    · have := fieldS_size op
      rw [(over17 op h2).2] at this
      have h3 : (0 : Nat) = (fields op).length := this
      omega
  unfold insB at h
  rw [Bool.and_eq_true] at h
  have hf := h.2
  rcases (show op = 1 ∨ op = 2 ∨ op = 3 ∨ op = 4 ∨ op = 5 ∨ op = 6 ∨ op = 7 ∨ op = 8 ∨ op = 9 ∨ op = 10 ∨ op = 11 ∨ op = 12 ∨ op = 13 ∨ op = 14 ∨ op = 15 ∨ op = 16 by omega) with rfl | rfl | rfl | rfl | rfl | rfl | rfl | rfl | rfl | rfl | rfl | rfl | rfl | rfl | rfl | rfl
  all_goals
    simp only [fields, vals, fits, Bool.and_true, Bool.and_eq_true] at hf
    obtain ⟨f0, f1, f2, f3, f4⟩ := hf
    have g0 : 0 ≤ a ∧ a < 16 := by first | exact fit_reg f0 hr | (have := fit_none f0; omega)
    have g1 : 0 ≤ b ∧ b < 16 := by first | exact fit_reg f1 hr | (have := fit_none f1; omega)
    have g4 : (s.size : Int) ≤ 40 := by first | exact fit_str f4 | (have := fit_none f4; omega)
    exact ⟨hop.2, Nat.le_of_lt_succ hop.1, g0.1, g0.2, g1.1, g1.2,
      by show 0 ≤ c; first | exact (fit_reg f2 hr).1 | (have := fit_none f2; omega) | exact fit_pol f2,
      fun hne => by show c < 16; first | exact (fit_reg f2 hr).2 | (have := fit_none f2; omega) | exact absurd rfl hne,
      fun hj => by show 0 ≤ n ∧ n < places; first | exact fit_place f3 | (exfalso; revert hj; simp),
      by show s.size ≤ 1000000; omega⟩

theorem do_any {W : World} {b mb : Nat} {cv sv : Value} {w : World} {s : St} {kn : Int → Option Oc} {sg : List Int} (E : Ev W b mb sv kn sg) (h : Rn W b cv (.map (some mb)) sv w s) (hp : Plc s.place) (hsg : s.sig ≤ sg.length)
    {places : Int} (i : Ins) (F : Fit places i) :
    Calls Tryd.prog 31 #[.pointer (some ⟨b, 0, none⟩), insV i] w fun e w' => e = .returned (.bool (doI kn sg i s).2) ∧ Rn W b cv (.map (some mb)) sv w' (doI kn sg i s).1 := by
  obtain ⟨op, a, k, c, n, t⟩ := i
  obtain ⟨o0, o1, a0, a1, b0, b1, c0, c1, -, hs⟩ := F
  simp only at o0 o1 a0 a1 b0 b1 c0 c1 hs
  rcases (show op = 1 ∨ op = 2 ∨ op = 3 ∨ op = 4 ∨ op = 5 ∨ op = 6 ∨ op = 7 ∨ op = 8 ∨ op = 9 ∨ op = 10 ∨ op = 11 ∨ op = 12 ∨ op = 13 ∨ op = 14 ∨ op = 15 ∨ op = 16 by omega) with rfl | rfl | rfl | rfl | rfl | rfl | rfl | rfl | rfl | rfl | rfl | rfl | rfl | rfl | rfl | rfl
  · exact do_1 E h hp hsg a k c n t a0 a1
  · exact do_2 E h hp hsg a k c n t a0 a1 b0 b1
  · exact do_3 E h hp hsg a k c n t a0 a1 b0 b1 c0 (c1 (by decide))
  · exact do_4 E h hp hsg a k c n t a0 a1 b0 b1 c0 (c1 (by decide))
  · exact do_5 E h hp hsg a k c n t a0 a1 b0 b1 c0 (c1 (by decide))
  · exact do_6 E h hp hsg a k c n t a0 a1 b0 b1 c0 (c1 (by decide))
  · exact do_7 E h hp hsg a k c n t a0 a1 b0 b1 c0 (c1 (by decide))
  · exact do_8 E h hp hsg a k c n t
  · exact do_9 E h hp hsg a k c n t a0 a1
  · exact do_10 E h hp hsg a k c n t a0 a1 b0 b1 hs
  · exact do_11 E h hp hsg a k c n t a0 a1 b0 b1 hs
  · exact do_12 E h hp hsg a k c n t a0 a1 b0 b1 hs
  · exact do_13 E h hp hsg a k c n t a0 a1 b0 b1 c0 (c1 (by decide))
  · exact do_14 E h hp hsg a k c n t a0 a1
  · exact do_15 E h hp hsg a k c n t a0 a1
  · exact do_16 E h hp hsg a k c n t a0 a1

theorem actI_steps (kn : Int → Option Oc) (sg : List Int) (i : Ins) (s : St) : (actI kn sg i s).1.steps = s.steps :=
  actI_cases kn sg i s (fun x => x.1.steps = s.steps) (fun _ _ => rfl) (fun _ => rfl) (fun _ _ _ => rfl) (fun _ _ _ _ _ => rfl) (fun _ => rfl) (fun _ _ => rfl) (fun _ _ => rfl)
theorem doI_steps (kn : Int → Option Oc) (sg : List Int) (i : Ins) (s : St) : (doI kn sg i s).1.steps = s.steps := actI_steps kn sg i _
/-- where a run goes on behind an instruction -/
theorem actI_place (kn : Int → Option Oc) (sg : List Int) (i : Ins) (s : St) : ((actI kn sg i s).1.place = s.place ∨ (i.op = 8 ∨ i.op = 9) ∧ (actI kn sg i s).1.place = i.n) ∧ (i.op = 8 → (actI kn sg i s).1.place = i.n) ∧ (i.op = 15 ∨ i.op = 16 → (actI kn sg i s).1.at_ = 1) := by
  have hb : ∀ kind arg, (beginI i kind arg s).1.place = s.place := fun kind arg => by
    unfold beginI
    split <;> rfl
  have hw : (waitI kn i s).1.place = s.place := by
    unfold waitI
    split
    · split <;> rfl
    · rfl
  have ht : (takeI sg i s).1.place = s.place := by
    unfold takeI
    split <;> rfl
  unfold actI
  split
  all_goals rename_i hop
  all_goals refine ⟨?_, ?_, ?_⟩
  all_goals first
    | exact Or.inl rfl
    | exact Or.inl (hb _ _)
    | exact Or.inl hw
    | exact Or.inl ht
    | (intro h; exfalso; omega)
    | (intro h; rfl)
    | exact Or.inr ⟨Or.inl hop, rfl⟩
    | (split
       · exact Or.inr ⟨Or.inr hop, rfl⟩
       · exact Or.inl rfl)
    | (intro h; exact absurd h (by assumption))
    | (intro h; rcases h with h | h <;> exact absurd h (by assumption))
end Go.Proofs.YtlngeonfabahnaaDoor
