/-
  How a program stands by what is known, as lists: one step, many steps, what more that is told makes of it. Own work.
-/
import Derived.Test.YtlngeonfabahnaaDoorPg
namespace Go.Proofs.YtlngeonfabahnaaDoor
open Go.RowKit

/-- a number of 64 bits -/
def wr (x : Int) : Int := IntKind.i64.wrap x
/-- an outcome: its status, its value -/
abbrev Oc := Int × Int
/-- a command -/
structure Cm where
  n : Nat
  kind : Nat
  s : ByteArray
  arg : Int
  pol : Int
/-- how a run stands, its registers and its place -/
structure St where
  regs : Nat → Int
  place : Int
  at_ : Nat
  ost : Int
  ova : Int
  on : Int
  cmds : List Cm
  sig : Nat
  steps : Nat
def setR (r : Nat → Int) (k : Int) (v : Int) : Nat → Int := fun x => if x = k.toNat then v else r x
def getR (s : St) (k : Int) : Int := s.regs k.toNat
def St.put (s : St) (k : Int) (v : Int) : St := { s with regs := setR s.regs k v }
def St.go (s : St) (p : Int) : St := { s with place := p }
def St.cmd (s : St) (kind : Nat) (t : ByteArray) (arg pol : Int) : St := { s with cmds := s.cmds ++ [⟨s.cmds.length + 1, kind, t, arg, pol⟩] }
def beginI (i : Ins) (kind : Nat) (arg : Int) (s : St) : St × Bool :=
  if s.cmds.length = 200 then ({ s with at_ := 5 }, false) else ((s.cmd kind i.s arg i.c).put i.a ((s.cmds.length + 1 : Nat) : Int), true)
def isCmd (s : St) (n : Int) : Prop := 1 ≤ n ∧ n ≤ (s.cmds.length : Int)
instance (s : St) (n : Int) : Decidable (isCmd s n) := inferInstanceAs (Decidable (_ ∧ _))
def waitI (kn : Int → Option Oc) (i : Ins) (s : St) : St × Bool :=
  if isCmd s (getR s i.b) then
    match kn (getR s i.b) with
    | none => ({ s with at_ := 2, on := getR s i.b }, false)
    | some o => ((s.put i.a o.2).put i.c o.1, true)
  else ((s.put i.a 0).put i.c 1, true)
def takeI (sg : List Int) (i : Ins) (s : St) : St × Bool :=
  match sg[s.sig]? with
  | none => ({ s with at_ := 3 }, false)
  | some v => ({ s.put i.a v with sig := s.sig + 1 }, true)
def endI (st : Int) (v : Int) (s : St) : St := { s with at_ := 1, ost := st, ova := v }
def one (b : Bool) : Int := if b then 1 else 0
/-- what an instruction does behind the step of the place; whether it is done -/
def actI (kn : Int → Option Oc) (sg : List Int) (i : Ins) (s : St) : St × Bool :=
  match i.op with
  | 1 => (s.put i.a i.n, true)
  | 2 => (s.put i.a (getR s i.b), true)
  | 3 => (s.put i.a (wr (getR s i.b + getR s i.c)), true)
  | 4 => (s.put i.a (wr (getR s i.b - getR s i.c)), true)
  | 5 => (s.put i.a (wr (getR s i.b * getR s i.c)), true)
  | 6 => (s.put i.a (one (decide (getR s i.b < getR s i.c))), true)
  | 7 => (s.put i.a (one (decide (getR s i.b = getR s i.c))), true)
  | 8 => (s.go i.n, true)
  | 9 => (if getR s i.a = 0 then s.go i.n else s, true)
  | 10 => beginI i 1 (getR s i.b) s
  | 11 => beginI i 2 (if getR s i.b < 0 then 0 else getR s i.b) s
  | 12 => beginI i 3 (getR s i.b) s
  | 13 => waitI kn i s
  | 14 => takeI sg i s
  | 15 => (endI 0 (getR s i.a) s, true)
  | 16 => (endI 1 (getR s i.a) s, true)
  | _ => (s, true)
def doI (kn : Int → Option Oc) (sg : List Int) (i : Ins) (s : St) : St × Bool := actI kn sg i (s.go (s.place + 1))
def cnt (x : St × Bool) : St := if x.2 = true then { x.1 with steps := x.1.steps + 1 } else x.1
def noI : Ins := ⟨0, 0, 0, 0, 0, ⟨#[]⟩⟩
def insAt (code : List Ins) (k : Int) : Ins := code.getD k.toNat noI
def step (kn : Int → Option Oc) (sg : List Int) (code : List Ins) (s : St) : St := cnt (doI kn sg (insAt code s.place) s)
def it (kn : Int → Option Oc) (sg : List Int) (code : List Ins) : Nat → St → St
  | 0, s => s
  | k + 1, s => if s.at_ = 0 then it kn sg code k (step kn sg code s) else s
def fin (s : St) : St := if s.at_ = 0 then { s with at_ := 4 } else s
def st0 (arg : Int) : St := ⟨setR (fun _ => 0) 0 arg, 0, 0, 0, 0, 0, [], 0, 0⟩
def knOf (l : List (Int × Oc)) : Int → Option Oc := fun n => (l.find? fun k => k.1 == n).map (·.2)
def runP (kn : Int → Option Oc) (sg : List Int) (code : List Ins) (arg : Int) (fuel : Nat) : St := fin (it kn sg code fuel (st0 arg))

theorem it_stood (kn : Int → Option Oc) (sg : List Int) (code : List Ins) (k : Nat) (s : St) (h : ¬ s.at_ = 0) : it kn sg code k s = s := by
  cases k with
  | zero => rfl
  | succ k => rw [it, if_neg h]
theorem it_add (kn : Int → Option Oc) (sg : List Int) (code : List Ins) (j k : Nat) (s : St) : it kn sg code (j + k) s = it kn sg code k (it kn sg code j s) := by
  induction j generalizing s with
  | zero => simp [it]
  | succ j ih =>
    rw [show j + 1 + k = (j + k) + 1 by omega, it, it]
    by_cases h : s.at_ = 0
    · rw [if_pos h, if_pos h, ih]
    · rw [if_neg h, if_neg h, it_stood _ _ _ _ _ h]

/-- what a step leaves alone or makes more -/
structure Ext (s t : St) : Prop where
  cmds : s.cmds <+: t.cmds
  sig : s.sig ≤ t.sig
  steps : s.steps ≤ t.steps
theorem Ext.refl (s : St) : Ext s s := ⟨List.prefix_refl _, Nat.le_refl _, Nat.le_refl _⟩
theorem Ext.trans {s t u : St} (h : Ext s t) (k : Ext t u) : Ext s u := ⟨h.cmds.trans k.cmds, Nat.le_trans h.sig k.sig, Nat.le_trans h.steps k.steps⟩

/-- what an action makes of a state: one of a few -/
theorem actI_cases (kn : Int → Option Oc) (sg : List Int) (i : Ins) (s : St) (p : St × Bool → Prop)
    (h1 : ∀ r q, p ({ s with regs := r, place := q }, true))
    (h2 : s.cmds.length = 200 → p ({ s with at_ := 5 }, false))
    (h3 : ¬ s.cmds.length = 200 → ∀ r c, p ({ s with regs := r, cmds := s.cmds ++ [c] }, true))
    (h4 : i.op = 13 → ∀ n, isCmd s n → n = getR s i.b → kn n = none → p ({ s with at_ := 2, on := n }, false))
    (h5 : sg.length ≤ s.sig → p ({ s with at_ := 3 }, false))
    (h6 : s.sig < sg.length → ∀ r, p ({ s with regs := r, sig := s.sig + 1 }, true))
    (h7 : ∀ st v, p ({ s with at_ := 1, ost := st, ova := v }, true)) : p (actI kn sg i s) := by
  have hb : ∀ kind arg, p (beginI i kind arg s) := fun kind arg => by
    unfold beginI
    by_cases h : s.cmds.length = 200
    · rw [if_pos h]; exact h2 h
    · rw [if_neg h]; exact h3 h _ _
  unfold actI
  split
  all_goals try exact h1 _ _
  all_goals try exact hb _ _
  all_goals try exact h7 _ _
  · split
    · exact h1 _ _
    · exact h1 _ _
  · rename_i hop
    unfold waitI
    by_cases hc : isCmd s (getR s i.b)
    · rw [if_pos hc]
      cases hk : kn (getR s i.b) with
      | none => exact h4 hop _ hc rfl hk
      | some o => exact h1 _ _
    · rw [if_neg hc]; exact h1 _ _
  · unfold takeI
    cases hk : sg[s.sig]? with
    | none => exact h5 (by simpa using hk)
    | some v => exact h6 (by have := List.getElem?_eq_some_iff.1 hk; exact this.1) _
theorem step_ext (kn : Int → Option Oc) (sg : List Int) (code : List Ins) (s : St) (h0 : s.at_ = 0) :
    Ext s (step kn sg code s) ∧ ((step kn sg code s).at_ = 0 → (step kn sg code s).steps = s.steps + 1) ∧ ((step kn sg code s).at_ = 1 → (step kn sg code s).steps = s.steps + 1) ∧
    ((step kn sg code s).at_ = 2 ∨ (step kn sg code s).at_ = 3 ∨ (step kn sg code s).at_ = 5 → (step kn sg code s).steps = s.steps ∧ (step kn sg code s).cmds = s.cmds ∧ (step kn sg code s).sig = s.sig) ∧
    ((step kn sg code s).at_ = 0 ∨ (step kn sg code s).at_ = 1 ∨ (step kn sg code s).at_ = 2 ∨ (step kn sg code s).at_ = 3 ∨ (step kn sg code s).at_ = 5) ∧ (s.cmds.length ≤ 200 → (step kn sg code s).cmds.length ≤ 200) ∧ (s.sig ≤ sg.length → (step kn sg code s).sig ≤ sg.length) := by
  unfold step doI
  refine actI_cases kn sg _ _ (fun x => Ext s (cnt x) ∧ ((cnt x).at_ = 0 → (cnt x).steps = s.steps + 1) ∧ ((cnt x).at_ = 1 → (cnt x).steps = s.steps + 1) ∧ ((cnt x).at_ = 2 ∨ (cnt x).at_ = 3 ∨ (cnt x).at_ = 5 → (cnt x).steps = s.steps ∧ (cnt x).cmds = s.cmds ∧ (cnt x).sig = s.sig) ∧ ((cnt x).at_ = 0 ∨ (cnt x).at_ = 1 ∨ (cnt x).at_ = 2 ∨ (cnt x).at_ = 3 ∨ (cnt x).at_ = 5) ∧ (s.cmds.length ≤ 200 → (cnt x).cmds.length ≤ 200) ∧ (s.sig ≤ sg.length → (cnt x).sig ≤ sg.length)) ?_ ?_ ?_ ?_ ?_ ?_ ?_
  all_goals simp only [St.go, cnt]
  · intro r q; simp [h0]; exact ⟨List.prefix_refl _, Nat.le_refl _, by simp⟩
  · intro h; simp; exact ⟨List.prefix_refl _, Nat.le_refl _, by simp⟩
  · intro h r c; simp [h0]; exact ⟨⟨List.prefix_append _ _, Nat.le_refl _, by simp⟩, by omega⟩
  · intro _ n _ _ _; simp; exact ⟨List.prefix_refl _, Nat.le_refl _, by simp⟩
  · intro h; simp; exact ⟨List.prefix_refl _, Nat.le_refl _, by simp⟩
  · intro h r; simp [h0]; exact ⟨⟨List.prefix_refl _, by simp, by simp⟩, by omega⟩
  · intro st v; simp; exact ⟨List.prefix_refl _, Nat.le_refl _, by simp⟩
theorem it_facts (kn : Int → Option Oc) (sg : List Int) (code : List Ins) (k : Nat) (s : St) (h0 : s.at_ = 0) :
    Ext s (it kn sg code k s) ∧ ((it kn sg code k s).at_ = 0 → (it kn sg code k s).steps = s.steps + k) ∧ (it kn sg code k s).steps ≤ s.steps + k ∧
    ((it kn sg code k s).at_ = 0 ∨ (it kn sg code k s).at_ = 1 ∨ (it kn sg code k s).at_ = 2 ∨ (it kn sg code k s).at_ = 3 ∨ (it kn sg code k s).at_ = 5) ∧
    (s.cmds.length ≤ 200 → (it kn sg code k s).cmds.length ≤ 200) ∧ (s.sig ≤ sg.length → (it kn sg code k s).sig ≤ sg.length) := by
  induction k generalizing s with
  | zero => exact ⟨Ext.refl _, fun _ => rfl, Nat.le_refl _, .inl h0, id, id⟩
  | succ k ih =>
    rw [it, if_pos h0]
    obtain ⟨e, s0, s1, s2, s3, s4, s5⟩ := step_ext kn sg code s h0
    by_cases h : (step kn sg code s).at_ = 0
    · obtain ⟨i1, i2, i3, i4, i5, i6⟩ := ih _ h
      have := s0 h
      exact ⟨e.trans i1, fun hh => by rw [i2 hh, this]; omega, by omega, i4, fun hh => i5 (s4 hh), fun hh => i6 (s5 hh)⟩
    · rw [it_stood _ _ _ _ _ h]
      have hst : (step kn sg code s).steps ≤ s.steps + (k + 1) := by
        rcases s3 with h' | h' | h' | h' | h'
        · exact absurd h' h
        · have := s1 h'; omega
        · have := (s2 (.inl h')).1; omega
        · have := (s2 (.inr (.inl h'))).1; omega
        · have := (s2 (.inr (.inr h'))).1; omega
      exact ⟨e, fun hh => absurd hh h, hst, s3, s4, s5⟩

theorem actI_kn (kn kn' : Int → Option Oc) (sg : List Int) (i : Ins) (s : St) (h : i.op = 13 → isCmd s (getR s i.b) → kn (getR s i.b) = kn' (getR s i.b)) : actI kn sg i s = actI kn' sg i s := by
  unfold actI
  split <;> try rfl
  rename_i hop
  unfold waitI
  by_cases hc : isCmd s (getR s i.b)
  · rw [if_pos hc, if_pos hc, h hop hc]
  · rw [if_neg hc, if_neg hc]
theorem actI_more (kn kn' : Int → Option Oc) (sg sg' : List Int) (i : Ins) (s : St) (hk : ∀ n o, kn n = some o → kn' n = some o) (hs : sg <+: sg') :
    actI kn' sg' i s = actI kn sg i s ∨ ((cnt (actI kn sg i s)).at_ = 2 ∧ kn (cnt (actI kn sg i s)).on = none) ∨ ((cnt (actI kn sg i s)).at_ = 3 ∧ sg.length ≤ s.sig) := by
  unfold actI
  split <;> try exact .inl rfl
  · unfold waitI
    by_cases hc : isCmd s (getR s i.b)
    · rw [if_pos hc, if_pos hc]
      cases h : kn (getR s i.b) with
      | none => exact .inr (.inl ⟨rfl, h⟩)
      | some o => rw [hk _ _ h]; exact .inl rfl
    · rw [if_neg hc, if_neg hc]; exact .inl rfl
  · unfold takeI
    cases h : sg[s.sig]? with
    | none => exact .inr (.inr ⟨rfl, by simpa using h⟩)
    | some v =>
      have : sg'[s.sig]? = some v := by
        obtain ⟨x, rfl⟩ := hs
        have hl := (List.getElem?_eq_some_iff.1 h).1
        rw [List.getElem?_append_left hl, h]
      rw [this]; exact .inl rfl
theorem step_more (kn kn' : Int → Option Oc) (sg sg' : List Int) (code : List Ins) (s : St) (hk : ∀ n o, kn n = some o → kn' n = some o) (hs : sg <+: sg') :
    step kn' sg' code s = step kn sg code s ∨ ((step kn sg code s).at_ = 2 ∧ kn (step kn sg code s).on = none) ∨ ((step kn sg code s).at_ = 3 ∧ sg.length ≤ s.sig) := by
  unfold step doI
  rcases actI_more kn kn' sg sg' (insAt code s.place) (s.go (s.place + 1)) hk hs with h | h | h
  · exact .inl (by rw [h])
  · exact .inr (.inl h)
  · exact .inr (.inr h)
theorem step_wait (kn : Int → Option Oc) (sg : List Int) (code : List Ins) (s : St) (h0 : s.at_ = 0) (h : (step kn sg code s).at_ = 2) : (insAt code s.place).op = 13 ∧ isCmd s (step kn sg code s).on ∧ (step kn sg code s).on = getR s (insAt code s.place).b ∧ kn (step kn sg code s).on = none := by
  revert h
  unfold step doI
  refine actI_cases kn sg _ _ (fun x => (cnt x).at_ = 2 → _ ∧ isCmd s (cnt x).on ∧ (cnt x).on = _ ∧ kn (cnt x).on = none) ?_ ?_ ?_ ?_ ?_ ?_ ?_
  all_goals simp only [St.go, cnt, h0]
  · intro r q h; simp at h
  · intro h h; simp at h
  · intro h r c h; simp at h
  · intro hop n h1 h2 h3 _; exact ⟨hop, h1, h2, h3⟩
  · intro h h; simp at h
  · intro h r h; simp at h
  · intro st v h; simp at h
theorem step_sign (kn : Int → Option Oc) (sg : List Int) (code : List Ins) (s : St) (h0 : s.at_ = 0) (h : (step kn sg code s).at_ = 3) : sg.length ≤ s.sig := by
  revert h
  unfold step doI
  refine actI_cases kn sg _ _ (fun x => (cnt x).at_ = 3 → sg.length ≤ s.sig) ?_ ?_ ?_ ?_ ?_ ?_ ?_
  all_goals simp only [St.go, cnt, h0]
  · intro r q h; simp at h
  · intro h h; simp at h
  · intro h r c h; simp at h
  · intro hop n h1 h2 h3 h; simp at h
  · intro h _; exact h
  · intro h r h; simp at h
  · intro st v h; simp at h

/-- what a run comes to with less told, and with more -/
theorem it_more (kn kn' : Int → Option Oc) (sg sg' : List Int) (code : List Ins) (hk : ∀ n o, kn n = some o → kn' n = some o) (hs : sg <+: sg') (k : Nat) (s : St) (h0 : s.at_ = 0) :
    (it kn' sg' code k s = it kn sg code k s ∨ (it kn sg code k s).at_ = 2 ∨ (it kn sg code k s).at_ = 3) ∧ Ext (it kn sg code k s) (it kn' sg' code k s) ∧
    ((it kn sg code k s).at_ = 2 → kn (it kn sg code k s).on = none) ∧ ((it kn sg code k s).at_ = 3 → sg.length ≤ (it kn sg code k s).sig) := by
  induction k generalizing s with
  | zero => exact ⟨.inl rfl, Ext.refl _, fun h => absurd (h0.symm.trans h) (by decide), fun h => absurd (h0.symm.trans h) (by decide)⟩
  | succ k ih =>
    obtain ⟨e', -⟩ := it_facts kn' sg' code (k + 1) s h0
    obtain ⟨e, s0, s1, s2, s3, s4, s5⟩ := step_ext kn sg code s h0
    have h22 := step_wait kn sg code s h0
    have h33 := step_sign kn sg code s h0
    rw [it, if_pos h0] at e' ⊢
    rw [it, if_pos h0]
    by_cases h : (step kn sg code s).at_ = 0
    · have hq : step kn' sg' code s = step kn sg code s := by
        rcases step_more kn kn' sg sg' code s hk hs with h' | h' | h'
        · exact h'
        · rw [h] at h'; cases h'.1
        · rw [h] at h'; cases h'.1
      rw [hq]
      exact ih _ h
    · rw [it_stood _ _ _ _ (step kn sg code s) h]
      have hext : (step kn sg code s).at_ = 2 ∨ (step kn sg code s).at_ = 3 → Ext (step kn sg code s) (it kn' sg' code k (step kn' sg' code s)) := fun h' => by
        obtain ⟨q1, q2, q3⟩ := s2 (by omega)
        exact ⟨by rw [q2]; exact e'.cmds, by rw [q3]; exact e'.sig, by rw [q1]; exact e'.steps⟩
      refine ⟨?_, ?_, fun h' => (h22 h').2.2.2, fun h' => ?_⟩
      · rcases step_more kn kn' sg sg' code s hk hs with h' | h' | h'
        · rw [h', it_stood _ _ _ _ _ h]; exact .inl rfl
        · exact .inr (.inl h'.1)
        · exact .inr (.inr h'.1)
      · rcases step_more kn kn' sg sg' code s hk hs with h' | h' | h'
        · rw [h', it_stood _ _ _ _ _ h]; exact Ext.refl _
        · exact hext (.inl h'.1)
        · exact hext (.inr h'.1)
      · have := (s2 (.inr (.inl h'))).2.2
        have := h33 h'
        omega
/-- outcomes of numbers that no command has say nothing -/
theorem it_order (kn kn' : Int → Option Oc) (sg : List Int) (code : List Ins) (hk : ∀ n, 1 ≤ n → n ≤ 200 → kn n = kn' n) (k : Nat) (s : St) (h0 : s.cmds.length ≤ 200) :
    it kn sg code k s = it kn' sg code k s := by
  induction k generalizing s with
  | zero => rfl
  | succ k ih =>
    by_cases h : s.at_ = 0
    · obtain ⟨e, s0, s1, s2, s3, s4, s5⟩ := step_ext kn' sg code s h
      have hq : step kn sg code s = step kn' sg code s := by
        unfold step doI
        rw [actI_kn kn kn' sg _ _ fun _ hc => hk _ hc.1 (Int.le_trans hc.2 (by show (s.cmds.length : Int) ≤ 200; omega))]
      rw [it, it, if_pos h, if_pos h, hq]
      exact ih _ (s4 h0)
    · rw [it_stood _ _ _ _ _ h, it_stood _ _ _ _ _ h]
/-- a run that waits for a number waits on, whatever else is told; told of that number it goes on -/
theorem it_waits (kn kn' : Int → Option Oc) (sg : List Int) (code : List Ins) (hk : ∀ n o, kn n = some o → kn' n = some o) (k : Nat) (s : St) (h0 : s.at_ = 0) (hw : (it kn sg code k s).at_ = 2) :
    (kn' (it kn sg code k s).on = none → it kn' sg code k s = it kn sg code k s) ∧ (∀ o, kn' (it kn sg code k s).on = some o → (it kn sg code k s).steps < (it kn' sg code k s).steps) := by
  induction k generalizing s with
  | zero => rw [it, h0] at hw; cases hw
  | succ k ih =>
    obtain ⟨e, s0, s1, s2, s3, s4, s5⟩ := step_ext kn sg code s h0
    have h22 := step_wait kn sg code s h0
    rw [it, if_pos h0] at hw ⊢
    rw [it, if_pos h0]
    by_cases h : (step kn sg code s).at_ = 0
    · have hq : step kn' sg code s = step kn sg code s := by
        rcases step_more kn kn' sg sg code s hk (List.prefix_refl _) with h' | h' | h'
        · exact h'
        · rw [h] at h'; cases h'.1
        · rw [h] at h'; cases h'.1
      rw [hq]
      exact ih _ h hw
    · rw [it_stood _ _ _ _ (step kn sg code s) h] at hw ⊢
      obtain ⟨hop, hc, hon, hn⟩ := h22 hw
      refine ⟨fun hnn => ?_, fun o ho => ?_⟩
      · have hq : step kn' sg code s = step kn sg code s := by
          unfold step doI
          rw [actI_kn kn' kn sg _ _ fun _ _ => ?_]
          show kn' (getR s _) = kn (getR s _)
          rw [← hon, hn, hnn]
        rw [hq, it_stood _ _ _ _ _ h]
      · have hq : (step kn' sg code s).at_ = 0 ∧ (step kn' sg code s).steps = s.steps + 1 := by
          have hop' := hop
          rw [hon] at ho hc
          unfold step doI actI
          rw [hop]
          simp only [waitI]
          have h1 : isCmd (s.go (s.place + 1)) (getR (s.go (s.place + 1)) (insAt code s.place).b) := hc
          have h2 : kn' (getR (s.go (s.place + 1)) (insAt code s.place).b) = some o := ho
          rw [if_pos h1, h2]
          exact ⟨h0, rfl⟩
        obtain ⟨e', -⟩ := it_facts kn' sg code k _ hq.1
        have := e'.steps
        have := (s2 (.inl hw)).1
        omega
theorem fin_at (s : St) : fin s = s ∨ fin s = { s with at_ := 4 } ∧ s.at_ = 0 := by
  unfold fin
  by_cases h : s.at_ = 0
  · rw [if_pos h]; exact .inr ⟨rfl, h⟩
  · rw [if_neg h]; exact .inl rfl
theorem knOf_more (l : List (Int × Oc)) (k : Nat) (n : Int) (o : Oc) (h : knOf (l.take k) n = some o) : knOf l n = some o := by
  unfold knOf at h ⊢
  cases hf : (l.take k).find? (fun k => k.1 == n) with
  | none => rw [hf] at h; cases h
  | some x =>
    rw [hf] at h
    have e : l = l.take k ++ l.drop k := (List.take_append_drop _ _).symm
    rw [e, List.find?_append, hf]
    exact h
end Go.Proofs.YtlngeonfabahnaaDoor
