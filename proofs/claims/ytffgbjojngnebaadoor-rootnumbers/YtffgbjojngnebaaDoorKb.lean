/-
  The root of a disk, and what Write does to it: plain functions and lemmas, with no walk. Own work.
-/
import Derived.Test.YtffgbjojngnebaaDoorKa
import Derived.Test.YtffgbjojngnebaaDoorQr
namespace Go.Proofs.YtffgbjojngnebaaDoor
open Go.RowKit

def nNew : ByteArray := ⟨#[114, 111, 111, 116, 46, 110, 101, 119]⟩
def nR0 : ByteArray := ⟨#[114, 111, 111, 116, 48]⟩
def nR1 : ByteArray := ⟨#[114, 111, 111, 116, 49]⟩
def standR (D : AD) (n : ByteArray) : AR := (parseR (readD D n).1).1
def newest (a b : AR) : AR := if a.serial < b.serial then b else a
def rootD (D : AD) : AR := newest (newest noR (standR D nR0)) (standR D nR1)
/-- the root of a disk, whether there is one, what went wrong -/
def readR (D : AD) : AR × Bool × Nat := if D.dark = true then (noR, false, 15) else (rootD D, decide (0 < (rootD D).serial), 0)
/-- the file of a name gets these bytes -/
def placeR (D : AD) (n : ByteArray) (b : List UInt8) : AD × Nat :=
  if (removeD D nNew).2 ≠ 0 ∧ (removeD D nNew).2 ≠ 16 then removeD D nNew
  else if (appendD (removeD D nNew).1 nNew b).2 ≠ 0 then appendD (removeD D nNew).1 nNew b
  else if (syncD (appendD (removeD D nNew).1 nNew b).1 nNew).2 ≠ 0 then syncD (appendD (removeD D nNew).1 nNew b).1 nNew
  else renameD (syncD (appendD (removeD D nNew).1 nNew b).1 nNew).1 nNew n
def nameR (s : Int) : ByteArray := if s % 2 = 0 then nR0 else nR1
/-- the next root of a disk -/
def nextR (D : AD) (b : Int) (l : List UInt8) : AR := ⟨(rootD D).serial + 1, b, l⟩
def writeR (D : AD) (b : Int) (l : List UInt8) : AD × AR × Nat :=
  if D.dark = true then (D, noR, 15)
  else if isR (nextR D b l) = false then (D, noR, 2)
  else if (placeR D (nameR (nextR D b l).serial) (frameL (bodyR (nextR D b l)))).2 ≠ 0 then ((placeR D (nameR (nextR D b l).serial) (frameL (bodyR (nextR D b l)))).1, noR, (placeR D (nameR (nextR D b l).serial) (frameL (bodyR (nextR D b l)))).2)
  else ((placeR D (nameR (nextR D b l).serial) (frameL (bodyR (nextR D b l)))).1, nextR D b l, 0)

theorem stand_range (D : AD) (n : ByteArray) : standR D n = noR ∨ 1 ≤ (standR D n).serial ∧ (standR D n).serial ≤ 1099511627776 := by
  unfold standR
  rcases parse_serial (readD D n).1 with h | h
  · left; rw [h]
  · exact .inr h
theorem rootD_range (D : AD) : 0 ≤ (rootD D).serial ∧ (rootD D).serial ≤ 1099511627776 := by
  have h0 := stand_range D nR0
  have h1 := stand_range D nR1
  have hz : noR.serial = 0 := rfl
  unfold rootD newest
  rcases h0 with h0 | h0 <;> rcases h1 with h1 | h1 <;> (try rw [h0]) <;> (try rw [h1]) <;> split <;> (try split) <;> omega

/-- the files of a disk that roots are written to: root.new, root0, root1 -/
def ent (n : ByteArray) (t : Option (List UInt8 × Nat)) : List AF := match t with
  | some p => [⟨n, p.1, p.2⟩]
  | none => []
def fs3 (t x y : Option (List UInt8 × Nat)) : List AF := ent nNew t ++ (ent nR0 x ++ ent nR1 y)
def szO (t : Option (List UInt8 × Nat)) : Nat := match t with
  | some p => p.1.length
  | none => 0
def dec (fu : Int) : Int := if 0 < fu then fu - 1 else fu
theorem used3 (t x y : Option (List UInt8 × Nat)) : used (fs3 t x y) = szO t + (szO x + szO y) := by
  cases t <;> cases x <;> cases y <;> simp [fs3, ent, used, szO]
theorem len3 (t x y : Option (List UInt8 × Nat)) : (fs3 t x y).length ≤ 3 := by
  cases t <;> cases x <;> cases y <;> simp [fs3, ent]
theorem rm_none (x y : Option (List UInt8 × Nat)) (m : Nat) (fu : Int) : removeD ⟨fs3 none x y, m, fu, false⟩ nNew = (⟨fs3 none x y, m, fu, false⟩, 16) := by
  cases x <;> cases y <;> rfl
theorem rm_zero (t : List UInt8 × Nat) (x y : Option (List UInt8 × Nat)) (m : Nat) : removeD ⟨fs3 (some t) x y, m, 0, false⟩ nNew = (⟨fs3 (some t) x y, m, -1, true⟩, 15) := by
  cases x <;> cases y <;> rfl
theorem rm_some (t : List UInt8 × Nat) (x y : Option (List UInt8 × Nat)) (m : Nat) (fu : Int) (h : fu ≠ 0) : removeD ⟨fs3 (some t) x y, m, fu, false⟩ nNew = (⟨fs3 none x y, m, dec fu, false⟩, 0) := by
  unfold removeD burn
  rw [if_neg (by simp), if_neg (by cases x <;> cases y <;> simp [show isF (fs3 (some t) none none) nNew = true from rfl, show ∀ b, isF (fs3 (some t) none (some b)) nNew = true from fun _ => rfl, show ∀ a, isF (fs3 (some t) (some a) none) nNew = true from fun _ => rfl, show ∀ a b, isF (fs3 (some t) (some a) (some b)) nNew = true from fun _ _ => rfl]), if_neg h]
  cases x <;> cases y <;> rfl
theorem app_zero (x y : Option (List UInt8 × Nat)) (m : Nat) (b : List UInt8) (hm : szO x + szO y + b.length ≤ m) : appendD ⟨fs3 none x y, m, 0, false⟩ nNew b = (⟨fs3 none x y, m, -1, true⟩, 15) := by
  have h1 := used3 none x y
  have h2 := len3 none x y
  have h3 : szO none = 0 := rfl
  unfold appendD
  rw [if_neg (by simp), if_neg (by simp [show right nNew = true by kernel_rfl]), if_neg (by simp only; omega)]
  rfl
theorem app_some (x y : Option (List UInt8 × Nat)) (m : Nat) (fu : Int) (b : List UInt8) (h : fu ≠ 0) (hm : szO x + szO y + b.length ≤ m) : appendD ⟨fs3 none x y, m, fu, false⟩ nNew b = (⟨fs3 (some (b, 0)) x y, m, dec fu, false⟩, 0) := by
  have h1 := used3 none x y
  have h2 := len3 none x y
  have h3 : szO none = 0 := rfl
  unfold appendD
  rw [if_neg (by simp), if_neg (by simp [show right nNew = true by kernel_rfl]), if_neg (by simp only; omega)]
  unfold burn
  rw [if_neg h]
  cases x <;> cases y <;> rfl
theorem is_new (t : List UInt8 × Nat) (x y : Option (List UInt8 × Nat)) : isF (fs3 (some t) x y) nNew = true := by
  cases x <;> cases y <;> rfl
theorem sy_zero (t : List UInt8 × Nat) (x y : Option (List UInt8 × Nat)) (m : Nat) : syncD ⟨fs3 (some t) x y, m, 0, false⟩ nNew = (⟨fs3 (some t) x y, m, -1, true⟩, 15) := by
  unfold syncD burn
  rw [if_neg (by simp), if_neg (by simp [is_new])]
  rfl
theorem sy_some (t : List UInt8 × Nat) (x y : Option (List UInt8 × Nat)) (m : Nat) (fu : Int) (h : fu ≠ 0) : syncD ⟨fs3 (some t) x y, m, fu, false⟩ nNew = (⟨fs3 (some (t.1, t.1.length)) x y, m, dec fu, false⟩, 0) := by
  unfold syncD burn
  rw [if_neg (by simp), if_neg (by simp [is_new]), if_neg h]
  cases x <;> cases y <;> rfl
/-- the two files, one of them with other bytes -/
def setX (n : ByteArray) (b : List UInt8 × Nat) (x : Option (List UInt8 × Nat)) : Option (List UInt8 × Nat) := if n = nR0 then some b else x
def setY (n : ByteArray) (b : List UInt8 × Nat) (y : Option (List UInt8 × Nat)) : Option (List UInt8 × Nat) := if n = nR0 then y else some b
theorem rn_zero (t : List UInt8 × Nat) (x y : Option (List UInt8 × Nat)) (m : Nat) (n : ByteArray) (hn : n = nR0 ∨ n = nR1) : renameD ⟨fs3 (some t) x y, m, 0, false⟩ nNew n = (⟨fs3 (some t) x y, m, -1, true⟩, 15) := by
  have hr : right n = true := by rcases hn with rfl | rfl <;> kernel_rfl
  unfold renameD burn
  rw [if_neg (by simp), if_neg (by simp [is_new]), if_neg (by simp [hr])]
  rfl
theorem nR_ne : ¬ nR1 = nR0 := by decide
theorem rn_some (t : List UInt8 × Nat) (x y : Option (List UInt8 × Nat)) (m : Nat) (fu : Int) (h : fu ≠ 0) (n : ByteArray) (hn : n = nR0 ∨ n = nR1) : renameD ⟨fs3 (some t) x y, m, fu, false⟩ nNew n = (⟨fs3 none (setX n t x) (setY n t y), m, dec fu, false⟩, 0) := by
  have hr : right n = true := by rcases hn with rfl | rfl <;> kernel_rfl
  unfold renameD burn setX setY
  rw [if_neg (by simp), if_neg (by simp [is_new]), if_neg (by simp [hr]), if_neg h]
  rcases hn with rfl | rfl
  · rw [if_pos rfl, if_pos rfl]
    cases x <;> cases y <;> rfl
  · rw [if_neg nR_ne, if_neg nR_ne]
    cases x <;> cases y <;> rfl
/-- what comes of the bytes: they are placed, or the power fails, and the two files are as they were -/
theorem place3 (t x y : Option (List UInt8 × Nat)) (m : Nat) (fu : Int) (n : ByteArray) (b : List UInt8) (hn : n = nR0 ∨ n = nR1) (hm : szO x + szO y + b.length ≤ m) (hfu : -1 ≤ fu) :
    (∃ t', placeR ⟨fs3 t x y, m, fu, false⟩ n b = (⟨fs3 t' x y, m, -1, true⟩, 15) ∧ 0 ≤ fu ∧ (t' = t ∨ t' = none ∨ t' = some (b, 0) ∨ t' = some (b, b.length))) ∨
    ∃ fu', placeR ⟨fs3 t x y, m, fu, false⟩ n b = (⟨fs3 none (setX n (b, b.length) x) (setY n (b, b.length) y), m, fu', false⟩, 0) ∧ (fu = -1 → fu' = -1) ∧ -1 ≤ fu' := by
  have tail : ∀ fu : Int, -1 ≤ fu → ∀ R : AD × Nat, (R.2 = 0 ∨ R.2 = 16) → R.1 = ⟨fs3 none x y, m, fu, false⟩ →
      (∃ t', (if R.2 ≠ 0 ∧ R.2 ≠ 16 then R else if (appendD R.1 nNew b).2 ≠ 0 then appendD R.1 nNew b else if (syncD (appendD R.1 nNew b).1 nNew).2 ≠ 0 then syncD (appendD R.1 nNew b).1 nNew else renameD (syncD (appendD R.1 nNew b).1 nNew).1 nNew n) = (⟨fs3 t' x y, m, -1, true⟩, 15) ∧ 0 ≤ fu ∧ (t' = none ∨ t' = some (b, 0) ∨ t' = some (b, b.length))) ∨
      ∃ fu', (if R.2 ≠ 0 ∧ R.2 ≠ 16 then R else if (appendD R.1 nNew b).2 ≠ 0 then appendD R.1 nNew b else if (syncD (appendD R.1 nNew b).1 nNew).2 ≠ 0 then syncD (appendD R.1 nNew b).1 nNew else renameD (syncD (appendD R.1 nNew b).1 nNew).1 nNew n) = (⟨fs3 none (setX n (b, b.length) x) (setY n (b, b.length) y), m, fu', false⟩, 0) ∧ (fu = -1 → fu' = -1) ∧ -1 ≤ fu' := by
    intro fu hfu R h1 h2
    rw [if_neg (by omega), h2]
    by_cases h0 : fu = 0
    · subst h0
      rw [app_zero x y m b hm, if_pos (by simp)]
      exact .inl ⟨none, rfl, by omega, .inl rfl⟩
    · rw [app_some x y m fu b h0 hm, if_neg (by simp)]
      have hd : dec fu = -1 ∧ fu = -1 ∨ 0 ≤ dec fu ∧ 0 < fu := by unfold dec; split <;> omega
      by_cases h0' : dec fu = 0
      · rw [h0', sy_zero, if_pos (by simp)]
        exact .inl ⟨_, rfl, by omega, .inr (.inl rfl)⟩
      · rw [sy_some _ _ _ _ _ h0', if_neg (by simp)]
        have hd2 : dec (dec fu) = -1 ∧ fu = -1 ∨ 0 ≤ dec (dec fu) ∧ 0 < fu := by
          rcases hd with ⟨e1, e2⟩ | ⟨e1, e2⟩
          · left; rw [e1]; exact ⟨rfl, e2⟩
          · right; refine ⟨?_, e2⟩; unfold dec at h0' e1 ⊢; split <;> split <;> omega
        by_cases h0'' : dec (dec fu) = 0
        · rw [h0'', rn_zero _ _ _ _ _ hn]
          exact .inl ⟨_, rfl, by omega, .inr (.inr rfl)⟩
        · rw [rn_some _ _ _ _ _ h0'' _ hn]
          refine .inr ⟨_, rfl, fun e => ?_, ?_⟩
          · subst e; rfl
          · unfold dec at h0'' ⊢
            rcases hd2 with ⟨e1, e2⟩ | ⟨e1, e2⟩
            · subst e2; decide
            · unfold dec at e1; split <;> omega
  unfold placeR
  cases t with
  | none =>
    rcases tail fu hfu (removeD ⟨fs3 none x y, m, fu, false⟩ nNew) (by rw [rm_none]; simp) (by rw [rm_none]) with ⟨t', e, h1, h2⟩ | h
    · exact .inl ⟨t', e, h1, .inr h2⟩
    · exact .inr h
  | some t =>
    by_cases h0 : fu = 0
    · subst h0
      left
      refine ⟨some t, ?_, by omega, .inl rfl⟩
      rw [rm_zero, if_pos (by simp)]
    · have hd : dec fu = -1 ∧ fu = -1 ∨ 0 ≤ dec fu ∧ 0 < fu := by unfold dec; split <;> omega
      rcases tail (dec fu) (by omega) (removeD ⟨fs3 (some t) x y, m, fu, false⟩ nNew) (by rw [rm_some _ _ _ _ _ h0]; simp) (by rw [rm_some _ _ _ _ _ h0]) with ⟨t', e, h1, h2⟩ | ⟨fu', e, h1, h2⟩
      · exact .inl ⟨t', e, by omega, .inr h2⟩
      · exact .inr ⟨fu', e, fun e => h1 (by omega), h2⟩

/-- the root that a file has -/
def rtO (x : Option (List UInt8 × Nat)) : AR := match x with
  | some p => (parseR p.1).1
  | none => noR
theorem read_0 (t x y : Option (List UInt8 × Nat)) (m : Nat) (fu : Int) : readD ⟨fs3 t x y, m, fu, false⟩ nR0 = match x with | some p => (p.1, 0) | none => ([], 16) := by
  cases t <;> cases x <;> cases y <;> rfl
theorem read_1 (t x y : Option (List UInt8 × Nat)) (m : Nat) (fu : Int) : readD ⟨fs3 t x y, m, fu, false⟩ nR1 = match y with | some p => (p.1, 0) | none => ([], 16) := by
  cases t <;> cases x <;> cases y <;> rfl
theorem root3 (t x y : Option (List UInt8 × Nat)) (m : Nat) (fu : Int) : rootD ⟨fs3 t x y, m, fu, false⟩ = newest (newest noR (rtO x)) (rtO y) := by
  unfold rootD standR
  rw [read_0, read_1]
  cases x <;> cases y <;> simp only [rtO, parse_nil]
end Go.Proofs.YtffgbjojngnebaaDoor
