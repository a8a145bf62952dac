/-
  What a disk is: plain functions and lemmas, with no walk. Own work.
-/
import Derived.WalkKit
import Derived.Lib.Bytealg
namespace Go.Proofs.Ytloigepmmhcibaa

/-- how one name stands to another -/
def cmpB (a b : ByteArray) : Int := Lib.compareBytes a.data.toList b.data.toList

theorem cmpL_self (a : List UInt8) : Lib.compareBytes a a = 0 := by
  induction a with
  | nil => rfl
  | cons x t ih => simp [Lib.compareBytes, ih]
theorem cmpL_zero (a b : List UInt8) (h : Lib.compareBytes a b = 0) : a = b := by
  induction a generalizing b with
  | nil => cases b with
    | nil => rfl
    | cons y t => simp [Lib.compareBytes] at h
  | cons x t ih => cases b with
    | nil => simp [Lib.compareBytes] at h
    | cons y u =>
      rw [Lib.compareBytes] at h
      split at h
      · simp at h
      · split at h
        · simp at h
        · rename_i h1 h2
          have : x = y := UInt8.le_antisymm (UInt8.not_lt.1 h2) (UInt8.not_lt.1 h1)
          rw [this, ih u h]
theorem cmpL_anti (a b : List UInt8) : Lib.compareBytes a b = - Lib.compareBytes b a := by
  induction a generalizing b with
  | nil => cases b <;> simp [Lib.compareBytes]
  | cons x t ih => cases b with
    | nil => simp [Lib.compareBytes]
    | cons y u =>
      rw [Lib.compareBytes, Lib.compareBytes]
      by_cases h : x < y
      · have : ¬ y < x := UInt8.not_lt.2 (UInt8.le_of_lt h)
        simp [h, this]
      · by_cases h2 : y < x
        · simp [h, h2]
        · simp only [h, h2, if_false]; exact ih u
theorem cmpL_trans (a b c : List UInt8) (h : Lib.compareBytes a b < 0) (k : Lib.compareBytes b c < 0) : Lib.compareBytes a c < 0 := by
  induction a generalizing b c with
  | nil => cases c with
    | nil => cases b <;> simp [Lib.compareBytes] at h k
    | cons z v => simp [Lib.compareBytes]
  | cons x t ih => cases b with
    | nil => simp [Lib.compareBytes] at h
    | cons y u => cases c with
      | nil => simp [Lib.compareBytes] at k
      | cons z v =>
        rw [Lib.compareBytes] at h k ⊢
        by_cases h1 : x < y
        · by_cases k1 : y < z
          · rw [if_pos (UInt8.lt_trans h1 k1)]; decide
          · rw [if_neg k1] at k
            by_cases k2 : z < y
            · rw [if_pos k2] at k; simp at k
            · have : y = z := UInt8.le_antisymm (UInt8.not_lt.1 k2) (UInt8.not_lt.1 k1)
              rw [← this, if_pos h1]; decide
        · rw [if_neg h1] at h
          by_cases h2 : y < x
          · rw [if_pos h2] at h; simp at h
          · rw [if_neg h2] at h
            have e : x = y := UInt8.le_antisymm (UInt8.not_lt.1 h2) (UInt8.not_lt.1 h1)
            subst e
            by_cases k1 : x < z
            · rw [if_pos k1]; decide
            · rw [if_neg k1] at k ⊢
              by_cases k2 : z < x
              · rw [if_pos k2] at k; simp at k
              · rw [if_neg k2] at k ⊢
                exact ih u v h k

theorem cmpB_self (a : ByteArray) : cmpB a a = 0 := cmpL_self _
theorem cmpB_zero {a b : ByteArray} (h : cmpB a b = 0) : a = b := by
  have := cmpL_zero _ _ h
  obtain ⟨⟨la⟩⟩ := a
  obtain ⟨⟨lb⟩⟩ := b
  simp at this
  rw [this]
theorem cmpB_anti (a b : ByteArray) : cmpB a b = - cmpB b a := cmpL_anti _ _
theorem cmpB_trans {a b c : ByteArray} (h : cmpB a b < 0) (k : cmpB b c < 0) : cmpB a c < 0 := cmpL_trans _ _ _ h k
theorem cmpL_range (a b : List UInt8) : -1 ≤ Lib.compareBytes a b ∧ Lib.compareBytes a b ≤ 1 := by
  induction a generalizing b with
  | nil => cases b <;> simp [Lib.compareBytes]
  | cons x t ih => cases b with
    | nil => simp [Lib.compareBytes]
    | cons y u =>
      rw [Lib.compareBytes]
      split
      · simp
      · split
        · simp
        · exact ih u
theorem cmpB_range (a b : ByteArray) : -1 ≤ cmpB a b ∧ cmpB a b ≤ 1 := cmpL_range _ _

/-- a file: its name, its bytes, how many of them are safe -/
structure AF where
  name : ByteArray
  bytes : List UInt8
  safe : Nat
/-- a disk: its files, how many bytes there may be, the fuse (below 0: none), whether it is dark -/
structure AD where
  files : List AF
  most : Nat
  fuse : Int
  dark : Bool

def sorted (fs : List AF) : Prop := fs.Pairwise fun f g => cmpB f.name g.name < 0
/-- the place of a name -/
def posF (fs : List AF) (n : ByteArray) : Nat := fs.findIdx fun f => decide (0 ≤ cmpB f.name n)
def isF (fs : List AF) (n : ByteArray) : Bool := match fs[posF fs n]? with
  | some f => cmpB f.name n == 0
  | none => false

theorem posF_le (fs : List AF) (n : ByteArray) : posF fs n ≤ fs.length := List.findIdx_le_length
theorem posF_eq (fs : List AF) (n : ByteArray) (i : Nat) (hi : i ≤ fs.length) (h1 : ∀ k (h : k < fs.length), k < i → cmpB fs[k].name n < 0) (h2 : ∀ (h : i < fs.length), 0 ≤ cmpB fs[i].name n) : posF fs n = i := by
  unfold posF
  by_cases hl : i < fs.length
  · rw [List.findIdx_eq hl]
    refine ⟨by simpa using h2 hl, fun j hj => ?_⟩
    have := h1 j (by omega) hj
    simp
    omega
  · have : i = fs.length := by omega
    subst this
    rw [List.findIdx_eq_length]
    intro x hx
    obtain ⟨k, hk, rfl⟩ := List.mem_iff_getElem.1 hx
    have := h1 k hk hk
    simp
    omega
theorem posF_below (fs : List AF) (n : ByteArray) (k : Nat) (hk : k < posF fs n) (h : k < fs.length) : cmpB fs[k].name n < 0 := by
  have := List.not_of_lt_findIdx hk
  simp at this
  omega
theorem posF_at (fs : List AF) (n : ByteArray) (h : posF fs n < fs.length) : 0 ≤ cmpB fs[posF fs n].name n := by
  have := List.findIdx_getElem (w := h)
  exact of_decide_eq_true this
theorem sorted_lt {fs : List AF} (hs : sorted fs) (i j : Nat) (hj : j < fs.length) (hij : i < j) : cmpB fs[i].name fs[j].name < 0 := List.pairwise_iff_getElem.1 hs i j (by omega) hj hij
theorem isF_lt {fs : List AF} {n : ByteArray} (h : isF fs n = true) : ∃ hl : posF fs n < fs.length, fs[posF fs n].name = n := by
  unfold isF at h
  split at h
  · rename_i f hf
    obtain ⟨hl, rfl⟩ := List.getElem?_eq_some_iff.1 hf
    exact ⟨hl, cmpB_zero (by simpa using h)⟩
  · simp at h
theorem isF_of {fs : List AF} {n : ByteArray} (hs : sorted fs) (i : Nat) (hi : i < fs.length) (h : fs[i].name = n) : isF fs n = true ∧ posF fs n = i := by
  have e : posF fs n = i := posF_eq fs n i (by omega) (fun k hk hki => by rw [← h]; exact sorted_lt hs k i hi hki) (fun _ => by rw [h, cmpB_self]; decide)
  refine ⟨?_, e⟩
  unfold isF
  rw [e, List.getElem?_eq_getElem hi]
  simp [h, cmpB_self]
theorem isF_false {fs : List AF} {n : ByteArray} (hs : sorted fs) (h : isF fs n = false) : ∀ f ∈ fs, f.name ≠ n := by
  intro f hf e
  obtain ⟨i, hi, rfl⟩ := List.mem_iff_getElem.1 hf
  have := (isF_of hs i hi e).1
  rw [h] at this
  cases this
/-- behind the place, and at it where there is no such file, names are greater -/
theorem posF_above {fs : List AF} {n : ByteArray} (hs : sorted fs) (k : Nat) (hk : k < fs.length) (hp : posF fs n < k ∨ posF fs n ≤ k ∧ isF fs n = false) : 0 < cmpB fs[k].name n := by
  have h0 : ∀ (h : posF fs n < fs.length), 0 ≤ cmpB fs[posF fs n].name n := posF_at fs n
  rcases hp with hp | ⟨hp, hf⟩
  · have h1 := sorted_lt hs (posF fs n) k hk hp
    have h2 := h0 (by omega)
    by_cases e : cmpB fs[posF fs n].name n = 0
    · have := cmpB_zero e
      rw [this] at h1
      have := cmpB_anti n fs[k].name
      omega
    · have h3 : cmpB n fs[posF fs n].name < 0 := by have := cmpB_anti n fs[posF fs n].name; omega
      have := cmpB_trans h3 h1
      have := cmpB_anti n fs[k].name
      omega
  · by_cases e : posF fs n = k
    · subst e
      have h2 := h0 hk
      have hne := isF_false hs hf _ (List.getElem_mem hk)
      have : cmpB fs[posF fs n].name n ≠ 0 := fun h => hne (cmpB_zero h)
      omega
    · have h1 := sorted_lt hs (posF fs n) k hk (by omega)
      have h2 := h0 (by omega)
      by_cases e : cmpB fs[posF fs n].name n = 0
      · have := cmpB_zero e
        rw [this] at h1
        have := cmpB_anti n fs[k].name
        omega
      · have h3 : cmpB n fs[posF fs n].name < 0 := by have := cmpB_anti n fs[posF fs n].name; omega
        have := cmpB_trans h3 h1
        have := cmpB_anti n fs[k].name
        omega

/-- a file laid down at its place -/
def putF (fs : List AF) (f : AF) : List AF := fs.take (posF fs f.name) ++ f :: fs.drop (if isF fs f.name then posF fs f.name + 1 else posF fs f.name)
def dropF (fs : List AF) (i : Nat) : List AF := fs.take i ++ fs.drop (i + 1)

theorem sorted_dropF {fs : List AF} (hs : sorted fs) (i : Nat) : sorted (dropF fs i) := by
  unfold sorted dropF
  rw [← List.eraseIdx_eq_take_drop_succ]
  exact hs.sublist (List.eraseIdx_sublist ..)
theorem sorted_putF {fs : List AF} (hs : sorted fs) (f : AF) : sorted (putF fs f) := by
  unfold sorted putF
  obtain ⟨p, hp⟩ : ∃ p, p = posF fs f.name := ⟨_, rfl⟩
  obtain ⟨q, hq⟩ : ∃ q, q = (if isF fs f.name then posF fs f.name + 1 else posF fs f.name) := ⟨_, rfl⟩
  have hab : ∀ k (h : k < fs.length), q ≤ k → cmpB f.name fs[k].name < 0 := by
    intro k h hk
    have := posF_above hs (n := f.name) k h (by
      rw [hq] at hk
      split at hk
      · left; omega
      · rename_i hh; right; exact ⟨hk, by simpa using hh⟩)
    have := cmpB_anti f.name fs[k].name
    omega
  have hbe : ∀ k (h : k < fs.length), k < p → cmpB fs[k].name f.name < 0 := fun k h hk => posF_below fs f.name k (by omega) h
  rw [← hq, ← hp]
  have hpq : p ≤ q := by rw [hp, hq]; split <;> omega
  rw [List.pairwise_append, List.pairwise_cons]
  refine ⟨hs.sublist (List.take_sublist ..), ⟨fun a ha => ?_, hs.sublist (List.drop_sublist ..)⟩, fun a ha b hb => ?_⟩
  · obtain ⟨k, hk, rfl⟩ := List.mem_iff_getElem.1 ha
    rw [List.getElem_drop]
    exact hab _ _ (by omega)
  · obtain ⟨k, hk, rfl⟩ := List.mem_iff_getElem.1 ha
    rw [List.getElem_take]
    simp only [List.length_take] at hk
    have hb1 := hbe k (by omega) (by omega)
    rcases List.mem_cons.1 hb with rfl | hb
    · exact hb1
    · obtain ⟨j, hj, rfl⟩ := List.mem_iff_getElem.1 hb
      rw [List.getElem_drop]
      exact cmpB_trans hb1 (hab _ _ (by omega))

def used (fs : List AF) : Nat := (fs.map fun f => f.bytes.length).sum

def inName (x : UInt8) : Bool := (97 ≤ x && x ≤ 122) || (48 ≤ x && x ≤ 57) || x == 46 || x == 45
def right (n : ByteArray) : Bool := decide (1 ≤ n.size) && decide (n.size ≤ 60) && n.data.toList.all inName

def fails (D : AD) : Nat := if D.dark then 15 else 0
/-- a deed's way through the fuse -/
def burn (D : AD) (g : List AF → List AF) : AD × Nat :=
  if D.fuse = 0 then ({ D with dark := true, fuse := -1 }, 15)
  else ({ D with fuse := if 0 < D.fuse then D.fuse - 1 else D.fuse, files := g D.files }, 0)
/-- the file of a name; without anything where there is none -/
def lookF (fs : List AF) (n : ByteArray) : AF := if isF fs n then fs.getD (posF fs n) ⟨⟨#[]⟩, [], 0⟩ else ⟨⟨#[]⟩, [], 0⟩
def appF (n : ByteArray) (b : List UInt8) (fs : List AF) : List AF := putF fs ⟨n, (lookF fs n).bytes ++ b, (lookF fs n).safe⟩
def appendD (D : AD) (n : ByteArray) (b : List UInt8) : AD × Nat :=
  if D.dark then (D, 15) else if right n = false then (D, 16)
  else if D.most < used D.files + b.length ∨ isF D.files n = false ∧ D.files.length = 200 then (D, 5)
  else burn D (appF n b)
def syncF (n : ByteArray) (fs : List AF) : List AF := putF fs ⟨n, (lookF fs n).bytes, (lookF fs n).bytes.length⟩
def syncD (D : AD) (n : ByteArray) : AD × Nat := if D.dark then (D, 15) else if isF D.files n = false then (D, 16) else burn D (syncF n)
def renF (a b : ByteArray) (fs : List AF) : List AF := putF (dropF fs (posF fs a)) ⟨b, (lookF fs a).bytes, (lookF fs a).safe⟩
def renameD (D : AD) (a b : ByteArray) : AD × Nat := if D.dark then (D, 15) else if isF D.files a = false then (D, 16) else if right b = false then (D, 16) else burn D (renF a b)
def removeD (D : AD) (n : ByteArray) : AD × Nat := if D.dark then (D, 15) else if isF D.files n = false then (D, 16) else burn D fun fs => dropF fs (posF fs n)
def cutF (n : ByteArray) (k : Nat) (fs : List AF) : List AF := putF fs ⟨n, (lookF fs n).bytes.take k, k⟩
def cutD (D : AD) (n : ByteArray) (k : Int) : AD × Nat := if D.dark then (D, 15) else if isF D.files n = false then (D, 16) else if k < 0 ∨ ((lookF D.files n).bytes.length : Int) < k then (D, 2) else burn D (cutF n k.toNat)
def readD (D : AD) (n : ByteArray) : List UInt8 × Nat := if D.dark then ([], 15) else if isF D.files n = false then ([], 16) else ((lookF D.files n).bytes, 0)
def armD (D : AD) (n : Int) : AD := if D.dark then D else { D with fuse := max n 0 }
def toldL (l : List Int) (i : Nat) : Int := if i < l.length then max (l.getD i 0) 0 else 0
def keptN (f : AF) (keep : Int) : Nat := f.safe + (min keep ((f.bytes.length - f.safe : Nat) : Int)).toNat
def noughtsN (f : AF) (keep tear : Int) : Nat := (min tear (((min ((keptN f keep + 63) / 64 * 64) f.bytes.length) - keptN f keep : Nat) : Int)).toNat
def crashF (f : AF) (keep tear : Int) : AF := ⟨f.name, f.bytes.take (keptN f keep) ++ List.replicate (noughtsN f keep tear) 0, keptN f keep + noughtsN f keep tear⟩
def crashL (keeps torn : List Int) (fs : List AF) : List AF := fs.mapIdx fun i f => crashF f (toldL keeps i) (toldL torn i)
def crashD (D : AD) (keeps torn : List Int) : AD := { D with files := crashL keeps torn D.files, dark := false, fuse := -1 }
def newD (most : Nat) : AD := ⟨[], most, -1, false⟩

/-- what stays so, whatever is done -/
structure AD.ok (D : AD) : Prop where
  sorted : sorted D.files
  safe : ∀ f ∈ D.files, f.safe ≤ f.bytes.length
  room : used D.files ≤ D.most
  most : D.most ≤ 16777216
  many : D.files.length ≤ 200
  fuse : -1 ≤ D.fuse ∧ D.fuse ≤ 9223372036854775807

end Go.Proofs.Ytloigepmmhcibaa
