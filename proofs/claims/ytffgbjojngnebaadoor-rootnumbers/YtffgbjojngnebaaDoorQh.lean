/-
  What a disk is: plain functions and lemmas, with no walk. The contracts of slices.Grow (of nil) and slices.Concat. How a disk lies in memory: definitions and lemmas, with no walk. How a disk in memory changes: lemmas, with no walk. What stays so of a disk, whatever is done: plain lemmas, with no walk. The contracts of made, fails, Down, Arm. Own work.
-/
import Derived.WalkKit
import Derived.Lib.Bytealg
import Derived.Test.YtffgbjojngnebaaDoorQb
import Derived.Test.YtffgbjojngnebaaDoorQc
import Derived.Test.YtffgbjojngnebaaDoorRows
import Derived.WalkSpells
import Derived.WalkLawsBesides
import Derived.Handy
namespace Go.Proofs.YtffgbjojngnebaaDoor

/-- how one name stands to another -/
def cmpB (a b : ByteArray) : Int := Lib.compareBytes a.data.toList b.data.toList

theorem cmpL_self (a : List UInt8) : Lib.compareBytes a a = 0 := by
  induction a with
  | nil => rfl
  | cons x t ih => simp [Lib.compareBytes, ih]
theorem cmpL_zero (a b : List UInt8) (h : Lib.compareBytes a b = 0) : a = b := by
  induction a generalizing b with
  | nil => cases b with
    | nil => rfl
    | cons y t => simp [Lib.compareBytes] at h
  | cons x t ih => cases b with
    | nil => simp [Lib.compareBytes] at h
    | cons y u =>
      rw [Lib.compareBytes] at h
      split at h
      · simp at h
      · split at h
        · simp at h
        · rename_i h1 h2
          have : x = y := UInt8.le_antisymm (UInt8.not_lt.1 h2) (UInt8.not_lt.1 h1)
          rw [this, ih u h]
theorem cmpL_anti (a b : List UInt8) : Lib.compareBytes a b = - Lib.compareBytes b a := by
  induction a generalizing b with
  | nil => cases b <;> simp [Lib.compareBytes]
  | cons x t ih => cases b with
    | nil => simp [Lib.compareBytes]
    | cons y u =>
      rw [Lib.compareBytes, Lib.compareBytes]
      by_cases h : x < y
      · have : ¬ y < x := UInt8.not_lt.2 (UInt8.le_of_lt h)
        simp [h, this]
      · by_cases h2 : y < x
        · simp [h, h2]
        · simp only [h, h2, if_false]; exact ih u
theorem cmpL_trans (a b c : List UInt8) (h : Lib.compareBytes a b < 0) (k : Lib.compareBytes b c < 0) : Lib.compareBytes a c < 0 := by
  induction a generalizing b c with
  | nil => cases c with
    | nil => cases b <;> simp [Lib.compareBytes] at h k
    | cons z v => simp [Lib.compareBytes]
  | cons x t ih => cases b with
    | nil => simp [Lib.compareBytes] at h
    | cons y u => cases c with
      | nil => simp [Lib.compareBytes] at k
      | cons z v =>
        rw [Lib.compareBytes] at h k ⊢
        by_cases h1 : x < y
        · by_cases k1 : y < z
          · rw [if_pos (UInt8.lt_trans h1 k1)]; decide
          · rw [if_neg k1] at k
            by_cases k2 : z < y
            · rw [if_pos k2] at k; simp at k
            · have : y = z := UInt8.le_antisymm (UInt8.not_lt.1 k2) (UInt8.not_lt.1 k1)
              rw [← this, if_pos h1]; decide
        · rw [if_neg h1] at h
          by_cases h2 : y < x
          · rw [if_pos h2] at h; simp at h
          · rw [if_neg h2] at h
            have e : x = y := UInt8.le_antisymm (UInt8.not_lt.1 h2) (UInt8.not_lt.1 h1)
            subst e
            by_cases k1 : x < z
            · rw [if_pos k1]; decide
            · rw [if_neg k1] at k ⊢
              by_cases k2 : z < x
              · rw [if_pos k2] at k; simp at k
              · rw [if_neg k2] at k ⊢
                exact ih u v h k

theorem cmpB_self (a : ByteArray) : cmpB a a = 0 := cmpL_self _
theorem cmpB_zero {a b : ByteArray} (h : cmpB a b = 0) : a = b := by
  have := cmpL_zero _ _ h
  obtain ⟨⟨la⟩⟩ := a
  obtain ⟨⟨lb⟩⟩ := b
  simp at this
  rw [this]
theorem cmpB_anti (a b : ByteArray) : cmpB a b = - cmpB b a := cmpL_anti _ _
theorem cmpB_trans {a b c : ByteArray} (h : cmpB a b < 0) (k : cmpB b c < 0) : cmpB a c < 0 := cmpL_trans _ _ _ h k
theorem cmpL_range (a b : List UInt8) : -1 ≤ Lib.compareBytes a b ∧ Lib.compareBytes a b ≤ 1 := by
  induction a generalizing b with
  | nil => cases b <;> simp [Lib.compareBytes]
  | cons x t ih => cases b with
    | nil => simp [Lib.compareBytes]
    | cons y u =>
      rw [Lib.compareBytes]
      split
      · simp
      · split
        · simp
        · exact ih u
theorem cmpB_range (a b : ByteArray) : -1 ≤ cmpB a b ∧ cmpB a b ≤ 1 := cmpL_range _ _

/-- a file: its name, its bytes, how many of them are safe -/
structure AF where
  name : ByteArray
  bytes : List UInt8
  safe : Nat
/-- a disk: its files, how many bytes there may be, the fuse (below 0: none), whether it is dark -/
structure AD where
  files : List AF
  most : Nat
  fuse : Int
  dark : Bool

def sorted (fs : List AF) : Prop := fs.Pairwise fun f g => cmpB f.name g.name < 0
/-- the place of a name -/
def posF (fs : List AF) (n : ByteArray) : Nat := fs.findIdx fun f => decide (0 ≤ cmpB f.name n)
def isF (fs : List AF) (n : ByteArray) : Bool := match fs[posF fs n]? with
  | some f => cmpB f.name n == 0
  | none => false

theorem posF_le (fs : List AF) (n : ByteArray) : posF fs n ≤ fs.length := List.findIdx_le_length
theorem posF_eq (fs : List AF) (n : ByteArray) (i : Nat) (hi : i ≤ fs.length) (h1 : ∀ k (h : k < fs.length), k < i → cmpB fs[k].name n < 0) (h2 : ∀ (h : i < fs.length), 0 ≤ cmpB fs[i].name n) : posF fs n = i := by
  unfold posF
  by_cases hl : i < fs.length
  · rw [List.findIdx_eq hl]
    refine ⟨by simpa using h2 hl, fun j hj => ?_⟩
    have := h1 j (by omega) hj
    simp
    omega
  · have : i = fs.length := by omega
    subst this
    rw [List.findIdx_eq_length]
    intro x hx
    obtain ⟨k, hk, rfl⟩ := List.mem_iff_getElem.1 hx
    have := h1 k hk hk
    simp
    omega
theorem posF_below (fs : List AF) (n : ByteArray) (k : Nat) (hk : k < posF fs n) (h : k < fs.length) : cmpB fs[k].name n < 0 := by
  have := List.not_of_lt_findIdx hk
  simp at this
  omega
theorem posF_at (fs : List AF) (n : ByteArray) (h : posF fs n < fs.length) : 0 ≤ cmpB fs[posF fs n].name n := by
  have := List.findIdx_getElem (w := h)
  exact of_decide_eq_true this
theorem sorted_lt {fs : List AF} (hs : sorted fs) (i j : Nat) (hj : j < fs.length) (hij : i < j) : cmpB fs[i].name fs[j].name < 0 := List.pairwise_iff_getElem.1 hs i j (by omega) hj hij
theorem isF_lt {fs : List AF} {n : ByteArray} (h : isF fs n = true) : ∃ hl : posF fs n < fs.length, fs[posF fs n].name = n := by
  unfold isF at h
  split at h
  · rename_i f hf
    obtain ⟨hl, rfl⟩ := List.getElem?_eq_some_iff.1 hf
    exact ⟨hl, cmpB_zero (by simpa using h)⟩
  · simp at h
theorem isF_of {fs : List AF} {n : ByteArray} (hs : sorted fs) (i : Nat) (hi : i < fs.length) (h : fs[i].name = n) : isF fs n = true ∧ posF fs n = i := by
  have e : posF fs n = i := posF_eq fs n i (by omega) (fun k hk hki => by rw [← h]; exact sorted_lt hs k i hi hki) (fun _ => by rw [h, cmpB_self]; decide)
  refine ⟨?_, e⟩
  unfold isF
  rw [e, List.getElem?_eq_getElem hi]
  simp [h, cmpB_self]
theorem isF_false {fs : List AF} {n : ByteArray} (hs : sorted fs) (h : isF fs n = false) : ∀ f ∈ fs, f.name ≠ n := by
  intro f hf e
  obtain ⟨i, hi, rfl⟩ := List.mem_iff_getElem.1 hf
  have := (isF_of hs i hi e).1
  rw [h] at this
  cases this
/-- behind the place, and at it where there is no such file, names are greater -/
theorem posF_above {fs : List AF} {n : ByteArray} (hs : sorted fs) (k : Nat) (hk : k < fs.length) (hp : posF fs n < k ∨ posF fs n ≤ k ∧ isF fs n = false) : 0 < cmpB fs[k].name n := by
  have h0 : ∀ (h : posF fs n < fs.length), 0 ≤ cmpB fs[posF fs n].name n := posF_at fs n
  rcases hp with hp | ⟨hp, hf⟩
  · have h1 := sorted_lt hs (posF fs n) k hk hp
    have h2 := h0 (by omega)
    by_cases e : cmpB fs[posF fs n].name n = 0
    · have := cmpB_zero e
      rw [this] at h1
      have := cmpB_anti n fs[k].name
      omega
    · have h3 : cmpB n fs[posF fs n].name < 0 := by have := cmpB_anti n fs[posF fs n].name; omega
      have := cmpB_trans h3 h1
      have := cmpB_anti n fs[k].name
      omega
  · by_cases e : posF fs n = k
    · subst e
      have h2 := h0 hk
      have hne := isF_false hs hf _ (List.getElem_mem hk)
      have : cmpB fs[posF fs n].name n ≠ 0 := fun h => hne (cmpB_zero h)
      omega
    · have h1 := sorted_lt hs (posF fs n) k hk (by omega)
      have h2 := h0 (by omega)
      by_cases e : cmpB fs[posF fs n].name n = 0
      · have := cmpB_zero e
        rw [this] at h1
        have := cmpB_anti n fs[k].name
        omega
      · have h3 : cmpB n fs[posF fs n].name < 0 := by have := cmpB_anti n fs[posF fs n].name; omega
        have := cmpB_trans h3 h1
        have := cmpB_anti n fs[k].name
        omega

/-- a file laid down at its place -/
def putF (fs : List AF) (f : AF) : List AF := fs.take (posF fs f.name) ++ f :: fs.drop (if isF fs f.name then posF fs f.name + 1 else posF fs f.name)
def dropF (fs : List AF) (i : Nat) : List AF := fs.take i ++ fs.drop (i + 1)

theorem sorted_dropF {fs : List AF} (hs : sorted fs) (i : Nat) : sorted (dropF fs i) := by
  unfold sorted dropF
  rw [← List.eraseIdx_eq_take_drop_succ]
  exact hs.sublist (List.eraseIdx_sublist ..)
theorem sorted_putF {fs : List AF} (hs : sorted fs) (f : AF) : sorted (putF fs f) := by
  unfold sorted putF
  obtain ⟨p, hp⟩ : ∃ p, p = posF fs f.name := ⟨_, rfl⟩
  obtain ⟨q, hq⟩ : ∃ q, q = (if isF fs f.name then posF fs f.name + 1 else posF fs f.name) := ⟨_, rfl⟩
  have hab : ∀ k (h : k < fs.length), q ≤ k → cmpB f.name fs[k].name < 0 := by
    intro k h hk
    have := posF_above hs (n := f.name) k h (by
      rw [hq] at hk
      split at hk
      · left; omega
      · rename_i hh; right; exact ⟨hk, by simpa using hh⟩)
    have := cmpB_anti f.name fs[k].name
    omega
  have hbe : ∀ k (h : k < fs.length), k < p → cmpB fs[k].name f.name < 0 := fun k h hk => posF_below fs f.name k (by omega) h
  rw [← hq, ← hp]
  have hpq : p ≤ q := by rw [hp, hq]; split <;> omega
  rw [List.pairwise_append, List.pairwise_cons]
  refine ⟨hs.sublist (List.take_sublist ..), ⟨fun a ha => ?_, hs.sublist (List.drop_sublist ..)⟩, fun a ha b hb => ?_⟩
  · obtain ⟨k, hk, rfl⟩ := List.mem_iff_getElem.1 ha
    rw [List.getElem_drop]
    exact hab _ _ (by omega)
  · obtain ⟨k, hk, rfl⟩ := List.mem_iff_getElem.1 ha
    rw [List.getElem_take]
    simp only [List.length_take] at hk
    have hb1 := hbe k (by omega) (by omega)
    rcases List.mem_cons.1 hb with rfl | hb
    · exact hb1
    · obtain ⟨j, hj, rfl⟩ := List.mem_iff_getElem.1 hb
      rw [List.getElem_drop]
      exact cmpB_trans hb1 (hab _ _ (by omega))

def used (fs : List AF) : Nat := (fs.map fun f => f.bytes.length).sum

def inName (x : UInt8) : Bool := (97 ≤ x && x ≤ 122) || (48 ≤ x && x ≤ 57) || x == 46 || x == 45
def right (n : ByteArray) : Bool := decide (1 ≤ n.size) && decide (n.size ≤ 60) && n.data.toList.all inName

def fails (D : AD) : Nat := if D.dark then 15 else 0
/-- a deed's way through the fuse -/
def burn (D : AD) (g : List AF → List AF) : AD × Nat :=
  if D.fuse = 0 then ({ D with dark := true, fuse := -1 }, 15)
  else ({ D with fuse := if 0 < D.fuse then D.fuse - 1 else D.fuse, files := g D.files }, 0)
/-- the file of a name; without anything where there is none -/
def lookF (fs : List AF) (n : ByteArray) : AF := if isF fs n then fs.getD (posF fs n) ⟨⟨#[]⟩, [], 0⟩ else ⟨⟨#[]⟩, [], 0⟩
def appF (n : ByteArray) (b : List UInt8) (fs : List AF) : List AF := putF fs ⟨n, (lookF fs n).bytes ++ b, (lookF fs n).safe⟩
def appendD (D : AD) (n : ByteArray) (b : List UInt8) : AD × Nat :=
  if D.dark then (D, 15) else if right n = false then (D, 16)
  else if D.most < used D.files + b.length ∨ isF D.files n = false ∧ D.files.length = 200 then (D, 5)
  else burn D (appF n b)
def syncF (n : ByteArray) (fs : List AF) : List AF := putF fs ⟨n, (lookF fs n).bytes, (lookF fs n).bytes.length⟩
def syncD (D : AD) (n : ByteArray) : AD × Nat := if D.dark then (D, 15) else if isF D.files n = false then (D, 16) else burn D (syncF n)
def renF (a b : ByteArray) (fs : List AF) : List AF := putF (dropF fs (posF fs a)) ⟨b, (lookF fs a).bytes, (lookF fs a).safe⟩
def renameD (D : AD) (a b : ByteArray) : AD × Nat := if D.dark then (D, 15) else if isF D.files a = false then (D, 16) else if right b = false then (D, 16) else burn D (renF a b)
def removeD (D : AD) (n : ByteArray) : AD × Nat := if D.dark then (D, 15) else if isF D.files n = false then (D, 16) else burn D fun fs => dropF fs (posF fs n)
def cutF (n : ByteArray) (k : Nat) (fs : List AF) : List AF := putF fs ⟨n, (lookF fs n).bytes.take k, k⟩
def cutD (D : AD) (n : ByteArray) (k : Int) : AD × Nat := if D.dark then (D, 15) else if isF D.files n = false then (D, 16) else if k < 0 ∨ ((lookF D.files n).bytes.length : Int) < k then (D, 2) else burn D (cutF n k.toNat)
def readD (D : AD) (n : ByteArray) : List UInt8 × Nat := if D.dark then ([], 15) else if isF D.files n = false then ([], 16) else ((lookF D.files n).bytes, 0)
def armD (D : AD) (n : Int) : AD := if D.dark then D else { D with fuse := max n 0 }
def toldL (l : List Int) (i : Nat) : Int := if i < l.length then max (l.getD i 0) 0 else 0
def keptN (f : AF) (keep : Int) : Nat := f.safe + (min keep ((f.bytes.length - f.safe : Nat) : Int)).toNat
def noughtsN (f : AF) (keep tear : Int) : Nat := (min tear (((min ((keptN f keep + 63) / 64 * 64) f.bytes.length) - keptN f keep : Nat) : Int)).toNat
def crashF (f : AF) (keep tear : Int) : AF := ⟨f.name, f.bytes.take (keptN f keep) ++ List.replicate (noughtsN f keep tear) 0, keptN f keep + noughtsN f keep tear⟩
def crashL (keeps torn : List Int) (fs : List AF) : List AF := fs.mapIdx fun i f => crashF f (toldL keeps i) (toldL torn i)
def crashD (D : AD) (keeps torn : List Int) : AD := { D with files := crashL keeps torn D.files, dark := false, fuse := -1 }
def newD (most : Nat) : AD := ⟨[], most, -1, false⟩

/-- what stays so, whatever is done -/
structure AD.ok (D : AD) : Prop where
  sorted : sorted D.files
  safe : ∀ f ∈ D.files, f.safe ≤ f.bytes.length
  room : used D.files ≤ D.most
  most : D.most ≤ 16777216
  many : D.files.length ≤ 200
  fuse : -1 ≤ D.fuse ∧ D.fuse ≤ 9223372036854775807

end Go.Proofs.YtffgbjojngnebaaDoor
namespace Go.Proofs.YtffgbjojngnebaaDoor
open Go.RowKit

end Go.Proofs.YtffgbjojngnebaaDoor
namespace Go.Proofs.YtffgbjojngnebaaDoor
open Go.RowKit

/-- files with the slices of their bytes, as cells -/
def cellsOf (ps : List (AF × Value)) : List Value := ps.flatMap fun p => [.string p.1.name, p.2, .int .i64 p.1.safe]
theorem cellsOf_length (ps : List (AF × Value)) : (cellsOf ps).length = ps.length * 3 := by
  unfold cellsOf
  induction ps with
  | nil => rfl
  | cons p t ih => simp only [List.flatMap_cons, List.length_append, ih, List.length_cons, List.length_nil]; omega
theorem cellsOf_append (a b : List (AF × Value)) : cellsOf (a ++ b) = cellsOf a ++ cellsOf b := by simp [cellsOf]
theorem cellsOf_cons (p : AF × Value) (t : List (AF × Value)) : cellsOf (p :: t) = .string p.1.name :: p.2 :: .int .i64 p.1.safe :: cellsOf t := by simp [cellsOf]
theorem cellsOf_take (ps : List (AF × Value)) (i : Nat) : (cellsOf ps).take (i * 3) = cellsOf (ps.take i) := by
  induction ps generalizing i with
  | nil => simp [cellsOf]
  | cons p t ih =>
    cases i with
    | zero => simp [cellsOf]
    | succ i =>
      rw [cellsOf_cons, List.take_succ_cons, cellsOf_cons, ← ih, show (i + 1) * 3 = i * 3 + 1 + 1 + 1 by omega]
      simp only [List.take_succ_cons]
theorem cellsOf_drop (ps : List (AF × Value)) (i : Nat) : (cellsOf ps).drop (i * 3) = cellsOf (ps.drop i) := by
  induction ps generalizing i with
  | nil => simp [cellsOf]
  | cons p t ih =>
    cases i with
    | zero => simp [cellsOf]
    | succ i =>
      rw [cellsOf_cons, List.drop_succ_cons, ← ih, show (i + 1) * 3 = i * 3 + 1 + 1 + 1 by omega]
      simp only [List.drop_succ_cons]
theorem cellsOf_get (ps : List (AF × Value)) (i : Nat) (h : i < ps.length) : (cellsOf ps)[i * 3]? = some (.string ps[i].1.name) ∧ (cellsOf ps)[i * 3 + 1]? = some ps[i].2 ∧ (cellsOf ps)[i * 3 + 2]? = some (.int .i64 ps[i].1.safe) := by
  have hd := cellsOf_drop ps i
  rw [List.drop_eq_getElem_cons h, cellsOf_cons] at hd
  have e : ∀ j, (cellsOf ps)[i * 3 + j]? = ((cellsOf ps).drop (i * 3))[j]? := fun j => by rw [List.getElem?_drop]
  refine ⟨?_, ?_, ?_⟩
  · have := e 0
    rw [hd] at this
    simpa using this
  · rw [e 1, hd]; rfl
  · rw [e 2, hd]; rfl

/-- two slices of bytes that lie apart -/
def Apart (v u : Value) : Prop := ∀ a, v.ownBlock = some a → u.ownBlock ≠ some a
theorem Apart.symm {v u : Value} (h : Apart v u) : Apart u v := fun a ha hv => h a hv ha

/-- a disk in memory: the disk's block, its state's, the closure's variable's; the files' slice; the files with the slices of their bytes -/
structure St (w : World) (bd bs bc : Nat) (fv : Value) (ps : List (AF × Value)) (most : Nat) (fuse : Int) (dark : Bool) : Prop where
  hd : w.heap[bd]? = some (.cells #[.pointer (some ⟨bs, 0, none⟩)] 49 (0, 0))
  hs : w.heap[bs]? = some (.cells #[fv, .func (.func 41) #[] #[.pointer (some ⟨bc, 0, none⟩)], .int .i64 most, .int .i64 fuse, .bool dark] 80 (0, 0))
  hc : w.heap[bc]? = some (.cells #[.pointer (some ⟨bs, 0, none⟩)] 47 (0, 0))
  hf : w.ownsRow 0 84 3 fv ps.length (cellsOf ps)
  hb : ∀ p ∈ ps, Own w 0 p.2 p.1.bytes
  hp : ps.Pairwise fun p q => Apart p.2 q.2

/-- the blocks that a disk takes -/
def Blk (bd bs bc : Nat) (fv : Value) (ps : List (AF × Value)) (b : Nat) : Prop := b = bd ∨ b = bs ∨ b = bc ∨ fv.ownBlock = some b ∨ ∃ p ∈ ps, p.2.ownBlock = some b

/-- what has been changed lies in F, or is new -/
structure Chg (F : Nat → Prop) (w w' : World) : Prop where
  os : w'.os = w.os
  tape : w'.tape = w.tape
  output : w'.output = w.output
  size : w.heap.size ≤ w'.heap.size
  block : ∀ k, k < w.heap.size → ¬ F k → w'.heap[k]? = w.heap[k]?

theorem Chg.refl (F : Nat → Prop) (w : World) : Chg F w w := ⟨rfl, rfl, rfl, Nat.le_refl _, fun _ _ _ => rfl⟩
theorem Chg.trans {F G : Nat → Prop} {a b c : World} (h : Chg F a b) (k : Chg G b c) (hg : ∀ i, i < a.heap.size → G i → F i) : Chg F a c :=
  ⟨k.os.trans h.os, k.tape.trans h.tape, k.output.trans h.output, Nat.le_trans h.size k.size, fun i hi hf => (k.block i (Nat.lt_of_lt_of_le hi h.size) (fun hG => hf (hg i hi hG))).trans (h.block i hi hf)⟩
theorem Chg.mono {F G : Nat → Prop} {a b : World} (h : Chg F a b) (hg : ∀ i, i < a.heap.size → F i → G i) : Chg G a b :=
  ⟨h.os, h.tape, h.output, h.size, fun i hi hG => h.block i hi (fun hF => hG (hg i hi hF))⟩
theorem Chg.below {F : Nat → Prop} {w w' : World} (h : Chg F w w') (B : Nat) (hB : ∀ k, F k → B ≤ k) (hw : B ≤ w.heap.size) : Below B w w' :=
  ⟨h.os, h.tape, h.output, h.size, fun k hk => h.block k (by omega) (fun hF => by have := hB k hF; omega)⟩
theorem Chg.ofBelow {w w' : World} (h : Below w.heap.size w w') (F : Nat → Prop) : Chg F w w' :=
  ⟨h.os, h.tape, h.output, h.size, fun k hk _ => h.block k hk⟩
theorem Chg.drew {F : Nat → Prop} {a w : World} (h : Chg F a w) : Chg F a w.drew := ⟨h.os, h.tape, h.output, h.size, h.block⟩
theorem Chg.alloc {F : Nat → Prop} {a w : World} (h : Chg F a w) (o : Obj) : Chg F a (w.alloc o) :=
  ⟨h.os, h.tape, h.output, by have := h.size; simp; omega, fun k hk hF => (Below.heap_alloc _ _ _ (by have := h.size; omega)).trans (h.block k hk hF)⟩
theorem Chg.setCell {F : Nat → Prop} {a w : World} (h : Chg F a w) {p : Addr} (hp : F p.block ∨ a.heap.size ≤ p.block) (u : Value) : Chg F a (w.setCell p u) :=
  ⟨h.os, h.tape, h.output, by have := h.size; simp [World.setCell]; omega, fun k hk hF => by
    rw [Below.heap_setCell _ _ _ _ (by rintro rfl; rcases hp with hp | hp; exact hF hp; omega)]
    exact h.block k hk hF⟩
theorem Chg.grown {F : Nat → Prop} {a w w' : World} {row : Option Nat} (h : Chg F a w) (hg : w.grownBy w' row) (hr : ∀ k, row = some k → F k ∨ a.heap.size ≤ k) : Chg F a w' :=
  ⟨hg.os.trans h.os, hg.tape.trans h.tape, hg.output.trans h.output, Nat.le_trans h.size hg.size, fun k hk hF =>
    (hg.block k (by have := h.size; omega) (fun e => by rcases hr k e.symm with x | x; exact hF x; omega)).trans (h.block k hk hF)⟩

theorem Own.heap {w w' : World} {v : Value} {l : List UInt8} (h : Own w 0 v l) (hk : ∀ a, v.ownBlock = some a → w'.heap[a]? = w.heap[a]?) : Own w' 0 v l := by
  refine ⟨h.1, ?_⟩
  rcases h.2 with h2 | ⟨g, cap, cur, hv, hb2, hg, r⟩
  · exact .inl h2
  · exact .inr ⟨g, cap, cur, hv, hb2, by rw [hk g (by rw [hv]; rfl)]; exact hg, r⟩
theorem rowHeap {w w' : World} {v : Value} {e k n : Nat} {xs : List Value} (h : w.ownsRow 0 e k v n xs) (hk : ∀ a, v.ownBlock = some a → w'.heap[a]? = w.heap[a]?) : w'.ownsRow 0 e k v n xs := by
  refine ⟨h.1, ?_⟩
  rcases h.2 with h2 | ⟨g, cap, cur, hv, hb2, hg, r⟩
  · exact .inl h2
  · exact .inr ⟨g, cap, cur, hv, hb2, by rw [hk g (by rw [hv]; rfl)]; exact hg, r⟩

theorem St.heap {w w' : World} {bd bs bc : Nat} {fv : Value} {ps : List (AF × Value)} {most : Nat} {fuse : Int} {dark : Bool} (h : St w bd bs bc fv ps most fuse dark)
    (hk : ∀ b, Blk bd bs bc fv ps b → w'.heap[b]? = w.heap[b]?) : St w' bd bs bc fv ps most fuse dark :=
  ⟨(hk _ (.inl rfl)).trans h.hd, (hk _ (.inr (.inl rfl))).trans h.hs, (hk _ (.inr (.inr (.inl rfl)))).trans h.hc,
    rowHeap h.hf fun a ha => hk a (.inr (.inr (.inr (.inl ha)))), fun p hp => (h.hb p hp).heap fun a ha => hk a (.inr (.inr (.inr (.inr ⟨p, hp, ha⟩)))), h.hp⟩

theorem St.lt {w : World} {bd bs bc : Nat} {fv : Value} {ps : List (AF × Value)} {most : Nat} {fuse : Int} {dark : Bool} (h : St w bd bs bc fv ps most fuse dark) (b : Nat) (hb : Blk bd bs bc fv ps b) : b < w.heap.size := by
  rcases hb with rfl | rfl | rfl | hb | ⟨p, hp, hb⟩
  · exact (Array.getElem?_eq_some_iff.1 h.hd).1
  · exact (Array.getElem?_eq_some_iff.1 h.hs).1
  · exact (Array.getElem?_eq_some_iff.1 h.hc).1
  · exact (World.ownsRow.lt h.hf b hb).2
  · exact (World.ownsRow.lt (h.hb p hp) b hb).2
theorem St.below {w w' : World} {bd bs bc : Nat} {fv : Value} {ps : List (AF × Value)} {most : Nat} {fuse : Int} {dark : Bool} (h : St w bd bs bc fv ps most fuse dark) (hb : Below w.heap.size w w') : St w' bd bs bc fv ps most fuse dark :=
  h.heap fun b hB => hb.block b (h.lt b hB)
theorem St.chg {w w' : World} {bd bs bc : Nat} {fv : Value} {ps : List (AF × Value)} {most : Nat} {fuse : Int} {dark : Bool} {F : Nat → Prop} (h : St w bd bs bc fv ps most fuse dark) (hb : Chg F w w') (hF : ∀ b, Blk bd bs bc fv ps b → ¬ F b) : St w' bd bs bc fv ps most fuse dark :=
  h.heap fun b hB => hb.block b (h.lt b hB) (hF b hB)

theorem cell_of {w : World} {b : Nat} {c : Array Value} {e : TypeId} {f : Nat × Nat} (h : w.heap[b]? = some (.cells c e f)) (i : Nat) : w.cell? ⟨b, i, none⟩ = c[i]? := by simp [World.cell?, h]
theorem frozen_of {w : World} {b : Nat} {c : Array Value} {e : TypeId} (h : w.heap[b]? = some (.cells c e (0, 0))) (i : Nat) : w.frozen? ⟨b, i, none⟩ = false := by simp [World.frozen?, h]

section
variable {w : World} {bd bs bc : Nat} {fv : Value} {ps : List (AF × Value)} {most : Nat} {fuse : Int} {dark : Bool}
theorem St.d0 (h : St w bd bs bc fv ps most fuse dark) : w.cell? ⟨bd, 0, none⟩ = some (.pointer (some ⟨bs, 0, none⟩)) := by rw [cell_of h.hd]; rfl
theorem St.c0 (h : St w bd bs bc fv ps most fuse dark) : w.cell? ⟨bc, 0, none⟩ = some (.pointer (some ⟨bs, 0, none⟩)) := by rw [cell_of h.hc]; rfl
theorem St.s0 (h : St w bd bs bc fv ps most fuse dark) : w.cell? ⟨bs, 0, none⟩ = some fv := by rw [cell_of h.hs]; rfl
theorem St.s1 (h : St w bd bs bc fv ps most fuse dark) : w.cell? ⟨bs, 1, none⟩ = some (.func (.func 41) #[] #[.pointer (some ⟨bc, 0, none⟩)]) := by rw [cell_of h.hs]; rfl
theorem St.s2 (h : St w bd bs bc fv ps most fuse dark) : w.cell? ⟨bs, 2, none⟩ = some (.int .i64 most) := by rw [cell_of h.hs]; rfl
theorem St.s3 (h : St w bd bs bc fv ps most fuse dark) : w.cell? ⟨bs, 3, none⟩ = some (.int .i64 fuse) := by rw [cell_of h.hs]; rfl
theorem St.s4 (h : St w bd bs bc fv ps most fuse dark) : w.cell? ⟨bs, 4, none⟩ = some (.bool dark) := by rw [cell_of h.hs]; rfl
theorem St.sz (h : St w bd bs bc fv ps most fuse dark) (i : Nat) : w.frozen? ⟨bs, i, none⟩ = false := frozen_of h.hs i
theorem St.ltd (h : St w bd bs bc fv ps most fuse dark) : bd < w.heap.size := h.lt _ (.inl rfl)
theorem St.lts (h : St w bd bs bc fv ps most fuse dark) : bs < w.heap.size := h.lt _ (.inr (.inl rfl))
theorem St.ltc (h : St w bd bs bc fv ps most fuse dark) : bc < w.heap.size := h.lt _ (.inr (.inr (.inl rfl)))
end
end Go.Proofs.YtffgbjojngnebaaDoor
namespace Go.Proofs.YtffgbjojngnebaaDoor
open Go.RowKit

theorem ne_of_elem {w : World} {a b : Nat} {c d : Array Value} {e f : TypeId} {x y : Nat × Nat} (ha : w.heap[a]? = some (.cells c e x)) (hb : w.heap[b]? = some (.cells d f y)) (h : e ≠ f) : a ≠ b := by
  rintro rfl
  rw [ha] at hb
  cases hb
  exact h rfl
theorem row_elem {w : World} {v : Value} {e k n : Nat} {xs : List Value} (h : w.ownsRow 0 e k v n xs) {a : Nat} (ha : v.ownBlock = some a) : ∃ c, w.heap[a]? = some (.cells c e (0, 0)) := by
  rcases h.2 with ⟨rfl, _⟩ | ⟨g, cap, cur, rfl, _, hg, _⟩
  · simp [Value.ownBlock] at ha
  · simp [Value.ownBlock] at ha
    subst ha
    exact ⟨cur, hg⟩
theorem heap_set {w : World} {b i : Nat} {c : Array Value} {e : TypeId} {x : Nat × Nat} (h : w.heap[b]? = some (.cells c e x)) (u : Value) : (w.setCell ⟨b, i, none⟩ u).heap[b]? = some (.cells (c.setIfInBounds i u) e x) := by
  simp [World.setCell, Array.getElem?_modify, h]

section
variable {w w' : World} {bd bs bc : Nat} {fv fv' : Value} {ps ps' : List (AF × Value)} {most : Nat} {fuse : Int} {dark : Bool}

theorem St.fv_ne (h : St w bd bs bc fv ps most fuse dark) {a : Nat} (ha : fv.ownBlock = some a) : a ≠ bd ∧ a ≠ bs ∧ a ≠ bc ∧ ∀ p ∈ ps, p.2.ownBlock ≠ some a := by
  obtain ⟨c, hc⟩ := row_elem h.hf ha
  refine ⟨ne_of_elem hc h.hd (by decide), ne_of_elem hc h.hs (by decide), ne_of_elem hc h.hc (by decide), fun p hp e => ?_⟩
  obtain ⟨c', hc'⟩ := row_elem (h.hb p hp) e
  exact ne_of_elem hc hc' (by decide) rfl
theorem St.by_ne (h : St w bd bs bc fv ps most fuse dark) {v : Value} {l : List UInt8} (hv : Own w 0 v l) {a : Nat} (ha : v.ownBlock = some a) : a ≠ bd ∧ a ≠ bs ∧ a ≠ bc ∧ fv.ownBlock ≠ some a := by
  obtain ⟨c, hc⟩ := row_elem hv ha
  refine ⟨ne_of_elem hc h.hd (by decide), ne_of_elem hc h.hs (by decide), ne_of_elem hc h.hc (by decide), fun e => ?_⟩
  obtain ⟨c', hc'⟩ := row_elem h.hf e
  exact ne_of_elem hc hc' (by decide) rfl
theorem St.ds (h : St w bd bs bc fv ps most fuse dark) : bd ≠ bs ∧ bd ≠ bc ∧ bc ≠ bs := ⟨ne_of_elem h.hd h.hs (by decide), ne_of_elem h.hd h.hc (by decide), ne_of_elem h.hc h.hs (by decide)⟩

/-- the files' row is another one -/
theorem St.files (h : St w bd bs bc fv ps most fuse dark) (hg : w.grownBy w' fv.ownBlock) (hrow : w'.ownsRow 0 84 3 fv' ps'.length (cellsOf ps')) (hb : ∀ p ∈ ps', Own w 0 p.2 p.1.bytes) (hp : ps'.Pairwise fun p q => Apart p.2 q.2) :
    St (w'.setCell ⟨bs, 0, none⟩ fv') bd bs bc fv' ps' most fuse dark := by
  obtain ⟨n1, n2, n3⟩ := h.ds
  have hne : ∀ a, a = bd ∨ a = bs ∨ a = bc → some a ≠ fv.ownBlock := fun a ha e => by
    obtain ⟨h1, h2, h3, _⟩ := h.fv_ne e.symm
    rcases ha with rfl | rfl | rfl
    · exact h1 rfl
    · exact h2 rfl
    · exact h3 rfl
  have hs' : w'.heap[bs]? = some (.cells #[fv, .func (.func 41) #[] #[.pointer (some ⟨bc, 0, none⟩)], .int .i64 most, .int .i64 fuse, .bool dark] 80 (0, 0)) := (hg.block bs h.lts (hne bs (.inr (.inl rfl)))).trans h.hs
  have ho : ∀ a, a ≠ bs → (w'.setCell ⟨bs, 0, none⟩ fv').heap[a]? = w'.heap[a]? := fun a ha => Below.heap_setCell _ _ _ _ ha
  refine ⟨?_, ?_, ?_, ?_, fun p hp' => ?_, hp⟩
  · rw [ho _ n1, hg.block bd h.ltd (hne bd (.inl rfl))]; exact h.hd
  · rw [heap_set hs']; rfl
  · rw [ho _ n3, hg.block bc h.ltc (hne bc (.inr (.inr rfl)))]; exact h.hc
  · refine rowHeap hrow fun a ha => ho a ?_
    obtain ⟨c, hc⟩ := row_elem hrow ha
    exact ne_of_elem hc hs' (by decide)
  · refine Own.heap (hb p hp') fun a ha => ?_
    obtain ⟨m1, m2, m3, m4⟩ := h.by_ne (hb p hp') ha
    rw [ho a m2, hg.block a (World.ownsRow.lt (hb p hp') a ha).2 (fun e => m4 e.symm)]

/-- one of the numbers of the state is another one -/
theorem St.setFuse (h : St w bd bs bc fv ps most fuse dark) (n : Int) : St (w.setCell ⟨bs, 3, none⟩ (.int .i64 n)) bd bs bc fv ps most n dark := by
  obtain ⟨n1, n2, n3⟩ := h.ds
  have ho : ∀ a, a ≠ bs → (w.setCell ⟨bs, 3, none⟩ (.int .i64 n)).heap[a]? = w.heap[a]? := fun a ha => Below.heap_setCell _ _ _ _ ha
  refine ⟨?_, ?_, ?_, rowHeap h.hf fun a ha => ho a (h.fv_ne ha).2.1, fun p hp' => Own.heap (h.hb p hp') fun a ha => ho a (h.by_ne (h.hb p hp') ha).2.1, h.hp⟩
  · rw [ho _ n1]; exact h.hd
  · rw [heap_set h.hs]; rfl
  · rw [ho _ n3]; exact h.hc
theorem St.setDark (h : St w bd bs bc fv ps most fuse dark) (b : Bool) : St (w.setCell ⟨bs, 4, none⟩ (.bool b)) bd bs bc fv ps most fuse b := by
  obtain ⟨n1, n2, n3⟩ := h.ds
  have ho : ∀ a, a ≠ bs → (w.setCell ⟨bs, 4, none⟩ (.bool b)).heap[a]? = w.heap[a]? := fun a ha => Below.heap_setCell _ _ _ _ ha
  refine ⟨?_, ?_, ?_, rowHeap h.hf fun a ha => ho a (h.fv_ne ha).2.1, fun p hp' => Own.heap (h.hb p hp') fun a ha => ho a (h.by_ne (h.hb p hp') ha).2.1, h.hp⟩
  · rw [ho _ n1]; exact h.hd
  · rw [heap_set h.hs]; rfl
  · rw [ho _ n3]; exact h.hc

/-- the files' row is written, or grown, where it lies; the cell that names it stands -/
theorem St.row (h : St w bd bs bc fv ps most fuse dark) (hg : w.grownBy w' fv.ownBlock) (hrow : w'.ownsRow 0 84 3 fv ps'.length (cellsOf ps')) (hb : ∀ p ∈ ps', Own w 0 p.2 p.1.bytes) (hp : ps'.Pairwise fun p q => Apart p.2 q.2) :
    St w' bd bs bc fv ps' most fuse dark := by
  have hne : ∀ a, a = bd ∨ a = bs ∨ a = bc → some a ≠ fv.ownBlock := fun a ha e => by
    obtain ⟨h1, h2, h3, _⟩ := h.fv_ne e.symm
    rcases ha with rfl | rfl | rfl
    · exact h1 rfl
    · exact h2 rfl
    · exact h3 rfl
  exact ⟨(hg.block bd h.ltd (hne bd (.inl rfl))).trans h.hd, (hg.block bs h.lts (hne bs (.inr (.inl rfl)))).trans h.hs, (hg.block bc h.ltc (hne bc (.inr (.inr rfl)))).trans h.hc, hrow,
    fun p hp' => Own.heap (hb p hp') fun a ha => hg.block a (World.ownsRow.lt (hb p hp') a ha).2 (fun e => (h.by_ne (hb p hp') ha).2.2.2 e.symm), hp⟩
end

theorem cellsOf_set (ps : List (AF × Value)) (i : Nat) (hi : i < ps.length) (f : AF) (v : Value) :
    (((cellsOf ps).set (i * 3) (.string f.name)).set (i * 3 + 1) v).set (i * 3 + 2) (.int .i64 f.safe) = cellsOf (ps.take i ++ (f, v) :: ps.drop (i + 1)) := by
  induction ps generalizing i with
  | nil => simp at hi
  | cons p t ih =>
    cases i with
    | zero => simp [cellsOf_cons]
    | succ i =>
      have hi' : i < t.length := by simpa using hi
      rw [cellsOf_cons, List.take_succ_cons, List.drop_succ_cons, List.cons_append, cellsOf_cons, ← ih i hi']
      rw [show (i + 1) * 3 = i * 3 + 1 + 1 + 1 by omega, show i * 3 + 1 + 1 + 1 + 1 = (i * 3 + 1) + 1 + 1 + 1 by omega, show i * 3 + 1 + 1 + 1 + 2 = (i * 3 + 2) + 1 + 1 + 1 by omega]
      simp only [List.set_cons_succ]
theorem cellsOf_set1 (ps : List (AF × Value)) (i : Nat) (hi : i < ps.length) (v : Value) (b : List UInt8) : (cellsOf ps).set (i * 3 + 1) v = cellsOf (ps.take i ++ (⟨ps[i].1.name, b, ps[i].1.safe⟩, v) :: ps.drop (i + 1)) := by
  rw [← cellsOf_set ps i hi]
  obtain ⟨h1, h2, h3⟩ := cellsOf_get ps i hi
  apply List.ext_getElem?
  intro j
  simp only [List.getElem?_set, List.length_set]
  have hl := cellsOf_length ps
  by_cases e2 : i * 3 + 2 = j
  · subst e2
    rw [if_neg (by omega), if_pos rfl, if_pos (by omega), h3]
  · rw [if_neg e2]
    by_cases e1 : i * 3 + 1 = j
    · rw [if_pos e1, if_pos e1]
    · rw [if_neg e1, if_neg e1]
      by_cases e0 : i * 3 = j
      · subst e0
        rw [if_pos rfl, if_pos (by omega), h1]
      · rw [if_neg e0]
theorem cellsOf_set2 (ps : List (AF × Value)) (i : Nat) (hi : i < ps.length) (s : Nat) : (cellsOf ps).set (i * 3 + 2) (.int .i64 s) = cellsOf (ps.take i ++ (⟨ps[i].1.name, ps[i].1.bytes, s⟩, ps[i].2) :: ps.drop (i + 1)) := by
  rw [← cellsOf_set ps i hi]
  obtain ⟨h1, h2, h3⟩ := cellsOf_get ps i hi
  apply List.ext_getElem?
  intro j
  simp only [List.getElem?_set, List.length_set]
  have hl := cellsOf_length ps
  by_cases e2 : i * 3 + 2 = j
  · rw [if_pos e2, if_pos e2]
  · rw [if_neg e2, if_neg e2]
    by_cases e1 : i * 3 + 1 = j
    · subst e1
      rw [if_pos rfl, if_pos (by omega), h2]
    · rw [if_neg e1]
      by_cases e0 : i * 3 = j
      · subst e0
        rw [if_pos rfl, if_pos (by omega), h1]
      · rw [if_neg e0]

/-- files that are laid down at a place, in the stead of others: apart still -/
theorem pair_put {ps : List (AF × Value)} (hp : ps.Pairwise fun p q => Apart p.2 q.2) (i j : Nat) (hij : i ≤ j) (x : AF × Value) (hx : ∀ p ∈ ps.take i ++ ps.drop j, Apart p.2 x.2) : (ps.take i ++ x :: ps.drop j).Pairwise fun p q => Apart p.2 q.2 := by
  rw [List.pairwise_append, List.pairwise_cons]
  refine ⟨hp.sublist (List.take_sublist ..), ⟨fun a ha => (hx a (List.mem_append_right _ ha)).symm, hp.sublist (List.drop_sublist ..)⟩, fun a ha b hb => ?_⟩
  rcases List.mem_cons.1 hb with rfl | hb
  · exact hx a (List.mem_append_left _ ha)
  · obtain ⟨k, hk, rfl⟩ := List.mem_iff_getElem.1 ha
    obtain ⟨l, hl, rfl⟩ := List.mem_iff_getElem.1 hb
    rw [List.getElem_take, List.getElem_drop]
    simp only [List.length_take] at hk
    simp only [List.length_drop] at hl
    exact List.pairwise_iff_getElem.1 hp _ _ _ _ (by omega)
theorem mem_put {ps : List (AF × Value)} {i j : Nat} {x p : AF × Value} (h : p ∈ ps.take i ++ x :: ps.drop j) : p = x ∨ p ∈ ps := by
  rcases List.mem_append.1 h with h | h
  · exact .inr (List.mem_of_mem_take h)
  · rcases List.mem_cons.1 h with h | h
    · exact .inl h
    · exact .inr (List.mem_of_mem_drop h)

theorem gtrans {a b c : World} {r : Option Nat} (h : a.grownBy b r) (k : b.grownBy c r) : a.grownBy c r :=
  ⟨k.os.trans h.os, k.tape.trans h.tape, k.output.trans h.output, Nat.le_trans h.size k.size, fun i hi hr => (k.block i (Nat.lt_of_lt_of_le hi h.size) hr).trans (h.block i hi hr)⟩

theorem apart_at {ps : List (AF × Value)} (hp : ps.Pairwise fun p q => Apart p.2 q.2) (i : Nat) (hi : i < ps.length) : ∀ p ∈ ps.take i ++ ps.drop (i + 1), Apart p.2 ps[i].2 := by
  intro p hm
  rcases List.mem_append.1 hm with hm | hm
  · obtain ⟨k, hk, rfl⟩ := List.mem_iff_getElem.1 hm
    rw [List.getElem_take]
    simp only [List.length_take] at hk
    exact List.pairwise_iff_getElem.1 hp k i (by omega) hi (by omega)
  · obtain ⟨k, hk, rfl⟩ := List.mem_iff_getElem.1 hm
    rw [List.getElem_drop]
    simp only [List.length_drop] at hk
    exact (List.pairwise_iff_getElem.1 hp i (i + 1 + k) hi (by omega) (by omega)).symm
section
variable {w : World} {bd bs bc g cap : Nat} {ps : List (AF × Value)} {most : Nat} {fuse : Int} {dark : Bool}
theorem put_len {α : Type} (ps : List α) (i : Nat) (hi : i < ps.length) (x : α) : (ps.take i ++ x :: ps.drop (i + 1)).length = ps.length := by
  simp only [List.length_append, List.length_take, List.length_cons, List.length_drop]; omega
/-- a file is laid down in the stead of another one -/
theorem St.setFile (h : St w bd bs bc (.slice (some ⟨g, 0, none⟩) ps.length cap) ps most fuse dark) (i : Nat) (hi : i < ps.length) (f : AF) (v : Value) (hv : Own w 0 v f.bytes) (hap : ∀ p ∈ ps.take i ++ ps.drop (i + 1), Apart p.2 v) :
    St (((w.setCell ⟨g, i * 3, none⟩ (.string f.name)).setCell ⟨g, i * 3 + 1, none⟩ v).setCell ⟨g, i * 3 + 2, none⟩ (.int .i64 f.safe)) bd bs bc (.slice (some ⟨g, 0, none⟩) ps.length cap) (ps.take i ++ (f, v) :: ps.drop (i + 1)) most fuse dark := by
  obtain ⟨o1, g1⟩ := World.ownsRow.stored h.hf (i * 3) (.string f.name)
  obtain ⟨o2, g2⟩ := World.ownsRow.stored o1 (i * 3 + 1) v
  obtain ⟨o3, g3⟩ := World.ownsRow.stored o2 (i * 3 + 2) (.int .i64 f.safe)
  rw [cellsOf_set ps i hi] at o3
  refine h.row (gtrans g1 (gtrans g2 g3)) ?_ (fun p hp => ?_) (pair_put h.hp i (i + 1) (by omega) (f, v) hap)
  · rw [put_len ps i hi]; exact o3
  · rcases mem_put hp with rfl | hp
    · exact hv
    · exact h.hb p hp
theorem St.setSafe (h : St w bd bs bc (.slice (some ⟨g, 0, none⟩) ps.length cap) ps most fuse dark) (i : Nat) (hi : i < ps.length) (s : Nat) :
    St (w.setCell ⟨g, i * 3 + 2, none⟩ (.int .i64 s)) bd bs bc (.slice (some ⟨g, 0, none⟩) ps.length cap) (ps.take i ++ (⟨ps[i].1.name, ps[i].1.bytes, s⟩, ps[i].2) :: ps.drop (i + 1)) most fuse dark := by
  obtain ⟨o1, g1⟩ := World.ownsRow.stored h.hf (i * 3 + 2) (.int .i64 s)
  rw [cellsOf_set2 ps i hi] at o1
  refine h.row g1 ?_ (fun p hp => ?_) (pair_put h.hp i (i + 1) (by omega) _ ?_)
  · rw [put_len ps i hi]; exact o1
  · rcases mem_put hp with rfl | hp
    · exact h.hb ps[i] (List.getElem_mem hi)
    · exact h.hb p hp
  · exact apart_at h.hp i hi
end
end Go.Proofs.YtffgbjojngnebaaDoor
namespace Go.Proofs.YtffgbjojngnebaaDoor

theorem used_append (a b : List AF) : used (a ++ b) = used a + used b := by simp [used]
theorem used_cons (f : AF) (t : List AF) : used (f :: t) = f.bytes.length + used t := by simp [used]
theorem used_split (fs : List AF) (i : Nat) : used fs = used (fs.take i) + used (fs.drop i) := by rw [← used_append, List.take_append_drop]
theorem used_at (fs : List AF) (i : Nat) (h : i < fs.length) : used fs = used (fs.take i) + (fs[i].bytes.length + used (fs.drop (i + 1))) := by
  rw [used_split fs i, List.drop_eq_getElem_cons h, used_cons]

/-- files that a disk may have -/
structure good (most : Nat) (fs : List AF) : Prop where
  sorted : sorted fs
  safe : ∀ f ∈ fs, f.safe ≤ f.bytes.length
  room : used fs ≤ most
  many : fs.length ≤ 200

theorem AD.ok.good {D : AD} (h : D.ok) : good D.most D.files := ⟨h.sorted, h.safe, h.room, h.many⟩
theorem lookF_is {fs : List AF} {n : ByteArray} (h : isF fs n = true) : ∃ hl : posF fs n < fs.length, lookF fs n = fs[posF fs n] ∧ fs[posF fs n].name = n := by
  obtain ⟨hl, hn⟩ := isF_lt h
  refine ⟨hl, ?_, hn⟩
  unfold lookF
  rw [if_pos h, List.getD_eq_getElem?_getD, List.getElem?_eq_getElem hl]
  rfl
theorem lookF_no {fs : List AF} {n : ByteArray} (h : isF fs n = false) : lookF fs n = ⟨⟨#[]⟩, [], 0⟩ := by
  unfold lookF
  rw [if_neg (by rw [h]; simp)]
theorem putF_is {fs : List AF} {f : AF} (h : isF fs f.name = true) : putF fs f = fs.take (posF fs f.name) ++ f :: fs.drop (posF fs f.name + 1) := by
  unfold putF
  rw [if_pos h]
theorem putF_no {fs : List AF} {f : AF} (h : isF fs f.name = false) : putF fs f = fs.take (posF fs f.name) ++ f :: fs.drop (posF fs f.name) := by
  unfold putF
  rw [if_neg (by rw [h]; simp)]
theorem mem_putF {fs : List AF} {f x : AF} (h : x ∈ putF fs f) : x = f ∨ x ∈ fs := by
  unfold putF at h
  rcases List.mem_append.1 h with h | h
  · exact .inr (List.mem_of_mem_take h)
  · rcases List.mem_cons.1 h with h | h
    · exact .inl h
    · exact .inr (List.mem_of_mem_drop h)

theorem good_put_is {most : Nat} {fs : List AF} (h : good most fs) (f : AF) (hi : isF fs f.name = true) (hs : f.safe ≤ f.bytes.length) (hu : used fs + f.bytes.length ≤ most + (lookF fs f.name).bytes.length) : good most (putF fs f) := by
  obtain ⟨hl, hlook, hname⟩ := lookF_is hi
  refine ⟨sorted_putF h.sorted f, fun x hx => ?_, ?_, ?_⟩
  · rcases mem_putF hx with rfl | hx
    · exact hs
    · exact h.safe x hx
  · rw [putF_is hi, used_append, used_cons]
    have := used_at fs _ hl
    rw [hlook] at hu
    omega
  · rw [putF_is hi]
    have := h.many
    simp only [List.length_append, List.length_take, List.length_cons, List.length_drop]
    omega
theorem good_put_no {most : Nat} {fs : List AF} (h : good most fs) (f : AF) (hi : isF fs f.name = false) (hs : f.safe ≤ f.bytes.length) (hu : used fs + f.bytes.length ≤ most) (hl : fs.length < 200) : good most (putF fs f) := by
  have hp := posF_le fs f.name
  refine ⟨sorted_putF h.sorted f, fun x hx => ?_, ?_, ?_⟩
  · rcases mem_putF hx with rfl | hx
    · exact hs
    · exact h.safe x hx
  · rw [putF_no hi, used_append, used_cons]
    have := used_split fs (posF fs f.name)
    omega
  · rw [putF_no hi]
    simp only [List.length_append, List.length_take, List.length_cons, List.length_drop]
    omega
theorem good_drop {most : Nat} {fs : List AF} (h : good most fs) (i : Nat) : good most (dropF fs i) := by
  refine ⟨sorted_dropF h.sorted i, fun x hx => ?_, ?_, ?_⟩
  · unfold dropF at hx
    rcases List.mem_append.1 hx with hx | hx
    · exact h.safe x (List.mem_of_mem_take hx)
    · exact h.safe x (List.mem_of_mem_drop hx)
  · unfold dropF
    rw [used_append]
    have h1 := h.room
    by_cases hl : i < fs.length
    · have := used_at fs i hl
      omega
    · rw [List.take_of_length_le (by omega), List.drop_eq_nil_of_le (by omega)]
      simpa [used] using h1
  · unfold dropF
    have := h.many
    simp only [List.length_append, List.length_take, List.length_drop]
    omega
theorem dropF_used {fs : List AF} (i : Nat) (hl : i < fs.length) : used (dropF fs i) + fs[i].bytes.length = used fs ∧ (dropF fs i).length + 1 = fs.length := by
  unfold dropF
  rw [used_append]
  have := used_at fs i hl
  simp only [List.length_append, List.length_take, List.length_drop]
  omega

theorem look_safe {most : Nat} {fs : List AF} (h : good most fs) (n : ByteArray) : (lookF fs n).safe ≤ (lookF fs n).bytes.length := by
  cases hi : isF fs n with
  | false => rw [lookF_no hi]; simp
  | true =>
    obtain ⟨hl, hlook, _⟩ := lookF_is hi
    rw [hlook]
    exact h.safe _ (List.getElem_mem hl)
theorem look_used {fs : List AF} (n : ByteArray) : (lookF fs n).bytes.length ≤ used fs := by
  cases hi : isF fs n with
  | false => rw [lookF_no hi]; simp
  | true =>
    obtain ⟨hl, hlook, _⟩ := lookF_is hi
    rw [hlook]
    have := used_at fs _ hl
    omega

theorem good_sync {most : Nat} {fs : List AF} (h : good most fs) (n : ByteArray) (hi : isF fs n = true) : good most (syncF n fs) :=
  good_put_is h _ hi (Nat.le_refl _) (by have := h.room; simp only; omega)
theorem good_cut {most : Nat} {fs : List AF} (h : good most fs) (n : ByteArray) (k : Nat) (hi : isF fs n = true) (hk : k ≤ (lookF fs n).bytes.length) : good most (cutF n k fs) :=
  good_put_is h _ hi (by simp only [List.length_take]; omega) (by have := h.room; simp only [List.length_take]; omega)
theorem good_app {most : Nat} {fs : List AF} (h : good most fs) (n : ByteArray) (b : List UInt8) (hu : used fs + b.length ≤ most) (hm : isF fs n = false → fs.length < 200) : good most (appF n b fs) := by
  have hs := look_safe h n
  cases hi : isF fs n with
  | true => exact good_put_is h _ hi (by simp only [List.length_append]; omega) (by simp only [List.length_append]; omega)
  | false =>
    refine good_put_no h _ hi (by simp only [List.length_append]; omega) ?_ (hm hi)
    simp only [lookF_no hi, List.nil_append]
    exact hu
theorem good_ren {most : Nat} {fs : List AF} (h : good most fs) (a b : ByteArray) (hi : isF fs a = true) : good most (renF a b fs) := by
  obtain ⟨hl, hlook, hname⟩ := lookF_is hi
  have hs := look_safe h a
  obtain ⟨hd1, hd2⟩ := dropF_used (posF fs a) hl
  have hg := good_drop h (posF fs a)
  have hm := h.many
  have hr := h.room
  rw [hlook] at hs
  unfold renF
  rw [hlook]
  cases hj : isF (dropF fs (posF fs a)) b with
  | true => exact good_put_is hg _ hj hs (by simp only; omega)
  | false => exact good_put_no hg _ hj hs (by simp only; omega) (by omega)

theorem burn_ok {D : AD} (h : D.ok) (g : List AF → List AF) (hg : good D.most (g D.files)) : (burn D g).1.ok := by
  unfold burn
  have hf := h.fuse
  split
  · exact ⟨h.sorted, h.safe, h.room, h.most, h.many, by simp⟩
  · refine ⟨hg.sorted, hg.safe, hg.room, h.most, hg.many, ?_⟩
    simp only
    split <;> omega

theorem crash_len (f : AF) (k t : Int) (hs : f.safe ≤ f.bytes.length) : (crashF f k t).bytes.length ≤ f.bytes.length ∧ (crashF f k t).safe = (crashF f k t).bytes.length := by
  unfold crashF
  have h1 : keptN f k ≤ f.bytes.length := by unfold keptN; omega
  have h2 : keptN f k + noughtsN f k t ≤ f.bytes.length := by unfold noughtsN; omega
  simp only [List.length_append, List.length_take, List.length_replicate]
  omega
theorem crashL_get (ks ts : List Int) (fs : List AF) (i : Nat) (h : i < (crashL ks ts fs).length) : (crashL ks ts fs)[i] = crashF (fs[i]'(by simpa [crashL] using h)) (toldL ks i) (toldL ts i) := by
  simp [crashL]
theorem crashL_len (ks ts : List Int) (fs : List AF) : (crashL ks ts fs).length = fs.length := by simp [crashL]
theorem used_le_of (a b : List AF) (hl : a.length = b.length) (h : ∀ i (h1 : i < a.length) (h2 : i < b.length), a[i].bytes.length ≤ b[i].bytes.length) : used a ≤ used b := by
  induction a generalizing b with
  | nil => simp [used]
  | cons x t ih =>
    cases b with
    | nil => simp at hl
    | cons y u =>
      rw [used_cons, used_cons]
      have h0 := h 0 (by simp) (by simp)
      have h1 := ih u (by simpa using hl) (fun i h1 h2 => by
        have := h (i + 1) (by simpa using h1) (by simpa using h2)
        simpa using this)
      simp at h0
      omega
theorem good_crash {most : Nat} {fs : List AF} (h : good most fs) (ks ts : List Int) : good most (crashL ks ts fs) := by
  have hl := crashL_len ks ts fs
  refine ⟨?_, fun x hx => ?_, ?_, ?_⟩
  · unfold sorted
    rw [List.pairwise_iff_getElem]
    intro i j hi hj hij
    rw [crashL_get, crashL_get]
    exact sorted_lt h.sorted i j (by omega) hij
  · obtain ⟨i, hi, rfl⟩ := List.mem_iff_getElem.1 hx
    rw [crashL_get]
    have := (crash_len (fs[i]'(by omega)) (toldL ks i) (toldL ts i) (h.safe _ (List.getElem_mem _))).2
    omega
  · refine Nat.le_trans (used_le_of _ _ hl fun i h1 h2 => ?_) h.room
    rw [crashL_get]
    exact (crash_len _ _ _ (h.safe _ (List.getElem_mem _))).1
  · rw [hl]; exact h.many
theorem crash_ok {D : AD} (h : D.ok) (ks ts : List Int) : (crashD D ks ts).ok := by
  have hg := good_crash h.good ks ts
  exact ⟨hg.sorted, hg.safe, hg.room, h.most, hg.many, by simp [crashD]⟩
theorem new_ok (most : Nat) (h : most ≤ 16777216) : (newD most).ok := ⟨List.Pairwise.nil, (fun f hf => absurd hf List.not_mem_nil), (by simp [newD, used]), h, (by simp [newD]), (by simp [newD])⟩
theorem arm_ok {D : AD} (h : D.ok) (n : Int) (hn : n ≤ 9223372036854775807) : (armD D n).ok := by
  unfold armD
  split
  · exact h
  · exact ⟨h.sorted, h.safe, h.room, h.most, h.many, by simp only; omega⟩
theorem ok_append {D : AD} (h : D.ok) (n : ByteArray) (b : List UInt8) : (appendD D n b).1.ok := by
  unfold appendD
  split
  · exact h
  · split
    · exact h
    · split
      · exact h
      · rename_i hc
        have hm := h.many
        exact burn_ok h _ (good_app h.good n b (by omega) (fun hi => by
          rcases Nat.lt_or_ge D.files.length 200 with h1 | h1
          · exact h1
          · exact absurd (.inr ⟨hi, by omega⟩) hc))
end Go.Proofs.YtffgbjojngnebaaDoor
namespace Go.Proofs.YtffgbjojngnebaaDoor
open Go.RowKit

set_option maxRecDepth 100000 in
set_option maxHeartbeats 400000 in
theorem made_nil (w : World) : Calls Tryd.prog 64 #[.pointer none] w fun e w' => e = .returned (.bool false) ∧ w' = w := by
  go_enter Tryd.func64, Tryd.ntmps64
  go_wp2
  go_ret
  exact ⟨rfl, rfl⟩
set_option maxRecDepth 100000 in
set_option maxHeartbeats 400000 in
theorem made_zero (w : World) (b : Nat) (h : w.cell? ⟨b, 0, none⟩ = some (.pointer none)) : Calls Tryd.prog 64 #[.pointer (some ⟨b, 0, none⟩)] w fun e w' => e = .returned (.bool false) ∧ w' = w := by
  go_enter Tryd.func64, Tryd.ntmps64
  go_wp2
  go_ret
  exact ⟨rfl, rfl⟩
set_option maxRecDepth 100000 in
set_option maxHeartbeats 400000 in
theorem made_cell (w : World) (b s : Nat) (h : w.cell? ⟨b, 0, none⟩ = some (.pointer (some ⟨s, 0, none⟩))) : Calls Tryd.prog 64 #[.pointer (some ⟨b, 0, none⟩)] w fun e w' => e = .returned (.bool true) ∧ w' = w := by
  go_enter Tryd.func64, Tryd.ntmps64
  go_wp2
  go_ret
  exact ⟨rfl, rfl⟩
set_option maxRecDepth 100000 in
set_option maxHeartbeats 400000 in
theorem fails_cell (w : World) (b s : Nat) (dark : Bool) (h : w.cell? ⟨b, 0, none⟩ = some (.pointer (some ⟨s, 0, none⟩))) (h4 : w.cell? ⟨s, 4, none⟩ = some (.bool dark)) :
    Calls Tryd.prog 46 #[.pointer (some ⟨b, 0, none⟩)] w fun e w' => e = .returned (.int .i64 (if dark then 15 else 0)) ∧ w' = w := by
  go_enter Tryd.func46, Tryd.ntmps46
  go_wp2_with fail
  refine (made_cell _ b s h).mono ?_
  rintro e w' ⟨rfl, rfl⟩
  cases dark
  all_goals
    go_wp2
    go_ret
    exact ⟨rfl, rfl⟩
set_option maxRecDepth 100000 in
set_option maxHeartbeats 400000 in
theorem fails_none (w : World) (v : Value) (h : Calls Tryd.prog 64 #[v] w fun e w' => e = .returned (.bool false) ∧ w' = w) : Calls Tryd.prog 46 #[v] w fun e w' => e = .returned (.int .i64 1) ∧ w' = w := by
  go_enter Tryd.func46, Tryd.ntmps46
  go_wp2_with fail
  refine h.mono ?_
  rintro e w' ⟨rfl, rfl⟩
  go_wp2
  go_ret
  exact ⟨rfl, rfl⟩
set_option maxRecDepth 100000 in
set_option maxHeartbeats 400000 in
theorem arm_none (w : World) (v : Value) (n : Int) (h : Calls Tryd.prog 64 #[v] w fun e w' => e = .returned (.bool false) ∧ w' = w) : Calls Tryd.prog 17 #[v, .int .i64 n] w fun e w' => e = .returned (.tuple #[]) ∧ w' = w := by
  go_enter Tryd.func17, Tryd.ntmps17
  go_wp2_with fail
  refine (fails_none _ v h).mono ?_
  rintro e w' ⟨rfl, rfl⟩
  go_wp2
  go_returns
  exact ⟨rfl, rfl⟩
set_option maxRecDepth 100000 in
set_option maxHeartbeats 400000 in
theorem arm_cell (w : World) (b s : Nat) (dark : Bool) (n : Int) (h : w.cell? ⟨b, 0, none⟩ = some (.pointer (some ⟨s, 0, none⟩))) (h4 : w.cell? ⟨s, 4, none⟩ = some (.bool dark)) (h3 : ∃ v, w.cell? ⟨s, 3, none⟩ = some v) (hz : w.frozen? ⟨s, 3, none⟩ = false) :
    Calls Tryd.prog 17 #[.pointer (some ⟨b, 0, none⟩), .int .i64 n] w fun e w' => e = .returned (.tuple #[]) ∧ w' = if dark then w else w.setCell ⟨s, 3, none⟩ (.int .i64 (max n 0)) := by
  obtain ⟨v, h3⟩ := h3
  go_enter Tryd.func17, Tryd.ntmps17
  go_wp2_with fail
  refine (fails_cell _ b s dark h h4).mono ?_
  rintro e w' ⟨rfl, rfl⟩
  cases dark
  · go_wp2
    · go_returns
      exact ⟨rfl, by rw [show max n 0 = 0 by omega]⟩
    · go_returns
      exact ⟨rfl, by rw [show max n 0 = n by omega]⟩
  · go_wp2
    go_returns
    exact ⟨rfl, rfl⟩
end Go.Proofs.YtffgbjojngnebaaDoor
