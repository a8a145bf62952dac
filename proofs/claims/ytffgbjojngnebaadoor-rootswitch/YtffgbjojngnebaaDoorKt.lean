/-
  Roots written in turn: plain lemmas; a list of roots that is read. Own work.
-/
import Derived.Test.YtffgbjojngnebaaDoorKn
namespace Go.Proofs.YtffgbjojngnebaaDoor
open Go.RowKit

theorem newest_ge (a b : AR) : a.serial ≤ (newest a b).serial ∧ b.serial ≤ (newest a b).serial := by
  unfold newest
  split <;> omega
theorem newest_left (a b : AR) (h : b.serial ≤ a.serial) : newest a b = a := by
  unfold newest
  rw [if_neg (by omega)]
theorem newest_right (a b : AR) (h : a.serial < b.serial) : newest a b = b := by
  unfold newest
  rw [if_pos h]
def top (x y : Option (List UInt8 × Nat)) : AR := newest (newest noR (rtO x)) (rtO y)
theorem top_ge (x y : Option (List UInt8 × Nat)) : 0 ≤ (top x y).serial ∧ (rtO x).serial ≤ (top x y).serial ∧ (rtO y).serial ≤ (top x y).serial := by
  have h1 := newest_ge noR (rtO x)
  have h2 := newest_ge (newest noR (rtO x)) (rtO y)
  have hz : noR.serial = 0 := rfl
  unfold top
  omega
/-- the next root, once it stands, counts -/
theorem top_set (x y : Option (List UInt8 × Nat)) (n : ByteArray) (r : AR) (hr : isR r = true) (hs : (top x y).serial < r.serial) (k : Nat) :
    top (setX n (frameL (bodyR r), k) x) (setY n (frameL (bodyR r), k) y) = r := by
  obtain ⟨h0, h1, h2⟩ := top_ge x y
  have hz : noR.serial = 0 := rfl
  have e : rtO (some (frameL (bodyR r), k)) = r := by
    unfold rtO
    simp only [parse_back r hr]
  unfold top setX setY
  by_cases hn : n = nR0
  · rw [if_pos hn, if_pos hn, e, newest_right noR r (by omega), newest_left r _ (by omega)]
  · rw [if_neg hn, if_neg hn, e]
    refine newest_right _ _ ?_
    have := newest_ge noR (rtO x)
    unfold newest
    split <;> omega
theorem root3' (t x y : Option (List UInt8 × Nat)) (m : Nat) (fu : Int) : rootD ⟨fs3 t x y, m, fu, false⟩ = top x y := root3 t x y m fu

/-- how the two files stand behind n roots, written in turn -/
structure Tn (n : Nat) (x y : Option (List UInt8 × Nat)) : Prop where
  hx : szO x ≤ 200
  hy : szO y ≤ 200
  top : (top x y).serial = n
  cx : x.isSome = decide (2 ≤ n)
  cy : y.isSome = decide (1 ≤ n)
theorem Tn.none : Tn 0 none none := ⟨by decide, by decide, by decide, rfl, rfl⟩
theorem nameR_or (s : Int) : nameR s = nR0 ∨ nameR s = nR1 := by
  unfold nameR
  split
  · exact .inl rfl
  · exact .inr rfl
def dT (x y : Option (List UInt8 × Nat)) : AD := ⟨fs3 none x y, 1048576, -1, false⟩
def nxT (x y : Option (List UInt8 × Nat)) (b : Int) (l : List UInt8) : AR := ⟨(top x y).serial + 1, b, l⟩
theorem nxT_eq (x y : Option (List UInt8 × Nat)) (b : Int) (l : List UInt8) : nextR (dT x y) b l = nxT x y b l := by
  unfold nextR dT nxT
  rw [root3']
/-- a root that may not be: nothing is changed -/
theorem turn_bad (x y : Option (List UInt8 × Nat)) (b : Int) (l : List UInt8) (h : isR (nxT x y b l) = false) : writeR (dT x y) b l = (dT x y, noR, 2) := by
  unfold writeR
  rw [if_neg (by simp [dT]), nxT_eq, if_pos h]
theorem szO_set (n : ByteArray) (b : List UInt8 × Nat) (x y : Option (List UInt8 × Nat)) (hx : szO x ≤ 200) (hy : szO y ≤ 200) (hb : b.1.length ≤ 200) : szO (setX n b x) ≤ 200 ∧ szO (setY n b y) ≤ 200 := by
  unfold setX setY
  split
  · exact ⟨hb, hy⟩
  · exact ⟨hx, hb⟩
/-- a root that may be: it is written -/
theorem turn_ok (x y : Option (List UInt8 × Nat)) (b : Int) (l : List UInt8) (hx : szO x ≤ 200) (hy : szO y ≤ 200) (hl : l.length ≤ 150) (h : isR (nxT x y b l) = true) :
    writeR (dT x y) b l = (dT (setX (nameR (nxT x y b l).serial) (frameL (bodyR (nxT x y b l)), (frameL (bodyR (nxT x y b l))).length) x) (setY (nameR (nxT x y b l).serial) (frameL (bodyR (nxT x y b l)), (frameL (bodyR (nxT x y b l))).length) y), nxT x y b l, 0) := by
  have hsz : (frameL (bodyR (nxT x y b l))).length ≤ 195 := by
    have := frameR_size (nxT x y b l)
    simp only [nxT] at this ⊢
    omega
  unfold writeR
  rw [if_neg (by simp [dT]), nxT_eq, if_neg (by simp [h])]
  rcases place3 none x y 1048576 (-1) (nameR (nxT x y b l).serial) (frameL (bodyR (nxT x y b l))) (nameR_or _) (by omega) (by omega) with ⟨t', e, h0, -⟩ | ⟨fu', e, h1, -⟩
  · omega
  · have h2 := h1 rfl
    subst h2
    have e' : placeR (dT x y) (nameR (nxT x y b l).serial) (frameL (bodyR (nxT x y b l))) = _ := e
    rw [e', if_neg (by simp)]
    rfl
theorem Tn.step {n : Nat} {x y : Option (List UInt8 × Nat)} (h : Tn n x y) (b : Int) (l : List UInt8) (hl : l.length ≤ 150) (hr : isR (nxT x y b l) = true) :
    Tn (n + 1) (setX (nameR (nxT x y b l).serial) (frameL (bodyR (nxT x y b l)), (frameL (bodyR (nxT x y b l))).length) x) (setY (nameR (nxT x y b l).serial) (frameL (bodyR (nxT x y b l)), (frameL (bodyR (nxT x y b l))).length) y) := by
  have hsz : (frameL (bodyR (nxT x y b l))).length ≤ 195 := by
    have := frameR_size (nxT x y b l)
    simp only [nxT] at this ⊢
    omega
  have hs : (nxT x y b l).serial = n + 1 := by
    show (Go.Proofs.YtffgbjojngnebaaDoor.top x y).serial + 1 = n + 1
    rw [h.top]
  obtain ⟨z1, z2⟩ := szO_set (nameR (nxT x y b l).serial) (frameL (bodyR (nxT x y b l)), (frameL (bodyR (nxT x y b l))).length) x y h.hx h.hy (by simp only; omega)
  refine ⟨z1, z2, ?_, ?_, ?_⟩
  · rw [top_set x y _ _ hr (by rw [hs, h.top]; omega), hs]
    omega
  · rw [hs]
    unfold setX nameR
    by_cases hp : ((n : Int) + 1) % 2 = 0
    · rw [if_pos hp, if_pos rfl]
      simp only [Option.isSome_some]
      exact (decide_eq_true (by omega)).symm
    · rw [if_neg hp, if_neg nR_ne, h.cx]
      have : (2 ≤ n) ↔ (2 ≤ n + 1) := by omega
      simp only [this]
  · rw [hs]
    unfold setY nameR
    by_cases hp : ((n : Int) + 1) % 2 = 0
    · rw [if_pos hp, if_pos rfl, h.cy]
      have : (1 ≤ n) ↔ (1 ≤ n + 1) := by omega
      simp only [this]
    · rw [if_neg hp, if_neg nR_ne]
      simp only [Option.isSome_some]
      exact (decide_eq_true (by omega)).symm
/-- the other file is left as it is -/
theorem turn_other {n : Nat} {x y : Option (List UInt8 × Nat)} (s : Int) (hs : s = n + 1) (b : List UInt8 × Nat) : readD (dT (setX (nameR s) b x) (setY (nameR s) b y)) (nmI (n % 2)) = readD (dT x y) (nmI (n % 2)) := by
  subst hs
  unfold dT nameR
  by_cases hp : ((n : Int) + 1) % 2 = 0
  · have h1 : n % 2 = 1 := by omega
    rw [if_pos hp, h1]
    show readD _ nR1 = readD _ nR1
    rw [read_1, read_1]
    unfold setY
    rw [if_pos rfl]
  · have h1 : n % 2 = 0 := by omega
    rw [if_neg hp, h1]
    show readD _ nR0 = readD _ nR0
    rw [read_0, read_0]
    unfold setX
    rw [if_neg nR_ne]
theorem Tn.count {n : Nat} {x y : Option (List UInt8 × Nat)} (h : Tn n x y) : (dT x y).files.length = min n 2 := by
  have h1 := h.cx
  have h2 := h.cy
  unfold dT
  cases x <;> cases y <;> simp [fs3, ent] at h1 h2 ⊢ <;> omega
theorem Tn.read {n : Nat} {x y : Option (List UInt8 × Nat)} (h : Tn n x y) : readR (dT x y) = (Go.Proofs.YtffgbjojngnebaaDoor.top x y, decide (0 < n), 0) := by
  unfold readR
  rw [if_neg (by simp [dT])]
  have e : rootD (dT x y) = Go.Proofs.YtffgbjojngnebaaDoor.top x y := root3' _ _ _ _ _
  rw [e, h.top]
  simp

/-- a slice that reads as these roots -/
def RdR (w : World) (v : Value) (xs : List (AR × Value)) : Prop :=
  ∃ ao cap, v = .slice ao xs.length cap ∧ xs.length ≤ cap ∧ cap ≤ maxLen ∧ ∀ k (h : k < xs.length), ∃ b off, ao = some ⟨b, off, none⟩ ∧ b < w.heap.size ∧
    w.cell? ⟨b, off + k * 3, none⟩ = some (.int .i64 xs[k].1.serial) ∧ w.cell? ⟨b, off + k * 3 + 1, none⟩ = some (.int .i64 xs[k].1.batch) ∧ w.cell? ⟨b, off + k * 3 + 2, none⟩ = some xs[k].2 ∧ Rd w xs[k].2 xs[k].1.blob
end Go.Proofs.YtffgbjojngnebaaDoor
