/-
  awake: the chapter's examples come out as written. Own work.
-/
import Derived.Test.YtlngeonfabahnaaDoorCf
import Derived.Test.YtlngeonfabahnaaDoorCh
import Derived.Laws.OwnMore
namespace Go.Proofs.YtlngeonfabahnaaDoor
open Go.RowKit

/-- three cells of a block that may be written -/
def C3 (w : World) (g : Nat) (a b c : Value) : Prop := g < w.heap.size ∧ w.cell? ⟨g, 0, none⟩ = some a ∧ w.cell? ⟨g, 1, none⟩ = some b ∧ w.cell? ⟨g, 2, none⟩ = some c ∧ w.frozen? ⟨g, 0, none⟩ = false ∧ w.frozen? ⟨g, 1, none⟩ = false ∧ w.frozen? ⟨g, 2, none⟩ = false
theorem C3.of {w : World} {g : Nat} {a b c : Value} {t : TypeId} (h : w.heap[g]? = some (.cells #[a, b, c] t (0, 0))) : C3 w g a b c :=
  ⟨(Array.getElem?_eq_some_iff.1 h).1, by simp [World.cell?, h], by simp [World.cell?, h], by simp [World.cell?, h], by simp [World.frozen?, h], by simp [World.frozen?, h], by simp [World.frozen?, h]⟩
theorem C3.new (w : World) (a b c : Value) (t : TypeId) : C3 (w.alloc (.cells #[a, b, c] t)) w.heap.size a b c := C3.of (heap_alloc_new w _)
theorem C3.below {w w' : World} {g : Nat} {a b c : Value} (h : C3 w g a b c) (hb : Below w.heap.size w w') : C3 w' g a b c := by
  obtain ⟨h0, h1, h2, h3, h4, h5, h6⟩ := h
  exact ⟨Nat.lt_of_lt_of_le h0 hb.size, (hb.cell (p := ⟨g, 0, none⟩) h0).trans h1, (hb.cell (p := ⟨g, 1, none⟩) h0).trans h2, (hb.cell (p := ⟨g, 2, none⟩) h0).trans h3, (hb.frozen (p := ⟨g, 0, none⟩) h0).trans h4, (hb.frozen (p := ⟨g, 1, none⟩) h0).trans h5, (hb.frozen (p := ⟨g, 2, none⟩) h0).trans h6⟩
theorem C3.alloc {w : World} {g : Nat} {a b c : Value} (h : C3 w g a b c) (o : Obj) : C3 (w.alloc o) g a b c := h.below ((Below.refl _ _).alloc (Nat.le_refl _) _)

def set3 (w : World) (g : Nat) (a b c : Value) : World := ((w.setCell ⟨g, 0, none⟩ a).setCell ⟨g, 1, none⟩ b).setCell ⟨g, 2, none⟩ c
theorem set3_size (w : World) (g : Nat) (a b c : Value) : (set3 w g a b c).heap.size = w.heap.size := by simp [set3, World.setCell]
theorem below_set3 {B g : Nat} {w w' : World} (h : Below B w w') (a b c : Value) (hg : B ≤ g) : Below B w (set3 w' g a b c) := ((h.setCell hg _).setCell hg _).setCell hg _
theorem cell_other (w : World) (g o g' o' : Nat) (x : Value) (h : g ≠ g' ∨ o ≠ o') : (w.setCell ⟨g', o', none⟩ x).cell? ⟨g, o, none⟩ = w.cell? ⟨g, o, none⟩ :=
  World.cell?_setCell_other w _ _ x (fun e => by cases e; rcases h with h | h <;> exact h rfl)
theorem C3.other {w : World} {g g' : Nat} {a b c : Value} (x y z : Value) (h : C3 w g a b c) (hg : g ≠ g') : C3 (set3 w g' x y z) g a b c := by
  obtain ⟨h0, h1, h2, h3, h4, h5, h6⟩ := h
  have e : ∀ o, (set3 w g' x y z).cell? ⟨g, o, none⟩ = w.cell? ⟨g, o, none⟩ := fun o => by
    unfold set3
    rw [cell_other _ _ _ _ _ _ (.inl hg), cell_other _ _ _ _ _ _ (.inl hg), cell_other _ _ _ _ _ _ (.inl hg)]
  have f : ∀ o, (set3 w g' x y z).frozen? ⟨g, o, none⟩ = w.frozen? ⟨g, o, none⟩ := fun o => by simp [set3]
  exact ⟨by rw [set3_size]; exact h0, (e 0).trans h1, (e 1).trans h2, (e 2).trans h3, (f 0).trans h4, (f 1).trans h5, (f 2).trans h6⟩
theorem C3.set {w : World} {g : Nat} {a b c : Value} (x y z : Value) (h : C3 w g a b c) : C3 (set3 w g x y z) g x y z := by
  obtain ⟨h0, h1, h2, h3, h4, h5, h6⟩ := h
  have f : ∀ o, (set3 w g x y z).frozen? ⟨g, o, none⟩ = w.frozen? ⟨g, o, none⟩ := fun o => by simp [set3]
  refine ⟨by rw [set3_size]; exact h0, ?_, ?_, ?_, (f 0).trans h4, (f 1).trans h5, (f 2).trans h6⟩
  · unfold set3
    rw [cell_other _ _ _ _ _ _ (.inr (by omega)), cell_other _ _ _ _ _ _ (.inr (by omega))]
    exact World.cell?_setCell_same _ _ _ h1
  · unfold set3
    rw [cell_other _ _ _ _ _ _ (.inr (by omega))]
    exact World.cell?_setCell_same _ _ _ ((cell_other _ _ _ _ _ _ (.inr (by omega))).trans h2)
  · unfold set3
    exact World.cell?_setCell_same _ _ _ ((cell_other _ _ _ _ _ _ (.inr (by omega))).trans ((cell_other _ _ _ _ _ _ (.inr (by omega))).trans h3))
theorem C3.one {w : World} {g g' o : Nat} {a b c : Value} (x : Value) (h : C3 w g a b c) (hg : g ≠ g') : C3 (w.setCell ⟨g', o, none⟩ x) g a b c := by
  obtain ⟨h0, h1, h2, h3, h4, h5, h6⟩ := h
  exact ⟨by simpa [World.setCell] using h0, (cell_other _ _ _ _ _ _ (.inl hg)).trans h1, (cell_other _ _ _ _ _ _ (.inl hg)).trans h2, (cell_other _ _ _ _ _ _ (.inl hg)).trans h3, by simpa using h4, by simpa using h5, by simpa using h6⟩
theorem C3.third {w : World} {g : Nat} {a b c : Value} (x : Value) (h : C3 w g a b c) : C3 (w.setCell ⟨g, 2, none⟩ x) g a b x := by
  obtain ⟨h0, h1, h2, h3, h4, h5, h6⟩ := h
  exact ⟨by simpa [World.setCell] using h0, (cell_other _ _ _ _ _ _ (.inr (by omega))).trans h1, (cell_other _ _ _ _ _ _ (.inr (by omega))).trans h2, World.cell?_setCell_same _ _ _ h3, by simpa using h4, by simpa using h5, by simpa using h6⟩
end Go.Proofs.YtlngeonfabahnaaDoor
