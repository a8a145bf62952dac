/-
  Rows of timers in memory; a heap's state; the contracts of ahead, below. Own work.
-/
import Derived.Test.YtemlanalaihkoaaMe
namespace Go.Proofs.Ytemlanalaihkoaa
open Go.RowKit Go.Sort

theorem order_any (a b : Tm) (w : World) : Calls Try.prog 38 #[.agg #[.int .i64 a.1, .int .i64 a.2], .agg #[.int .i64 b.1, .int .i64 b.2]] w fun e w' => e = .returned (.int .i64 (cmpT a b)) ∧ Below w.heap.size w w' :=
  (order_grow a b w).mono fun e w' ⟨h1, q, os, h2⟩ => ⟨h1, by
    subst h2
    refine ⟨?_, ?_, ?_, ?_, fun k hk => ?_⟩
    · rfl
    · rfl
    · rfl
    · simp [grow]
    · simp only [grow, World.drewN]
      rw [Array.getElem?_append_left hk]⟩

/-- a slice of the call's own that holds the timers f 0 .. f (n - 1) -/
def Tr (w : World) (v : Value) (n : Nat) (f : Nat → Tm) : Prop :=
  (v = .slice none 0 0 ∧ n = 0) ∨ ∃ g cap cur, v = .slice (some ⟨g, 0, none⟩) n cap ∧ w.heap[g]? = some (.cells cur 30 (0, 0)) ∧ n ≤ cap ∧ cap ≤ maxLen ∧ cur.size = cap * 2 ∧
    ∀ i, i < n → cur[i * 2]? = some (.int .i64 (f i).1) ∧ cur[i * 2 + 1]? = some (.int .i64 (f i).2)
def cellsF (f : Nat → Tm) (n : Nat) : List Value := (List.range n).flatMap fun i => [.int .i64 (f i).1, .int .i64 (f i).2]
theorem cellsF_succ (f : Nat → Tm) (n : Nat) : cellsF f (n + 1) = cellsF f n ++ [.int .i64 (f n).1, .int .i64 (f n).2] := by
  simp [cellsF, List.range_succ, List.flatMap_append]
theorem cellsF_len (f : Nat → Tm) (n : Nat) : (cellsF f n).length = n * 2 := by
  induction n with
  | zero => rfl
  | succ n ih => rw [cellsF_succ, List.length_append, ih]; simp; omega
theorem cellsF_get (f : Nat → Tm) (n i : Nat) (h : i < n) : (cellsF f n)[i * 2]? = some (.int .i64 (f i).1) ∧ (cellsF f n)[i * 2 + 1]? = some (.int .i64 (f i).2) := by
  induction n with
  | zero => omega
  | succ n ih =>
    rw [cellsF_succ]
    have hl := cellsF_len f n
    by_cases e : i = n
    · subst e
      rw [List.getElem?_append_right (by omega), List.getElem?_append_right (by omega), hl]
      simp
    · rw [List.getElem?_append_left (by omega), List.getElem?_append_left (by omega)]
      exact ih (by omega)
theorem cellsF_ext {f : Nat → Tm} {n : Nat} {l : List Value} (hl : l.length = n * 2) (h : ∀ i, i < n → l[i * 2]? = some (.int .i64 (f i).1) ∧ l[i * 2 + 1]? = some (.int .i64 (f i).2)) : l = cellsF f n := by
  apply List.ext_getElem?
  intro k
  by_cases hk : k < n * 2
  · rcases Nat.mod_two_eq_zero_or_one k with e | e
    · have : k = k / 2 * 2 := by omega
      rw [this, (h (k / 2) (by omega)).1, (cellsF_get f n (k / 2) (by omega)).1]
    · have : k = k / 2 * 2 + 1 := by omega
      rw [this, (h (k / 2) (by omega)).2, (cellsF_get f n (k / 2) (by omega)).2]
  · rw [List.getElem?_eq_none (by omega), List.getElem?_eq_none (by rw [cellsF_len]; omega)]
theorem Tr.row {w : World} {v : Value} {n : Nat} {f : Nat → Tm} (h : Tr w v n f) : w.ownsRow 0 30 2 v n (cellsF f n) := by
  refine ⟨cellsF_len f n, ?_⟩
  rcases h with h | ⟨g, cap, cur, hv, hg, h1, h2, h3, h4⟩
  · exact .inl h
  · refine .inr ⟨g, cap, cur, hv, Nat.zero_le _, hg, h1, h2, h3, cellsF_ext ?_ fun i hi => ?_⟩
    · rw [List.length_take, Array.length_toList]; omega
    · obtain ⟨a, b⟩ := h4 i hi
      rw [List.getElem?_take, List.getElem?_take, if_pos (by omega), if_pos (by omega)]
      simpa using ⟨a, b⟩
theorem Tr.of_row {w : World} {b : Nat} {v : Value} {n : Nat} {f : Nat → Tm} (h : w.ownsRow b 30 2 v n (cellsF f n)) : Tr w v n f := by
  rcases h.2 with h | ⟨g, cap, cur, hv, _, hg, h1, h2, h3, h4⟩
  · exact .inl h
  · refine .inr ⟨g, cap, cur, hv, hg, h1, h2, h3, fun i hi => ?_⟩
    obtain ⟨a, b⟩ := cellsF_get f n i hi
    rw [← h4, List.getElem?_take, if_pos (by omega)] at a b
    rw [Array.getElem?_toList] at a b
    exact ⟨a, b⟩
theorem Tr.heap {w w' : World} {v : Value} {n : Nat} {f : Nat → Tm} (h : Tr w v n f) (hk : ∀ a, v.ownBlock = some a → w'.heap[a]? = w.heap[a]?) : Tr w' v n f := by
  rcases h with h | ⟨g, cap, cur, hv, hg, r⟩
  · exact .inl h
  · exact .inr ⟨g, cap, cur, hv, by rw [hk g (by rw [hv]; rfl)]; exact hg, r⟩
theorem Tr.congr {w : World} {v : Value} {n : Nat} {f g : Nat → Tm} (h : Tr w v n f) (e : ∀ i, i < n → g i = f i) : Tr w v n g := by
  rcases h with h | ⟨b, cap, cur, hv, hg, h1, h2, h3, h4⟩
  · exact .inl h
  · exact .inr ⟨b, cap, cur, hv, hg, h1, h2, h3, fun i hi => by rw [e i hi]; exact h4 i hi⟩
theorem Tr.lt {w : World} {v : Value} {n : Nat} {f : Nat → Tm} (h : Tr w v n f) (a : Nat) (ha : v.ownBlock = some a) : a < w.heap.size := by
  rcases h with ⟨rfl, _⟩ | ⟨g, cap, cur, rfl, hg, r⟩
  · cases ha
  · cases ha; exact lt_of hg
theorem Tr.elem {w : World} {v : Value} {n : Nat} {f : Nat → Tm} (h : Tr w v n f) (a : Nat) (ha : v.ownBlock = some a) : ∃ cur, w.heap[a]? = some (.cells cur 30 (0, 0)) := by
  rcases h with ⟨rfl, _⟩ | ⟨g, cap, cur, rfl, hg, r⟩
  · cases ha
  · cases ha; exact ⟨_, hg⟩
theorem Tr.shape {w : World} {v : Value} {n : Nat} {f : Nat → Tm} (h : Tr w v n f) : ∃ ao cap, v = .slice ao n cap ∧ n ≤ maxLen := by
  rcases h with ⟨rfl, rfl⟩ | ⟨g, cap, cur, rfl, hg, h1, h2, _⟩
  · exact ⟨none, 0, rfl, by simp⟩
  · exact ⟨_, _, rfl, by omega⟩
theorem Tr.less {w : World} {v : Value} {n : Nat} {f : Nat → Tm} {ao : Option Addr} {cap : Nat} (h : Tr w v n f) (hv : v = .slice ao n cap) (m : Nat) (hm : m ≤ n) : Tr w (.slice ao m cap) m f := by
  subst hv
  rcases h with ⟨h, rfl⟩ | ⟨g, c, cur, h, hg, h1, h2, h3, h4⟩
  · cases h
    have : m = 0 := by omega
    subst this
    exact .inl ⟨rfl, rfl⟩
  · cases h
    exact .inr ⟨g, _, cur, rfl, hg, by omega, h2, h3, fun i hi => h4 i (by omega)⟩
/-- the two cells of one timer -/
theorem Tr.cells {w : World} {v : Value} {n : Nat} {f : Nat → Tm} (h : Tr w v n f) (hn : 0 < n) : ∃ g cap, v = .slice (some ⟨g, 0, none⟩) n cap ∧ g < w.heap.size ∧ n ≤ cap ∧ (∀ o, w.frozen? ⟨g, o, none⟩ = false) ∧
    ∀ i, i < n → w.cell? ⟨g, i * 2, none⟩ = some (.int .i64 (f i).1) ∧ w.cell? ⟨g, i * 2 + 1, none⟩ = some (.int .i64 (f i).2) := by
  rcases h with ⟨_, rfl⟩ | ⟨g, cap, cur, hv, hg, h1, h2, h3, h4⟩
  · omega
  · refine ⟨g, cap, hv, lt_of hg, h1, fun o => frozen_of hg o, fun i hi => ?_⟩
    rw [cell_of hg, cell_of hg]
    exact h4 i hi
/-- one timer is written over -/
theorem Tr.set {w : World} {g cap n : Nat} {f : Nat → Tm} (h : Tr w (.slice (some ⟨g, 0, none⟩) n cap) n f) (p : Nat) (hp : p < n) (x : Tm) :
    Tr ((w.setCell ⟨g, p * 2, none⟩ (.int .i64 x.1)).setCell ⟨g, p * 2 + 1, none⟩ (.int .i64 x.2)) (.slice (some ⟨g, 0, none⟩) n cap) n (setF f p x) := by
  rcases h with ⟨h, _⟩ | ⟨g', c, cur, h, hg, h1, h2, h3, h4⟩
  · cases h
  · cases h
    have a1 : (w.setCell ⟨g, p * 2, none⟩ (.int .i64 x.1)).heap[g]? = some (.cells (cur.setIfInBounds (p * 2) (.int .i64 x.1)) 30 (0, 0)) := heap_setCell_same w g (p * 2) cur 30 _ hg
    have a2 := heap_setCell_same _ g (p * 2 + 1) _ 30 (.int .i64 x.2) a1
    refine .inr ⟨g, cap, _, rfl, a2, h1, h2, by simp [h3], fun i hi => ?_⟩
    obtain ⟨b1, b2⟩ := h4 i hi
    by_cases e : i = p
    · subst e
      rw [setF_same]
      simp only [Array.getElem?_setIfInBounds, Array.size_setIfInBounds]
      rw [if_neg (by omega), if_pos trivial, if_pos (by omega), if_pos trivial, if_pos (by omega)]
      exact ⟨rfl, rfl⟩
    · rw [setF_other _ _ _ _ e]
      simp only [Array.getElem?_setIfInBounds, Array.size_setIfInBounds]
      rw [if_neg (by omega), if_neg (by omega), if_neg (by omega), if_neg (by omega)]
      exact ⟨b1, b2⟩

/-- a heap's state: block sb, its map mb, its row tv with the n timers of f -/
structure Sm (w : World) (sb mb : Nat) (tv : Value) (most n : Nat) (f : Nat → Tm) : Prop where
  cs : w.heap[sb]? = some (.cells #[.int .i64 most, tv, .map (some mb)] 79 (0, 0))
  tr : Tr w tv n f
  le : n ≤ most
  mx : most ≤ 65536
  rg : ∀ i, i < n → I64 (f i).1 ∧ I64 (f i).2
/-- the blocks that it takes -/
def Blk (sb mb : Nat) (tv : Value) (b : Nat) : Prop := b = sb ∨ b = mb ∨ tv.ownBlock = some b
theorem Sm.heap {w w' : World} {sb mb most n : Nat} {tv : Value} {f : Nat → Tm} (h : Sm w sb mb tv most n f) (h1 : w'.heap[sb]? = w.heap[sb]?) (h2 : ∀ a, tv.ownBlock = some a → w'.heap[a]? = w.heap[a]?) : Sm w' sb mb tv most n f :=
  ⟨h1.trans h.cs, h.tr.heap h2, h.le, h.mx, h.rg⟩
theorem Sm.below {w w' : World} {sb mb most n : Nat} {tv : Value} {f : Nat → Tm} (h : Sm w sb mb tv most n f) (hb : Below w.heap.size w w') : Sm w' sb mb tv most n f :=
  h.heap (hb.block _ (lt_of h.cs)) fun a ha => hb.block _ (h.tr.lt a ha)
theorem Sm.drew {w : World} {sb mb most n : Nat} {tv : Value} {f : Nat → Tm} (h : Sm w sb mb tv most n f) : Sm w.drew sb mb tv most n f := h.heap rfl fun _ _ => rfl
theorem Sm.s0 {w : World} {sb mb most n : Nat} {tv : Value} {f : Nat → Tm} (h : Sm w sb mb tv most n f) : w.cell? ⟨sb, 0, none⟩ = some (.int .i64 most) := by rw [cell_of h.cs]; rfl
theorem Sm.s1 {w : World} {sb mb most n : Nat} {tv : Value} {f : Nat → Tm} (h : Sm w sb mb tv most n f) : w.cell? ⟨sb, 1, none⟩ = some tv := by rw [cell_of h.cs]; rfl
theorem Sm.s2 {w : World} {sb mb most n : Nat} {tv : Value} {f : Nat → Tm} (h : Sm w sb mb tv most n f) : w.cell? ⟨sb, 2, none⟩ = some (.map (some mb)) := by rw [cell_of h.cs]; rfl
theorem Sm.chg {w w' : World} {sb mb most n : Nat} {tv : Value} {f : Nat → Tm} {F : Nat → Prop} (h : Sm w sb mb tv most n f) (hc : Chg F w w') (h1 : ¬ F sb) (h2 : ∀ a, tv.ownBlock = some a → ¬ F a) : Sm w' sb mb tv most n f :=
  h.heap (hc.block _ (lt_of h.cs) h1) fun a ha => hc.block _ (h.tr.lt a ha) (h2 a ha)
/-- the row lies elsewhere than the state -/
theorem Sm.row_ne {w : World} {sb mb most n : Nat} {tv : Value} {f : Nat → Tm} (h : Sm w sb mb tv most n f) : tv.ownBlock ≠ some sb := by
  intro e
  obtain ⟨cur, hc⟩ := h.tr.elem sb e
  exact ne_of_elem hc h.cs (by decide) rfl
theorem Sm.rows {w : World} {sb mb most n : Nat} {tv : Value} {f : Nat → Tm} (h : Sm w sb mb tv most n f) (hn : 0 < n) : ∃ g cap, tv = .slice (some ⟨g, 0, none⟩) n cap ∧ n ≤ cap ∧ g ≠ sb ∧ g < w.heap.size ∧ (∀ o, w.frozen? ⟨g, o, none⟩ = false) ∧ ∀ i, i < n → w.cell? ⟨g, i * 2, none⟩ = some (.int .i64 (f i).1) ∧ w.cell? ⟨g, i * 2 + 1, none⟩ = some (.int .i64 (f i).2) := by
  obtain ⟨g, cap, hv, h1, h2, h3, h4⟩ := h.tr.cells hn
  refine ⟨g, cap, hv, h2, fun e => h.row_ne ?_, h1, h3, h4⟩
  rw [hv, e]; rfl
end Go.Proofs.Ytemlanalaihkoaa
