/-
  Rows of elements of several cells in memory, read and owned, of any element type. Own work.
-/
import Derived.Test.YtlngeonfabahnaaDoorCt
namespace Go.Proofs.YtlngeonfabahnaaDoor
open Go.RowKit

theorem addr_add (b off j : Nat) : (⟨b, off, none⟩ : Addr).add j = ⟨b, off + j, none⟩ := by
  simp [Addr.add]
/-- slices t of elements e, of sz cells each -/
structure RT (t e : TypeId) (sz : Nat) : Prop where
  ut : Tryd.prog.underlying t = some (.slice e)
  inf : ∃ i z bytes, Tryd.prog.info? e = some i ∧ i.zero = some z ∧ i.size = sz ∧ i.bytes = bytes ∧ z.cells.size = sz ∧ bytes ≤ 64
  pos : 0 < sz
theorem RT.of {t e : TypeId} {sz bytes : Nat} {z : Value} (ut : Tryd.prog.underlying t = some (.slice e)) (h : (Tryd.prog.info? e).map (fun i => (i.zero, i.size, i.bytes)) = some (some z, sz, bytes)) (hz : z.cells.size = sz) (hb : bytes ≤ 64) (hp : 0 < sz) : RT t e sz := by
  obtain ⟨i, h1, h2, h3, h4⟩ := info_parts h
  exact ⟨ut, ⟨i, z, bytes, h1, h2, h3, h4, hz, hb⟩, hp⟩
theorem rt33 : RT 33 55 5 := RT.of (bytes := 48) (z := .agg #[.int .i64 0, .int .u8 0, .string ⟨#[]⟩, .int .i64 0, .int .i64 0]) Tryd.underlying33 (by kernel_rfl) rfl (by omega) (by omega)
theorem rt25 : RT 25 47 3 := RT.of (bytes := 24) (z := .agg #[.int .i64 0, .int .i64 0, .int .i64 0]) Tryd.underlying25 (by kernel_rfl) rfl (by omega) (by omega)
theorem rt22 : RT 22 52 6 := RT.of (bytes := 56) (z := .agg #[.int .u8 0, .int .i64 0, .int .i64 0, .int .i64 0, .int .i64 0, .string ⟨#[]⟩]) Tryd.underlying22 (by kernel_rfl) rfl (by omega) (by omega)

/-- all have sz cells, and each of them is one cell -/
def Full (sz : Nat) (xs : List (List Value)) : Prop := ∀ x ∈ xs, x.length = sz ∧ ∀ u ∈ x, u.oneCell' = true
theorem Full.nil (sz : Nat) : Full sz [] := fun x h => by cases h
theorem Full.append {sz : Nat} {xs ys : List (List Value)} (h : Full sz xs) (k : Full sz ys) : Full sz (xs ++ ys) := fun x hx => by
  rcases List.mem_append.1 hx with h' | h'
  · exact h x h'
  · exact k x h'
theorem Full.flat {sz : Nat} {xs : List (List Value)} (h : Full sz xs) : xs.flatten.length = xs.length * sz := by
  induction xs with
  | nil => simp
  | cons x t ih =>
    rw [List.flatten_cons, List.length_append, ih (fun y hy => h y (.tail _ hy)), (h x (.head _)).1, List.length_cons, Nat.succ_mul]
    omega
theorem Full.get {sz : Nat} {xs : List (List Value)} (h : Full sz xs) (k j : Nat) (hk : k < xs.length) (u : Value) (hu : xs[k][j]? = some u) : xs.flatten[k * sz + j]? = some u := by
  induction xs generalizing k with
  | nil => simp at hk
  | cons x t ih =>
    have hx := (h x (.head _)).1
    rw [List.flatten_cons]
    cases k with
    | zero =>
      have : j < x.length := (List.getElem?_eq_some_iff.1 hu).1
      rw [Nat.zero_mul, Nat.zero_add, List.getElem?_append_left this]
      exact hu
    | succ k =>
      rw [List.getElem?_append_right (by rw [hx, Nat.succ_mul]; omega), hx, show (k + 1) * sz + j - sz = k * sz + j by rw [Nat.succ_mul]; omega]
      exact ih (fun y hy => h y (.tail _ hy)) k (by simpa using hk) (by simpa using hu)
theorem Full.ones {sz : Nat} {xs : List (List Value)} (h : Full sz xs) : ∀ u ∈ xs.flatten, u.oneCell' = true := fun u hu => by
  obtain ⟨x, hx, hu⟩ := List.mem_flatten.1 hu
  exact (h x hx).2 u hu
theorem Full.back {sz : Nat} {xs : List (List Value)} (h : Full sz xs) (j : Nat) (u : Value) (hu : xs.flatten[j]? = some u) : ∃ (k : Nat) (hk : k < xs.length) (i : Nat), i < sz ∧ j = k * sz + i ∧ xs[k][i]? = some u := by
  induction xs generalizing j with
  | nil => simp at hu
  | cons x t ih =>
    have hx := (h x (.head _)).1
    rw [List.flatten_cons] at hu
    by_cases hj : j < x.length
    · rw [List.getElem?_append_left hj] at hu
      exact ⟨0, by simp, j, by omega, by omega, hu⟩
    · rw [List.getElem?_append_right (by omega)] at hu
      obtain ⟨k, hk, i, hi, e, hh⟩ := ih (fun y hy => h y (.tail _ hy)) _ hu
      exact ⟨k + 1, by simp; omega, i, hi, by rw [Nat.succ_mul]; omega, by simpa using hh⟩

/-- a slice that reads as these elements -/
def RdX (w : World) (v : Value) (sz : Nat) (xs : List (List Value)) : Prop :=
  ∃ ao cap, v = .slice ao xs.length cap ∧ xs.length ≤ cap ∧ cap ≤ maxLen ∧ (ao = none → cap = 0) ∧ ∀ k (h : k < xs.length), ∃ b off, ao = some ⟨b, off, none⟩ ∧ ∀ j u, xs[k][j]? = some u → w.cell? ⟨b, off + k * sz + j, none⟩ = some u
theorem RdX.below {w w' : World} {v : Value} {sz : Nat} {xs : List (List Value)} (h : RdX w v sz xs) (hb : Below w.heap.size w w') : RdX w' v sz xs := by
  obtain ⟨ao, cap, hv, h1, h2, h3, h4⟩ := h
  refine ⟨ao, cap, hv, h1, h2, h3, fun k hk => ?_⟩
  obtain ⟨b, off, e, hc⟩ := h4 k hk
  exact ⟨b, off, e, fun j u hu => by rw [hb.cell (World.block_lt_of_cell? w _ (hc j u hu))]; exact hc j u hu⟩
theorem RdX.alloc {w : World} {v : Value} {sz : Nat} {xs : List (List Value)} (h : RdX w v sz xs) (o : Obj) : RdX (w.alloc o) v sz xs := h.below ((Below.refl _ _).alloc (Nat.le_refl _) _)
theorem RdX.nil (w : World) (sz : Nat) : RdX w (.slice none 0 0) sz [] := ⟨none, 0, rfl, Nat.le_refl _, by simp [maxLen], fun _ => rfl, fun k h => by simp at h⟩
theorem RdX.shape {w : World} {v : Value} {sz : Nat} {xs : List (List Value)} (h : RdX w v sz xs) : ∃ ao cap, v = .slice ao xs.length cap ∧ xs.length ≤ cap ∧ cap ≤ maxLen := by
  obtain ⟨ao, cap, hv, h1, h2, _⟩ := h
  exact ⟨ao, cap, hv, h1, h2⟩
theorem RdX.at {w : World} {ao : Option Addr} {n cap sz : Nat} {xs : List (List Value)} (h : RdX w (.slice ao n cap) sz xs) (k : Nat) (hk : k < xs.length) (h0 : 0 < (xs[k]).length) : ∃ b off, ao = some ⟨b, off, none⟩ ∧ b < w.heap.size ∧
    ∀ j u, xs[k][j]? = some u → w.cell? ⟨b, off + k * sz + j, none⟩ = some u := by
  obtain ⟨ao', cap', hv, h1, h2, h3, h4⟩ := h
  cases hv
  obtain ⟨b, off, e, hc⟩ := h4 k hk
  exact ⟨b, off, e, World.block_lt_of_cell? w _ (hc 0 _ (List.getElem?_eq_getElem h0)), hc⟩
/-- the first of them -/
theorem RdX.take {w : World} {ao : Option Addr} {n cap sz : Nat} {xs : List (List Value)} (h : RdX w (.slice ao n cap) sz xs) (m : Nat) (hm : m ≤ xs.length) : RdX w (.slice ao m cap) sz (xs.take m) := by
  obtain ⟨ao', cap', hv, h1, h2, h3, h4⟩ := h
  cases hv
  have hl : (xs.take m).length = m := by simp; omega
  refine ⟨ao, cap, by rw [hl], by omega, h2, h3, fun k hk => ?_⟩
  obtain ⟨b, off, e, hc⟩ := h4 k (by omega)
  exact ⟨b, off, e, fun j u hu => hc j u (by simpa using hu)⟩
/-- a literal -/
theorem RdX.lit (w : World) (cs : Array Value) (sz n : Nat) (xs : List (List Value)) (e : TypeId) (h : cs = xs.flatten.toArray) (hn : n = xs.length) (hf : Full sz xs) (hm : n ≤ maxLen) : RdX (w.alloc (.cells cs e)) (.slice (some ⟨w.heap.size, 0, none⟩) n n) sz xs := by
  subst hn h
  refine ⟨_, _, rfl, Nat.le_refl _, hm, by simp, fun k hk => ⟨_, _, rfl, fun j u hu => ?_⟩⟩
  rw [cell_of_row _ w.heap.size _ _ e (0, 0) (heap_alloc_new w _), Nat.zero_add]
  have := hf.get k j hk u hu
  simpa using this

/-- a slice of a call's own -/
def OwnX (w : World) (base : Nat) (e : TypeId) (sz : Nat) (v : Value) (xs : List (List Value)) : Prop := Full sz xs ∧ w.ownsRow base e sz v xs.length xs.flatten
theorem OwnX.nil (w : World) (base : Nat) (e : TypeId) (sz : Nat) : OwnX w base e sz (.slice none 0 0) [] := ⟨Full.nil _, World.ownsRow_nil _ _ _ _⟩
theorem OwnX.lt {w : World} {base : Nat} {e : TypeId} {sz : Nat} {v : Value} {xs : List (List Value)} (h : OwnX w base e sz v xs) (k : Nat) (hk : v.ownBlock = some k) : base ≤ k ∧ k < w.heap.size := World.ownsRow.lt h.2 k hk
theorem OwnX.heap {w w' : World} {base : Nat} {e : TypeId} {sz : Nat} {v : Value} {xs : List (List Value)} (h : OwnX w base e sz v xs) (hk : ∀ a, v.ownBlock = some a → w'.heap[a]? = w.heap[a]?) : OwnX w' base e sz v xs := by
  refine ⟨h.1, h.2.1, ?_⟩
  rcases h.2.2 with h2 | ⟨g, cap, cur, hv, hb2, hg, r⟩
  · exact .inl h2
  · exact .inr ⟨g, cap, cur, hv, hb2, by rw [hk g (by rw [hv]; rfl)]; exact hg, r⟩
theorem OwnX.below {w w' : World} {base : Nat} {e : TypeId} {sz : Nat} {v : Value} {xs : List (List Value)} (h : OwnX w base e sz v xs) (hb : Below w.heap.size w w') : OwnX w' base e sz v xs := h.heap fun a ha => hb.block a (h.lt a ha).2
theorem OwnX.alloc {w : World} {base : Nat} {e : TypeId} {sz : Nat} {v : Value} {xs : List (List Value)} (h : OwnX w base e sz v xs) (o : Obj) : OwnX (w.alloc o) base e sz v xs := h.below ((Below.refl _ _).alloc (Nat.le_refl _) _)
theorem OwnX.far {w : World} {base b o : Nat} {e : TypeId} {sz : Nat} {v : Value} {xs : List (List Value)} (h : OwnX w base e sz v xs) (hb : b < base) (u : Value) : OwnX (w.setCell ⟨b, o, none⟩ u) base e sz v xs := h.heap fun a ha => Below.heap_setCell _ _ _ _ (by have := (h.lt a ha).1; show a ≠ b; omega)
theorem OwnX.mono {w : World} {base base' : Nat} {e : TypeId} {sz : Nat} {v : Value} {xs : List (List Value)} (h : OwnX w base e sz v xs) (hb : base' ≤ base) : OwnX w base' e sz v xs := by
  refine ⟨h.1, h.2.1, ?_⟩
  rcases h.2.2 with h2 | ⟨g, cap, cur, hv, hb2, hg, r⟩
  · exact .inl h2
  · exact .inr ⟨g, cap, cur, hv, Nat.le_trans hb hb2, hg, r⟩
theorem OwnX.rd {w : World} {base : Nat} {e : TypeId} {sz : Nat} {v : Value} {xs : List (List Value)} (h : OwnX w base e sz v xs) : RdX w v sz xs := by
  rcases h.2.2 with ⟨rfl, h0⟩ | ⟨g, cap, cur, hv, hb, hg, hn, hm, hs, ht⟩
  · have : xs = [] := List.eq_nil_of_length_eq_zero h0
    subst this
    exact RdX.nil w sz
  · refine ⟨some ⟨g, 0, none⟩, cap, hv, hn, hm, by simp, fun k hk => ⟨g, 0, rfl, fun j u hu => ?_⟩⟩
    have := h.2.cells (g := g) (by rw [hv]; rfl) (k * sz + j) u (h.1.get k j hk u hu)
    rw [addr_add] at this
    rw [Nat.zero_add] at this ⊢
    exact this
theorem OwnX.shape {w : World} {base : Nat} {e : TypeId} {sz : Nat} {v : Value} {xs : List (List Value)} (h : OwnX w base e sz v xs) : ∃ ao cap, v = .slice ao xs.length cap := by
  obtain ⟨ao, cap, hv, -⟩ := h.rd.shape
  exact ⟨ao, cap, hv⟩
theorem OwnX.lit (w : World) (base : Nat) (hb : base ≤ w.heap.size) (cs : Array Value) (sz n : Nat) (xs : List (List Value)) (e : TypeId) (h : cs = xs.flatten.toArray) (hn : n = xs.length) (hf : Full sz xs) (hm : n ≤ maxLen) : OwnX (w.alloc (.cells cs e)) base e sz (.slice (some ⟨w.heap.size, 0, none⟩) n n) xs := by
  subst hn h
  have := World.ownsRow_lit (size := sz) (e := e) w xs.flatten.toArray xs.length hb hm (by simpa using hf.flat)
  exact ⟨hf, by simpa using this⟩
/-- more are laid behind them -/
theorem OwnX.append {t e : TypeId} {sz : Nat} (R : RT t e sz) {w : World} {base : Nat} {v u : Value} {xs ys : List (List Value)} (h : OwnX w base e sz v xs) (k : RdX w u sz ys) (hf : Full sz ys) (hl : xs.length + ys.length ≤ 1000000) (hb : base ≤ w.heap.size) (ty : TypeId) :
    ∃ v' w', (Builtin.append_ #[t, t] ty #[v, u]).run Tryd.prog w = .ok v' w' ∧ OwnX w' base e sz v' (xs ++ ys) ∧ w.grownBy w' v.ownBlock ∧ Below base w w' := by
  obtain ⟨i, z, bytes, h1, h2, h3, h4, h5, h6⟩ := R.inf
  obtain ⟨ao, cap, rfl, k1, k2, k3, k4⟩ := k
  cases ao with
  | none =>
    have hc := k3 rfl
    subst hc
    have hy : ys = [] := List.eq_nil_of_length_eq_zero (by omega)
    subst hy
    refine ⟨v, w, run_append_owned_none w base t ty e i sz R.ut h1 v _ _ h.2, by rw [List.append_nil]; exact h, ⟨rfl, rfl, rfl, Nat.le_refl _, fun _ _ _ => rfl⟩, Below.refl _ _⟩
  | some a =>
    have hcell : ∀ j u, ys.flatten[j]? = some u → w.cell? (a.add j) = some u := fun j u hu => by
      obtain ⟨q, hq, i, hi, rfl, hh⟩ := hf.back j u hu
      obtain ⟨b, off, ea, hc⟩ := k4 q hq
      cases ea
      rw [addr_add, ← Nat.add_assoc]
      exact hc i u hh
    have hby : (xs.length + ys.length) * bytes ≤ 140737488355328 := Nat.le_trans (Nat.mul_le_mul hl h6) (by omega)
    obtain ⟨v', w', hr, ho, hg, -⟩ := run_append_own w base t ty e i z sz bytes R.ut h1 h2 h3 h4 h5 R.pos v xs.length xs.flatten h.2 a ys.length cap ys.flatten hf.flat hcell hf.ones (by unfold maxLen; omega) hby hb
    refine ⟨v', w', hr, ⟨h.1.append hf, ?_⟩, hg, (Below.refl base w).grown hg hb (fun k hk => (h.lt k hk).1)⟩
    rw [List.length_append, List.flatten_append]
    exact ho
end Go.Proofs.YtlngeonfabahnaaDoor
