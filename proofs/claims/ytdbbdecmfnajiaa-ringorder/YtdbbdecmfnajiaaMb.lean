/-
  A queue in memory; own rows of numbers; the contracts of place, room. Own work.
-/
import Derived.Test.YtdbbdecmfnajiaaMa
import Derived.Deep.RegionHeld3
import Derived.Deep.RegionHeldLaw
import Derived.Deep.QuietTactic
import Derived.BigQuiet
import Derived.Laws.Rows
namespace Go.Proofs.Ytdbbdecmfnajiaa
open Go.RowKit

theorem below_drew {w w' : World} (h : Below w.drew.heap.size w.drew w') : Below w.heap.size w w' := ⟨h.os, h.tape, h.output, h.size, h.block⟩
theorem below_call {w w1 w2 : World} (h : Below w.heap.size w w1) (hb : Below w1.heap.size w1 w2) : Below w.heap.size w w2 := h.trans (hb.mono h.size)
theorem heap_new (w : World) (o : Obj) : (w.alloc o).heap[w.heap.size]? = some o := (MapKept.heap_alloc w _).1
theorem add_at (g j : Nat) : (⟨g, 0, none⟩ : Addr).add j = ⟨g, j, none⟩ := by unfold Addr.add; split <;> simp_all

/-- places in memory: cells that hold numbers; n of them -/
def Pl (w : World) (pv : Value) (n : Nat) (f : Nat → Int) : Prop :=
  (pv = .slice none 0 0 ∧ n = 0) ∨ ∃ g cur, pv = .slice (some ⟨g, 0, none⟩) n n ∧ w.heap[g]? = some (.cells cur 3 (0, 0)) ∧ cur.size = n ∧ 0 < n ∧ n ≤ 1000000 ∧ ∀ i, i < n → cur[i]? = some (.int .i64 (f i))
theorem Pl.heap {w w' : World} {pv : Value} {n : Nat} {f : Nat → Int} (h : Pl w pv n f) (hk : ∀ a, pv.ownBlock = some a → w'.heap[a]? = w.heap[a]?) : Pl w' pv n f := by
  rcases h with h | ⟨g, cur, rfl, hg, r⟩
  · exact .inl h
  · exact .inr ⟨g, cur, rfl, (hk g rfl).trans hg, r⟩
theorem Pl.lt {w : World} {pv : Value} {n : Nat} {f : Nat → Int} (h : Pl w pv n f) (a : Nat) (ha : pv.ownBlock = some a) : a < w.heap.size := by
  rcases h with ⟨rfl, _⟩ | ⟨g, cur, rfl, hg, _⟩
  · cases ha
  · cases ha; exact lt_of hg
theorem Pl.elem {w : World} {pv : Value} {n : Nat} {f : Nat → Int} (h : Pl w pv n f) (a : Nat) (ha : pv.ownBlock = some a) : ∃ cur, w.heap[a]? = some (.cells cur 3 (0, 0)) := by
  rcases h with ⟨rfl, _⟩ | ⟨g, cur, rfl, hg, _⟩
  · cases ha
  · cases ha; exact ⟨_, hg⟩
theorem Pl.at {w : World} {pv : Value} {n : Nat} {f : Nat → Int} (h : Pl w pv n f) (hn : 0 < n) : ∃ g, pv = .slice (some ⟨g, 0, none⟩) n n ∧ g < w.heap.size ∧ n ≤ 1000000 ∧ (∀ o, w.frozen? ⟨g, o, none⟩ = false) ∧ ∀ i, i < n → w.cell? ⟨g, i, none⟩ = some (.int .i64 (f i)) := by
  rcases h with ⟨_, rfl⟩ | ⟨g, cur, hv, hg, h1, h2, h3, h4⟩
  · omega
  · exact ⟨g, hv, lt_of hg, h3, fun o => frozen_of hg o, fun i hi => by rw [cell_of hg]; exact h4 i hi⟩
theorem Pl.shape {w : World} {pv : Value} {n : Nat} {f : Nat → Int} (h : Pl w pv n f) : n ≤ 1000000 ∧ ∃ ao, pv = .slice ao n n := by
  rcases h with ⟨rfl, rfl⟩ | ⟨g, cur, hv, hg, h1, h2, h3, h4⟩
  · exact ⟨by omega, none, rfl⟩
  · exact ⟨h3, _, hv⟩
def setF (f : Nat → Int) (p : Nat) (x : Int) : Nat → Int := fun i => if i = p then x else f i
theorem Pl.set {w : World} {g n : Nat} {f : Nat → Int} (h : Pl w (.slice (some ⟨g, 0, none⟩) n n) n f) (p : Nat) (hp : p < n) (x : Int) : Pl (w.setCell ⟨g, p, none⟩ (.int .i64 x)) (.slice (some ⟨g, 0, none⟩) n n) n (setF f p x) := by
  rcases h with ⟨h, _⟩ | ⟨g', cur, h, hg, h1, h2, h3, h4⟩
  · cases h
  · cases h
    refine .inr ⟨g, _, rfl, heap_setCell_same w g p cur 3 _ hg, by simp [h1], h2, h3, fun i hi => ?_⟩
    unfold setF
    rw [Array.getElem?_setIfInBounds]
    by_cases e : p = i
    · subst e
      rw [if_pos rfl, if_pos rfl, if_pos (by omega)]
    · rw [if_neg e, if_neg (Ne.symm e)]
      exact h4 i hi
theorem Pl.congr {w : World} {pv : Value} {n : Nat} {f g : Nat → Int} (h : Pl w pv n f) (e : ∀ i, i < n → g i = f i) : Pl w pv n g := by
  rcases h with h | ⟨b, cur, hv, hg, h1, h2, h3, h4⟩
  · exact .inl h
  · exact .inr ⟨b, cur, hv, hg, h1, h2, h3, fun i hi => by rw [e i hi]; exact h4 i hi⟩

/-- a queue: block qb; its places pv, n of them; count numbers from the place 'first' on -/
structure Qm (w : World) (qb : Nat) (pv : Value) (most : Int) (n first count : Nat) (f : Nat → Int) : Prop where
  cs : w.heap[qb]? = some (.cells #[.int .i64 most, pv, .int .i64 first, .int .i64 count] 93 (0, 0))
  pl : Pl w pv n f
  fi : first < n ∨ n = 0 ∧ first = 0
  le : count ≤ n
  mo : 0 ≤ most ∧ most ≤ 65536
  cm : count ≤ 65536
section
variable {w : World} {qb n first count : Nat} {pv : Value} {most : Int} {f : Nat → Int}
theorem Qm.s0 (h : Qm w qb pv most n first count f) : w.cell? ⟨qb, 0, none⟩ = some (.int .i64 most) := by rw [cell_of h.cs]; rfl
theorem Qm.s1 (h : Qm w qb pv most n first count f) : w.cell? ⟨qb, 1, none⟩ = some pv := by rw [cell_of h.cs]; rfl
theorem Qm.s2 (h : Qm w qb pv most n first count f) : w.cell? ⟨qb, 2, none⟩ = some (.int .i64 first) := by rw [cell_of h.cs]; rfl
theorem Qm.s3 (h : Qm w qb pv most n first count f) : w.cell? ⟨qb, 3, none⟩ = some (.int .i64 count) := by rw [cell_of h.cs]; rfl
theorem Qm.heap {w' : World} (h : Qm w qb pv most n first count f) (h1 : w'.heap[qb]? = w.heap[qb]?) (h2 : ∀ a, pv.ownBlock = some a → w'.heap[a]? = w.heap[a]?) : Qm w' qb pv most n first count f :=
  ⟨h1.trans h.cs, h.pl.heap h2, h.fi, h.le, h.mo, h.cm⟩
theorem Qm.below {w' : World} (h : Qm w qb pv most n first count f) (hb : Below w.heap.size w w') : Qm w' qb pv most n first count f :=
  h.heap (hb.block _ (lt_of h.cs)) fun a ha => hb.block _ (h.pl.lt a ha)
theorem Qm.drew (h : Qm w qb pv most n first count f) : Qm w.drew qb pv most n first count f := h.heap rfl fun _ _ => rfl
theorem Qm.row_ne (h : Qm w qb pv most n first count f) : pv.ownBlock ≠ some qb := by
  intro e
  obtain ⟨cur, hc⟩ := h.pl.elem qb e
  exact ne_of_elem hc h.cs (by decide) rfl
end
theorem drewN_below (w : World) (k : Nat) : Below w.heap.size w (w.drewN k) := ⟨rfl, rfl, rfl, Nat.le_refl _, fun _ _ => rfl⟩

set_option maxRecDepth 100000 in
set_option maxHeartbeats 1600000 in
/-- where the i-th number behind the first one stands -/
theorem place_any {w : World} {qb n first count : Nat} {pv : Value} {most : Int} (hc : w.heap[qb]? = some (.cells #[.int .i64 most, pv, .int .i64 first, .int .i64 count] 93 (0, 0))) (hp : ∃ ao, pv = .slice ao n n) (hn : 0 < n) (hn2 : n ≤ 1000000) (hf : first < n) (i : Nat) (hi : i ≤ 1000000) :
    Calls Try.prog 61 #[.pointer (some ⟨qb, 0, none⟩), .int .i64 i] w fun e w' => e = .returned (.int .i64 ((first + i) % n : Nat)) ∧ ∃ k, w' = w.drewN k := by
  obtain ⟨ao, rfl⟩ := hp
  have s1 : w.cell? ⟨qb, 1, none⟩ = some (.slice ao n n) := by rw [cell_of hc]; rfl
  have s2 : w.cell? ⟨qb, 2, none⟩ = some (.int .i64 first) := by rw [cell_of hc]; rfl
  clear hc
  have hnI : (0 : Int) < (n : Int) := by omega
  have hn0 : ¬ (n : Int) = 0 := by omega
  have hfI : (first : Int) < (n : Int) := by omega
  have hiI : (i : Int) ≤ 1000000 := by omega
  have hnJ : (n : Int) ≤ 1000000 := by omega
  go_enter Try.func61, Try.ntmps61
  go_wp2_with fail
  go_quiet (fail)
  go_wp2_with fail
  go_ret
  exact ⟨ret_int (by push_cast; rfl), _, rfl⟩
end Go.Proofs.Ytdbbdecmfnajiaa
