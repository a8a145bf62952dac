/-
  How a disk in memory changes: lemmas, with no walk. Own work.
-/
import Derived.Test.YtloigepmmhcibaaMem
namespace Go.Proofs.Ytloigepmmhcibaa
open Go.RowKit

theorem ne_of_elem {w : World} {a b : Nat} {c d : Array Value} {e f : TypeId} {x y : Nat × Nat} (ha : w.heap[a]? = some (.cells c e x)) (hb : w.heap[b]? = some (.cells d f y)) (h : e ≠ f) : a ≠ b := by
  rintro rfl
  rw [ha] at hb
  cases hb
  exact h rfl
theorem row_elem {w : World} {v : Value} {e k n : Nat} {xs : List Value} (h : w.ownsRow 0 e k v n xs) {a : Nat} (ha : v.ownBlock = some a) : ∃ c, w.heap[a]? = some (.cells c e (0, 0)) := by
  rcases h.2 with ⟨rfl, _⟩ | ⟨g, cap, cur, rfl, _, hg, _⟩
  · simp [Value.ownBlock] at ha
  · simp [Value.ownBlock] at ha
    subst ha
    exact ⟨cur, hg⟩
theorem heap_set {w : World} {b i : Nat} {c : Array Value} {e : TypeId} {x : Nat × Nat} (h : w.heap[b]? = some (.cells c e x)) (u : Value) : (w.setCell ⟨b, i, none⟩ u).heap[b]? = some (.cells (c.setIfInBounds i u) e x) := by
  simp [World.setCell, Array.getElem?_modify, h]

section
variable {w w' : World} {bd bs bc : Nat} {fv fv' : Value} {ps ps' : List (AF × Value)} {most : Nat} {fuse : Int} {dark : Bool}

theorem St.fv_ne (h : St w bd bs bc fv ps most fuse dark) {a : Nat} (ha : fv.ownBlock = some a) : a ≠ bd ∧ a ≠ bs ∧ a ≠ bc ∧ ∀ p ∈ ps, p.2.ownBlock ≠ some a := by
  obtain ⟨c, hc⟩ := row_elem h.hf ha
  refine ⟨ne_of_elem hc h.hd (by decide), ne_of_elem hc h.hs (by decide), ne_of_elem hc h.hc (by decide), fun p hp e => ?_⟩
  obtain ⟨c', hc'⟩ := row_elem (h.hb p hp) e
  exact ne_of_elem hc hc' (by decide) rfl
theorem St.by_ne (h : St w bd bs bc fv ps most fuse dark) {v : Value} {l : List UInt8} (hv : Own w 0 v l) {a : Nat} (ha : v.ownBlock = some a) : a ≠ bd ∧ a ≠ bs ∧ a ≠ bc ∧ fv.ownBlock ≠ some a := by
  obtain ⟨c, hc⟩ := row_elem hv ha
  refine ⟨ne_of_elem hc h.hd (by decide), ne_of_elem hc h.hs (by decide), ne_of_elem hc h.hc (by decide), fun e => ?_⟩
  obtain ⟨c', hc'⟩ := row_elem h.hf e
  exact ne_of_elem hc hc' (by decide) rfl
theorem St.ds (h : St w bd bs bc fv ps most fuse dark) : bd ≠ bs ∧ bd ≠ bc ∧ bc ≠ bs := ⟨ne_of_elem h.hd h.hs (by decide), ne_of_elem h.hd h.hc (by decide), ne_of_elem h.hc h.hs (by decide)⟩

/-- the files' row is another one -/
theorem St.files (h : St w bd bs bc fv ps most fuse dark) (hg : w.grownBy w' fv.ownBlock) (hrow : w'.ownsRow 0 83 3 fv' ps'.length (cellsOf ps')) (hb : ∀ p ∈ ps', Own w 0 p.2 p.1.bytes) (hp : ps'.Pairwise fun p q => Apart p.2 q.2) :
    St (w'.setCell ⟨bs, 0, none⟩ fv') bd bs bc fv' ps' most fuse dark := by
  obtain ⟨n1, n2, n3⟩ := h.ds
  have hne : ∀ a, a = bd ∨ a = bs ∨ a = bc → some a ≠ fv.ownBlock := fun a ha e => by
    obtain ⟨h1, h2, h3, _⟩ := h.fv_ne e.symm
    rcases ha with rfl | rfl | rfl
    · exact h1 rfl
    · exact h2 rfl
    · exact h3 rfl
  have hs' : w'.heap[bs]? = some (.cells #[fv, .func (.func 40) #[] #[.pointer (some ⟨bc, 0, none⟩)], .int .i64 most, .int .i64 fuse, .bool dark] 79 (0, 0)) := (hg.block bs h.lts (hne bs (.inr (.inl rfl)))).trans h.hs
  have ho : ∀ a, a ≠ bs → (w'.setCell ⟨bs, 0, none⟩ fv').heap[a]? = w'.heap[a]? := fun a ha => Below.heap_setCell _ _ _ _ ha
  refine ⟨?_, ?_, ?_, ?_, fun p hp' => ?_, hp⟩
  · rw [ho _ n1, hg.block bd h.ltd (hne bd (.inl rfl))]; exact h.hd
  · rw [heap_set hs']; rfl
  · rw [ho _ n3, hg.block bc h.ltc (hne bc (.inr (.inr rfl)))]; exact h.hc
  · refine rowHeap hrow fun a ha => ho a ?_
    obtain ⟨c, hc⟩ := row_elem hrow ha
    exact ne_of_elem hc hs' (by decide)
  · refine Own.heap (hb p hp') fun a ha => ?_
    obtain ⟨m1, m2, m3, m4⟩ := h.by_ne (hb p hp') ha
    rw [ho a m2, hg.block a (World.ownsRow.lt (hb p hp') a ha).2 (fun e => m4 e.symm)]

/-- one of the numbers of the state is another one -/
theorem St.setFuse (h : St w bd bs bc fv ps most fuse dark) (n : Int) : St (w.setCell ⟨bs, 3, none⟩ (.int .i64 n)) bd bs bc fv ps most n dark := by
  obtain ⟨n1, n2, n3⟩ := h.ds
  have ho : ∀ a, a ≠ bs → (w.setCell ⟨bs, 3, none⟩ (.int .i64 n)).heap[a]? = w.heap[a]? := fun a ha => Below.heap_setCell _ _ _ _ ha
  refine ⟨?_, ?_, ?_, rowHeap h.hf fun a ha => ho a (h.fv_ne ha).2.1, fun p hp' => Own.heap (h.hb p hp') fun a ha => ho a (h.by_ne (h.hb p hp') ha).2.1, h.hp⟩
  · rw [ho _ n1]; exact h.hd
  · rw [heap_set h.hs]; rfl
  · rw [ho _ n3]; exact h.hc
theorem St.setDark (h : St w bd bs bc fv ps most fuse dark) (b : Bool) : St (w.setCell ⟨bs, 4, none⟩ (.bool b)) bd bs bc fv ps most fuse b := by
  obtain ⟨n1, n2, n3⟩ := h.ds
  have ho : ∀ a, a ≠ bs → (w.setCell ⟨bs, 4, none⟩ (.bool b)).heap[a]? = w.heap[a]? := fun a ha => Below.heap_setCell _ _ _ _ ha
  refine ⟨?_, ?_, ?_, rowHeap h.hf fun a ha => ho a (h.fv_ne ha).2.1, fun p hp' => Own.heap (h.hb p hp') fun a ha => ho a (h.by_ne (h.hb p hp') ha).2.1, h.hp⟩
  · rw [ho _ n1]; exact h.hd
  · rw [heap_set h.hs]; rfl
  · rw [ho _ n3]; exact h.hc

/-- the files' row is written, or grown, where it lies; the cell that names it stands -/
theorem St.row (h : St w bd bs bc fv ps most fuse dark) (hg : w.grownBy w' fv.ownBlock) (hrow : w'.ownsRow 0 83 3 fv ps'.length (cellsOf ps')) (hb : ∀ p ∈ ps', Own w 0 p.2 p.1.bytes) (hp : ps'.Pairwise fun p q => Apart p.2 q.2) :
    St w' bd bs bc fv ps' most fuse dark := by
  have hne : ∀ a, a = bd ∨ a = bs ∨ a = bc → some a ≠ fv.ownBlock := fun a ha e => by
    obtain ⟨h1, h2, h3, _⟩ := h.fv_ne e.symm
    rcases ha with rfl | rfl | rfl
    · exact h1 rfl
    · exact h2 rfl
    · exact h3 rfl
  exact ⟨(hg.block bd h.ltd (hne bd (.inl rfl))).trans h.hd, (hg.block bs h.lts (hne bs (.inr (.inl rfl)))).trans h.hs, (hg.block bc h.ltc (hne bc (.inr (.inr rfl)))).trans h.hc, hrow,
    fun p hp' => Own.heap (hb p hp') fun a ha => hg.block a (World.ownsRow.lt (hb p hp') a ha).2 (fun e => (h.by_ne (hb p hp') ha).2.2.2 e.symm), hp⟩
end

theorem cellsOf_set (ps : List (AF × Value)) (i : Nat) (hi : i < ps.length) (f : AF) (v : Value) :
    (((cellsOf ps).set (i * 3) (.string f.name)).set (i * 3 + 1) v).set (i * 3 + 2) (.int .i64 f.safe) = cellsOf (ps.take i ++ (f, v) :: ps.drop (i + 1)) := by
  induction ps generalizing i with
  | nil => simp at hi
  | cons p t ih =>
    cases i with
    | zero => simp [cellsOf_cons]
    | succ i =>
      have hi' : i < t.length := by simpa using hi
      rw [cellsOf_cons, List.take_succ_cons, List.drop_succ_cons, List.cons_append, cellsOf_cons, ← ih i hi']
      rw [show (i + 1) * 3 = i * 3 + 1 + 1 + 1 by omega, show i * 3 + 1 + 1 + 1 + 1 = (i * 3 + 1) + 1 + 1 + 1 by omega, show i * 3 + 1 + 1 + 1 + 2 = (i * 3 + 2) + 1 + 1 + 1 by omega]
      simp only [List.set_cons_succ]
theorem cellsOf_set1 (ps : List (AF × Value)) (i : Nat) (hi : i < ps.length) (v : Value) (b : List UInt8) : (cellsOf ps).set (i * 3 + 1) v = cellsOf (ps.take i ++ (⟨ps[i].1.name, b, ps[i].1.safe⟩, v) :: ps.drop (i + 1)) := by
  rw [← cellsOf_set ps i hi]
  obtain ⟨h1, h2, h3⟩ := cellsOf_get ps i hi
  apply List.ext_getElem?
  intro j
  simp only [List.getElem?_set, List.length_set]
  have hl := cellsOf_length ps
  by_cases e2 : i * 3 + 2 = j
  · subst e2
    rw [if_neg (by omega), if_pos rfl, if_pos (by omega), h3]
  · rw [if_neg e2]
    by_cases e1 : i * 3 + 1 = j
    · rw [if_pos e1, if_pos e1]
    · rw [if_neg e1, if_neg e1]
      by_cases e0 : i * 3 = j
      · subst e0
        rw [if_pos rfl, if_pos (by omega), h1]
      · rw [if_neg e0]
theorem cellsOf_set2 (ps : List (AF × Value)) (i : Nat) (hi : i < ps.length) (s : Nat) : (cellsOf ps).set (i * 3 + 2) (.int .i64 s) = cellsOf (ps.take i ++ (⟨ps[i].1.name, ps[i].1.bytes, s⟩, ps[i].2) :: ps.drop (i + 1)) := by
  rw [← cellsOf_set ps i hi]
  obtain ⟨h1, h2, h3⟩ := cellsOf_get ps i hi
  apply List.ext_getElem?
  intro j
  simp only [List.getElem?_set, List.length_set]
  have hl := cellsOf_length ps
  by_cases e2 : i * 3 + 2 = j
  · rw [if_pos e2, if_pos e2]
  · rw [if_neg e2, if_neg e2]
    by_cases e1 : i * 3 + 1 = j
    · subst e1
      rw [if_pos rfl, if_pos (by omega), h2]
    · rw [if_neg e1]
      by_cases e0 : i * 3 = j
      · subst e0
        rw [if_pos rfl, if_pos (by omega), h1]
      · rw [if_neg e0]

/-- files that are laid down at a place, in the stead of others: apart still -/
theorem pair_put {ps : List (AF × Value)} (hp : ps.Pairwise fun p q => Apart p.2 q.2) (i j : Nat) (hij : i ≤ j) (x : AF × Value) (hx : ∀ p ∈ ps.take i ++ ps.drop j, Apart p.2 x.2) : (ps.take i ++ x :: ps.drop j).Pairwise fun p q => Apart p.2 q.2 := by
  rw [List.pairwise_append, List.pairwise_cons]
  refine ⟨hp.sublist (List.take_sublist ..), ⟨fun a ha => (hx a (List.mem_append_right _ ha)).symm, hp.sublist (List.drop_sublist ..)⟩, fun a ha b hb => ?_⟩
  rcases List.mem_cons.1 hb with rfl | hb
  · exact hx a (List.mem_append_left _ ha)
  · obtain ⟨k, hk, rfl⟩ := List.mem_iff_getElem.1 ha
    obtain ⟨l, hl, rfl⟩ := List.mem_iff_getElem.1 hb
    rw [List.getElem_take, List.getElem_drop]
    simp only [List.length_take] at hk
    simp only [List.length_drop] at hl
    exact List.pairwise_iff_getElem.1 hp _ _ _ _ (by omega)
theorem mem_put {ps : List (AF × Value)} {i j : Nat} {x p : AF × Value} (h : p ∈ ps.take i ++ x :: ps.drop j) : p = x ∨ p ∈ ps := by
  rcases List.mem_append.1 h with h | h
  · exact .inr (List.mem_of_mem_take h)
  · rcases List.mem_cons.1 h with h | h
    · exact .inl h
    · exact .inr (List.mem_of_mem_drop h)

theorem gtrans {a b c : World} {r : Option Nat} (h : a.grownBy b r) (k : b.grownBy c r) : a.grownBy c r :=
  ⟨k.os.trans h.os, k.tape.trans h.tape, k.output.trans h.output, Nat.le_trans h.size k.size, fun i hi hr => (k.block i (Nat.lt_of_lt_of_le hi h.size) hr).trans (h.block i hi hr)⟩

theorem apart_at {ps : List (AF × Value)} (hp : ps.Pairwise fun p q => Apart p.2 q.2) (i : Nat) (hi : i < ps.length) : ∀ p ∈ ps.take i ++ ps.drop (i + 1), Apart p.2 ps[i].2 := by
  intro p hm
  rcases List.mem_append.1 hm with hm | hm
  · obtain ⟨k, hk, rfl⟩ := List.mem_iff_getElem.1 hm
    rw [List.getElem_take]
    simp only [List.length_take] at hk
    exact List.pairwise_iff_getElem.1 hp k i (by omega) hi (by omega)
  · obtain ⟨k, hk, rfl⟩ := List.mem_iff_getElem.1 hm
    rw [List.getElem_drop]
    simp only [List.length_drop] at hk
    exact (List.pairwise_iff_getElem.1 hp i (i + 1 + k) hi (by omega) (by omega)).symm
section
variable {w : World} {bd bs bc g cap : Nat} {ps : List (AF × Value)} {most : Nat} {fuse : Int} {dark : Bool}
theorem put_len {α : Type} (ps : List α) (i : Nat) (hi : i < ps.length) (x : α) : (ps.take i ++ x :: ps.drop (i + 1)).length = ps.length := by
  simp only [List.length_append, List.length_take, List.length_cons, List.length_drop]; omega
/-- a file is laid down in the stead of another one -/
theorem St.setFile (h : St w bd bs bc (.slice (some ⟨g, 0, none⟩) ps.length cap) ps most fuse dark) (i : Nat) (hi : i < ps.length) (f : AF) (v : Value) (hv : Own w 0 v f.bytes) (hap : ∀ p ∈ ps.take i ++ ps.drop (i + 1), Apart p.2 v) :
    St (((w.setCell ⟨g, i * 3, none⟩ (.string f.name)).setCell ⟨g, i * 3 + 1, none⟩ v).setCell ⟨g, i * 3 + 2, none⟩ (.int .i64 f.safe)) bd bs bc (.slice (some ⟨g, 0, none⟩) ps.length cap) (ps.take i ++ (f, v) :: ps.drop (i + 1)) most fuse dark := by
  obtain ⟨o1, g1⟩ := World.ownsRow.stored h.hf (i * 3) (.string f.name)
  obtain ⟨o2, g2⟩ := World.ownsRow.stored o1 (i * 3 + 1) v
  obtain ⟨o3, g3⟩ := World.ownsRow.stored o2 (i * 3 + 2) (.int .i64 f.safe)
  rw [cellsOf_set ps i hi] at o3
  refine h.row (gtrans g1 (gtrans g2 g3)) ?_ (fun p hp => ?_) (pair_put h.hp i (i + 1) (by omega) (f, v) hap)
  · rw [put_len ps i hi]; exact o3
  · rcases mem_put hp with rfl | hp
    · exact hv
    · exact h.hb p hp
theorem St.setSafe (h : St w bd bs bc (.slice (some ⟨g, 0, none⟩) ps.length cap) ps most fuse dark) (i : Nat) (hi : i < ps.length) (s : Nat) :
    St (w.setCell ⟨g, i * 3 + 2, none⟩ (.int .i64 s)) bd bs bc (.slice (some ⟨g, 0, none⟩) ps.length cap) (ps.take i ++ (⟨ps[i].1.name, ps[i].1.bytes, s⟩, ps[i].2) :: ps.drop (i + 1)) most fuse dark := by
  obtain ⟨o1, g1⟩ := World.ownsRow.stored h.hf (i * 3 + 2) (.int .i64 s)
  rw [cellsOf_set2 ps i hi] at o1
  refine h.row g1 ?_ (fun p hp => ?_) (pair_put h.hp i (i + 1) (by omega) _ ?_)
  · rw [put_len ps i hi]; exact o1
  · rcases mem_put hp with rfl | hp
    · exact h.hb ps[i] (List.getElem_mem hi)
    · exact h.hb p hp
  · exact apart_at h.hp i hi
end
end Go.Proofs.Ytloigepmmhcibaa
