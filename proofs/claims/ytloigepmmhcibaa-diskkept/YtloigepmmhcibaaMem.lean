/-
  How a disk lies in memory: definitions and lemmas, with no walk. Own work.
-/
import Derived.Test.YtloigepmmhcibaaPure
import Derived.Test.YtloigepmmhcibaaWa
namespace Go.Proofs.Ytloigepmmhcibaa
open Go.RowKit

/-- files with the slices of their bytes, as cells -/
def cellsOf (ps : List (AF × Value)) : List Value := ps.flatMap fun p => [.string p.1.name, p.2, .int .i64 p.1.safe]
theorem cellsOf_length (ps : List (AF × Value)) : (cellsOf ps).length = ps.length * 3 := by
  unfold cellsOf
  induction ps with
  | nil => rfl
  | cons p t ih => simp only [List.flatMap_cons, List.length_append, ih, List.length_cons, List.length_nil]; omega
theorem cellsOf_append (a b : List (AF × Value)) : cellsOf (a ++ b) = cellsOf a ++ cellsOf b := by simp [cellsOf]
theorem cellsOf_cons (p : AF × Value) (t : List (AF × Value)) : cellsOf (p :: t) = .string p.1.name :: p.2 :: .int .i64 p.1.safe :: cellsOf t := by simp [cellsOf]
theorem cellsOf_take (ps : List (AF × Value)) (i : Nat) : (cellsOf ps).take (i * 3) = cellsOf (ps.take i) := by
  induction ps generalizing i with
  | nil => simp [cellsOf]
  | cons p t ih =>
    cases i with
    | zero => simp [cellsOf]
    | succ i =>
      rw [cellsOf_cons, List.take_succ_cons, cellsOf_cons, ← ih, show (i + 1) * 3 = i * 3 + 1 + 1 + 1 by omega]
      simp only [List.take_succ_cons]
theorem cellsOf_drop (ps : List (AF × Value)) (i : Nat) : (cellsOf ps).drop (i * 3) = cellsOf (ps.drop i) := by
  induction ps generalizing i with
  | nil => simp [cellsOf]
  | cons p t ih =>
    cases i with
    | zero => simp [cellsOf]
    | succ i =>
      rw [cellsOf_cons, List.drop_succ_cons, ← ih, show (i + 1) * 3 = i * 3 + 1 + 1 + 1 by omega]
      simp only [List.drop_succ_cons]
theorem cellsOf_get (ps : List (AF × Value)) (i : Nat) (h : i < ps.length) : (cellsOf ps)[i * 3]? = some (.string ps[i].1.name) ∧ (cellsOf ps)[i * 3 + 1]? = some ps[i].2 ∧ (cellsOf ps)[i * 3 + 2]? = some (.int .i64 ps[i].1.safe) := by
  have hd := cellsOf_drop ps i
  rw [List.drop_eq_getElem_cons h, cellsOf_cons] at hd
  have e : ∀ j, (cellsOf ps)[i * 3 + j]? = ((cellsOf ps).drop (i * 3))[j]? := fun j => by rw [List.getElem?_drop]
  refine ⟨?_, ?_, ?_⟩
  · have := e 0
    rw [hd] at this
    simpa using this
  · rw [e 1, hd]; rfl
  · rw [e 2, hd]; rfl

/-- two slices of bytes that lie apart -/
def Apart (v u : Value) : Prop := ∀ a, v.ownBlock = some a → u.ownBlock ≠ some a
theorem Apart.symm {v u : Value} (h : Apart v u) : Apart u v := fun a ha hv => h a hv ha

/-- a disk in memory: the disk's block, its state's, the closure's variable's; the files' slice; the files with the slices of their bytes -/
structure St (w : World) (bd bs bc : Nat) (fv : Value) (ps : List (AF × Value)) (most : Nat) (fuse : Int) (dark : Bool) : Prop where
  hd : w.heap[bd]? = some (.cells #[.pointer (some ⟨bs, 0, none⟩)] 57 (0, 0))
  hs : w.heap[bs]? = some (.cells #[fv, .func (.func 40) #[] #[.pointer (some ⟨bc, 0, none⟩)], .int .i64 most, .int .i64 fuse, .bool dark] 79 (0, 0))
  hc : w.heap[bc]? = some (.cells #[.pointer (some ⟨bs, 0, none⟩)] 55 (0, 0))
  hf : w.ownsRow 0 83 3 fv ps.length (cellsOf ps)
  hb : ∀ p ∈ ps, Own w 0 p.2 p.1.bytes
  hp : ps.Pairwise fun p q => Apart p.2 q.2

/-- the blocks that a disk takes -/
def Blk (bd bs bc : Nat) (fv : Value) (ps : List (AF × Value)) (b : Nat) : Prop := b = bd ∨ b = bs ∨ b = bc ∨ fv.ownBlock = some b ∨ ∃ p ∈ ps, p.2.ownBlock = some b

/-- what has been changed lies in F, or is new -/
structure Chg (F : Nat → Prop) (w w' : World) : Prop where
  os : w'.os = w.os
  tape : w'.tape = w.tape
  output : w'.output = w.output
  size : w.heap.size ≤ w'.heap.size
  block : ∀ k, k < w.heap.size → ¬ F k → w'.heap[k]? = w.heap[k]?

theorem Chg.refl (F : Nat → Prop) (w : World) : Chg F w w := ⟨rfl, rfl, rfl, Nat.le_refl _, fun _ _ _ => rfl⟩
theorem Chg.trans {F G : Nat → Prop} {a b c : World} (h : Chg F a b) (k : Chg G b c) (hg : ∀ i, i < a.heap.size → G i → F i) : Chg F a c :=
  ⟨k.os.trans h.os, k.tape.trans h.tape, k.output.trans h.output, Nat.le_trans h.size k.size, fun i hi hf => (k.block i (Nat.lt_of_lt_of_le hi h.size) (fun hG => hf (hg i hi hG))).trans (h.block i hi hf)⟩
theorem Chg.mono {F G : Nat → Prop} {a b : World} (h : Chg F a b) (hg : ∀ i, i < a.heap.size → F i → G i) : Chg G a b :=
  ⟨h.os, h.tape, h.output, h.size, fun i hi hG => h.block i hi (fun hF => hG (hg i hi hF))⟩
theorem Chg.below {F : Nat → Prop} {w w' : World} (h : Chg F w w') (B : Nat) (hB : ∀ k, F k → B ≤ k) (hw : B ≤ w.heap.size) : Below B w w' :=
  ⟨h.os, h.tape, h.output, h.size, fun k hk => h.block k (by omega) (fun hF => by have := hB k hF; omega)⟩
theorem Chg.ofBelow {w w' : World} (h : Below w.heap.size w w') (F : Nat → Prop) : Chg F w w' :=
  ⟨h.os, h.tape, h.output, h.size, fun k hk _ => h.block k hk⟩
theorem Chg.drew {F : Nat → Prop} {a w : World} (h : Chg F a w) : Chg F a w.drew := ⟨h.os, h.tape, h.output, h.size, h.block⟩
theorem Chg.alloc {F : Nat → Prop} {a w : World} (h : Chg F a w) (o : Obj) : Chg F a (w.alloc o) :=
  ⟨h.os, h.tape, h.output, by have := h.size; simp; omega, fun k hk hF => (Below.heap_alloc _ _ _ (by have := h.size; omega)).trans (h.block k hk hF)⟩
theorem Chg.setCell {F : Nat → Prop} {a w : World} (h : Chg F a w) {p : Addr} (hp : F p.block ∨ a.heap.size ≤ p.block) (u : Value) : Chg F a (w.setCell p u) :=
  ⟨h.os, h.tape, h.output, by have := h.size; simp [World.setCell]; omega, fun k hk hF => by
    rw [Below.heap_setCell _ _ _ _ (by rintro rfl; rcases hp with hp | hp; exact hF hp; omega)]
    exact h.block k hk hF⟩
theorem Chg.grown {F : Nat → Prop} {a w w' : World} {row : Option Nat} (h : Chg F a w) (hg : w.grownBy w' row) (hr : ∀ k, row = some k → F k ∨ a.heap.size ≤ k) : Chg F a w' :=
  ⟨hg.os.trans h.os, hg.tape.trans h.tape, hg.output.trans h.output, Nat.le_trans h.size hg.size, fun k hk hF =>
    (hg.block k (by have := h.size; omega) (fun e => by rcases hr k e.symm with x | x; exact hF x; omega)).trans (h.block k hk hF)⟩

theorem Own.heap {w w' : World} {v : Value} {l : List UInt8} (h : Own w 0 v l) (hk : ∀ a, v.ownBlock = some a → w'.heap[a]? = w.heap[a]?) : Own w' 0 v l := by
  refine ⟨h.1, ?_⟩
  rcases h.2 with h2 | ⟨g, cap, cur, hv, hb2, hg, r⟩
  · exact .inl h2
  · exact .inr ⟨g, cap, cur, hv, hb2, by rw [hk g (by rw [hv]; rfl)]; exact hg, r⟩
theorem rowHeap {w w' : World} {v : Value} {e k n : Nat} {xs : List Value} (h : w.ownsRow 0 e k v n xs) (hk : ∀ a, v.ownBlock = some a → w'.heap[a]? = w.heap[a]?) : w'.ownsRow 0 e k v n xs := by
  refine ⟨h.1, ?_⟩
  rcases h.2 with h2 | ⟨g, cap, cur, hv, hb2, hg, r⟩
  · exact .inl h2
  · exact .inr ⟨g, cap, cur, hv, hb2, by rw [hk g (by rw [hv]; rfl)]; exact hg, r⟩

theorem St.heap {w w' : World} {bd bs bc : Nat} {fv : Value} {ps : List (AF × Value)} {most : Nat} {fuse : Int} {dark : Bool} (h : St w bd bs bc fv ps most fuse dark)
    (hk : ∀ b, Blk bd bs bc fv ps b → w'.heap[b]? = w.heap[b]?) : St w' bd bs bc fv ps most fuse dark :=
  ⟨(hk _ (.inl rfl)).trans h.hd, (hk _ (.inr (.inl rfl))).trans h.hs, (hk _ (.inr (.inr (.inl rfl)))).trans h.hc,
    rowHeap h.hf fun a ha => hk a (.inr (.inr (.inr (.inl ha)))), fun p hp => (h.hb p hp).heap fun a ha => hk a (.inr (.inr (.inr (.inr ⟨p, hp, ha⟩)))), h.hp⟩

theorem St.lt {w : World} {bd bs bc : Nat} {fv : Value} {ps : List (AF × Value)} {most : Nat} {fuse : Int} {dark : Bool} (h : St w bd bs bc fv ps most fuse dark) (b : Nat) (hb : Blk bd bs bc fv ps b) : b < w.heap.size := by
  rcases hb with rfl | rfl | rfl | hb | ⟨p, hp, hb⟩
  · exact (Array.getElem?_eq_some_iff.1 h.hd).1
  · exact (Array.getElem?_eq_some_iff.1 h.hs).1
  · exact (Array.getElem?_eq_some_iff.1 h.hc).1
  · exact (World.ownsRow.lt h.hf b hb).2
  · exact (World.ownsRow.lt (h.hb p hp) b hb).2
theorem St.below {w w' : World} {bd bs bc : Nat} {fv : Value} {ps : List (AF × Value)} {most : Nat} {fuse : Int} {dark : Bool} (h : St w bd bs bc fv ps most fuse dark) (hb : Below w.heap.size w w') : St w' bd bs bc fv ps most fuse dark :=
  h.heap fun b hB => hb.block b (h.lt b hB)
theorem St.chg {w w' : World} {bd bs bc : Nat} {fv : Value} {ps : List (AF × Value)} {most : Nat} {fuse : Int} {dark : Bool} {F : Nat → Prop} (h : St w bd bs bc fv ps most fuse dark) (hb : Chg F w w') (hF : ∀ b, Blk bd bs bc fv ps b → ¬ F b) : St w' bd bs bc fv ps most fuse dark :=
  h.heap fun b hB => hb.block b (h.lt b hB) (hF b hB)

theorem cell_of {w : World} {b : Nat} {c : Array Value} {e : TypeId} {f : Nat × Nat} (h : w.heap[b]? = some (.cells c e f)) (i : Nat) : w.cell? ⟨b, i, none⟩ = c[i]? := by simp [World.cell?, h]
theorem frozen_of {w : World} {b : Nat} {c : Array Value} {e : TypeId} (h : w.heap[b]? = some (.cells c e (0, 0))) (i : Nat) : w.frozen? ⟨b, i, none⟩ = false := by simp [World.frozen?, h]

section
variable {w : World} {bd bs bc : Nat} {fv : Value} {ps : List (AF × Value)} {most : Nat} {fuse : Int} {dark : Bool}
theorem St.d0 (h : St w bd bs bc fv ps most fuse dark) : w.cell? ⟨bd, 0, none⟩ = some (.pointer (some ⟨bs, 0, none⟩)) := by rw [cell_of h.hd]; rfl
theorem St.c0 (h : St w bd bs bc fv ps most fuse dark) : w.cell? ⟨bc, 0, none⟩ = some (.pointer (some ⟨bs, 0, none⟩)) := by rw [cell_of h.hc]; rfl
theorem St.s0 (h : St w bd bs bc fv ps most fuse dark) : w.cell? ⟨bs, 0, none⟩ = some fv := by rw [cell_of h.hs]; rfl
theorem St.s1 (h : St w bd bs bc fv ps most fuse dark) : w.cell? ⟨bs, 1, none⟩ = some (.func (.func 40) #[] #[.pointer (some ⟨bc, 0, none⟩)]) := by rw [cell_of h.hs]; rfl
theorem St.s2 (h : St w bd bs bc fv ps most fuse dark) : w.cell? ⟨bs, 2, none⟩ = some (.int .i64 most) := by rw [cell_of h.hs]; rfl
theorem St.s3 (h : St w bd bs bc fv ps most fuse dark) : w.cell? ⟨bs, 3, none⟩ = some (.int .i64 fuse) := by rw [cell_of h.hs]; rfl
theorem St.s4 (h : St w bd bs bc fv ps most fuse dark) : w.cell? ⟨bs, 4, none⟩ = some (.bool dark) := by rw [cell_of h.hs]; rfl
theorem St.sz (h : St w bd bs bc fv ps most fuse dark) (i : Nat) : w.frozen? ⟨bs, i, none⟩ = false := frozen_of h.hs i
theorem St.ltd (h : St w bd bs bc fv ps most fuse dark) : bd < w.heap.size := h.lt _ (.inl rfl)
theorem St.lts (h : St w bd bs bc fv ps most fuse dark) : bs < w.heap.size := h.lt _ (.inr (.inl rfl))
theorem St.ltc (h : St w bd bs bc fv ps most fuse dark) : bc < w.heap.size := h.lt _ (.inr (.inr (.inl rfl)))
end
end Go.Proofs.Ytloigepmmhcibaa
