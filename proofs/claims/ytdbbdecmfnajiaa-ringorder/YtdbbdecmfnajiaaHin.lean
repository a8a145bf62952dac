/-
  What came in: numbers, calls upon rings. Own work.
-/
import Derived.Test.YtdbbdecmfnajiaaMr
import Derived.Below
import Derived.ProofKit
import Derived.OpenShut
import Derived.WideShapes
import Derived.ChangeAt
import Derived.Deep.Slices
namespace Go.Proofs.Ytdbbdecmfnajiaa
open Go.RowKit Go.ChangeShapes Go.WideShapes Go.ChangeAt

theorem cells3 : Try.prog.cellsOf 3 = 1 := by kernel_rfl
theorem cells9 : Try.prog.cellsOf 9 = 1 := by kernel_rfl
theorem cells43 : Try.prog.cellsOf 43 = 3 := by kernel_rfl
theorem list_ofT {α : Type} {p : Nat → α → Prop} (n : Nat) (h : ∀ i, i < n → ∃ x, p i x) : ∃ l : List α, l.length = n ∧ ∀ i (hi : i < l.length), p i l[i] := by
  induction n with
  | zero => exact ⟨[], rfl, fun i hi => by simp at hi⟩
  | succ n ih =>
    obtain ⟨l, hl, hp⟩ := ih (fun i hi => h i (by omega))
    obtain ⟨x, hx⟩ := h n (by omega)
    refine ⟨l ++ [x], by simp [hl], fun i hi => ?_⟩
    by_cases hil : i < l.length
    · rw [List.getElem_append_left hil]
      exact hp i hil
    · have : i = n := by simp at hi; omega
      subst this
      rw [List.getElem_append_right (by omega)]
      simpa using hx
theorem i64_of {n : Int} (h : (Lit.int .i64 n).wf = true) : I64 n := bounds_i64 h
theorem add_cell {W : World} {a : Addr} {y : Value} (h : W.cell? (a.add 0) = some y) : ∃ b off, a = ⟨b, off, none⟩ ∧ ∀ j, a.add j = ⟨b, off + j, none⟩ := by
  obtain ⟨b, off, sp⟩ := a
  have hsp : sp = none := by
    cases sp with
    | none => rfl
    | some s =>
      simp [Addr.add, World.cell?] at h
      split at h <;> simp at h
  subst hsp
  exact ⟨b, off, rfl, fun j => by unfold Addr.add; split <;> simp_all⟩
set_option maxRecDepth 100000 in
theorem ints_of {H : Type} {enc : TypeId × Value → H} {W : World} {fuel : Nat} {v : Value} {x : DataW H × List MemPlace} (hf : DataW.trod enc Try.prog W 0 (fun _ => true) true fuel 22 [v] = some x) :
    ∃ l, RdI W v l ∧ ∀ x ∈ l, I64 x := by
  rcases Go.Deep.open_slice Try.underlying22 hf with ⟨hcs, -⟩ | ⟨a, len, cap, m, n, D, Pl, hcs, -, hl, hm, hmm, -, hx⟩
  · simp at hcs
    subst hcs
    exact ⟨[], RdI.nil W, fun x h => by cases h⟩
  · simp at hcs hmm
    subst hcs hmm
    rw [cells3] at hx
    obtain ⟨xs, hxs, hp⟩ := list_ofT (p := fun i (t : Int) => I64 t ∧ W.cell? (a.add i) = some (.int .i64 t)) len (fun i hi => by
      obtain ⟨cs', hc, ht⟩ := hx i (by omega)
      obtain ⟨hlen, -, hcell⟩ := World.cells?_some hc
      obtain ⟨t, q, -, w0⟩ := DataW.trod_int Try.underlying3 ht
      have h0 := hcell 0 (by omega)
      rw [q] at h0
      refine ⟨t, i64_of w0, ?_⟩
      have e : (a.add (i * 1)).add 0 = a.add i := by
        unfold Addr.add
        split <;> simp_all
      rw [e] at h0
      exact h0)
    refine ⟨xs, ⟨some a, m, by rw [hxs], by rw [hxs]; exact hl, hm, (by simp), fun k hk => ?_⟩, fun x hx => ?_⟩
    · obtain ⟨b, off, rfl, hadd⟩ := add_cell (hp 0 (by omega)).2
      have := (hp k hk).2
      rw [hadd] at this
      exact ⟨b, off, rfl, this⟩
    · obtain ⟨i, hi, rfl⟩ := List.getElem_of_mem hx
      exact (hp i hi).1

/-- a call: its kind, its number, its name -/
abbrev Op := Int × Int × ByteArray
/-- a slice that reads as these calls -/
def RdO (w : World) (v : Value) (l : List Op) : Prop :=
  ∃ ao cap, v = .slice ao l.length cap ∧ l.length ≤ cap ∧ cap ≤ maxLen ∧ ∀ k (h : k < l.length), ∃ b off, ao = some ⟨b, off, none⟩ ∧ w.cell? ⟨b, off + k * 3, none⟩ = some (.int .i64 l[k].1) ∧ w.cell? ⟨b, off + k * 3 + 1, none⟩ = some (.int .i64 l[k].2.1) ∧ w.cell? ⟨b, off + k * 3 + 2, none⟩ = some (.string l[k].2.2)
theorem RdO.below {w w' : World} {v : Value} {l : List Op} (h : RdO w v l) (hb : Below w.heap.size w w') : RdO w' v l := by
  obtain ⟨ao, cap, hv, h1, h2, h4⟩ := h
  refine ⟨ao, cap, hv, h1, h2, fun k hk => ?_⟩
  obtain ⟨b, off, e, c0, c1, c2⟩ := h4 k hk
  exact ⟨b, off, e, by rw [hb.cell (World.block_lt_of_cell? w _ c0)]; exact c0, by rw [hb.cell (World.block_lt_of_cell? w _ c1)]; exact c1, by rw [hb.cell (World.block_lt_of_cell? w _ c2)]; exact c2⟩
theorem RdO.shape {w : World} {v : Value} {l : List Op} (h : RdO w v l) : ∃ ao cap, v = .slice ao l.length cap ∧ l.length ≤ maxLen := by
  obtain ⟨ao, cap, hv, h1, h2, _⟩ := h
  exact ⟨ao, cap, hv, Nat.le_trans h1 h2⟩
theorem RdO.at {w : World} {ao : Option Addr} {n cap : Nat} {l : List Op} (h : RdO w (.slice ao n cap) l) (k : Nat) (hk : k < l.length) : ∃ b off, ao = some ⟨b, off, none⟩ ∧ w.cell? ⟨b, off + k * 3, none⟩ = some (.int .i64 l[k].1) ∧ w.cell? ⟨b, off + k * 3 + 1, none⟩ = some (.int .i64 l[k].2.1) ∧ w.cell? ⟨b, off + k * 3 + 2, none⟩ = some (.string l[k].2.2) := by
  obtain ⟨ao', cap', hv, h1, h2, h4⟩ := h
  cases hv
  exact h4 k hk
set_option maxRecDepth 100000 in
theorem op_of {H : Type} {enc : TypeId × Value → H} {W : World} {fuel : Nat} {cs : List Value} {x : DataW H × List MemPlace} (hf : DataW.trod enc Try.prog W 0 (fun _ => true) true fuel 43 cs = some x) :
    ∃ t : Op, cs = [.int .i64 t.1, .int .i64 t.2.1, .string t.2.2] ∧ I64 t.1 ∧ I64 t.2.1 ∧ t.2.2.size ≤ maxLen := by
  obtain ⟨xs, n, -, -, hl, hxl, h⟩ := DataW.trod_struct Try.underlying43 hf
  rw [cells43] at hl
  obtain ⟨c0, c1, c2, rfl⟩ : ∃ c0 c1 c2, cs = [c0, c1, c2] := by
    match cs, hl with
    | [a, b, c], _ => exact ⟨a, b, c, rfl⟩
  have h0 : DataW.trod enc Try.prog W 0 (fun _ => true) true n 3 (([c0, c1, c2].drop 0).take (Try.prog.cellsOf 3)) = xs[0]? := h 0 _ rfl
  have h1 : DataW.trod enc Try.prog W 0 (fun _ => true) true n 3 (([c0, c1, c2].drop 1).take (Try.prog.cellsOf 3)) = xs[1]? := h 1 _ rfl
  have h2 : DataW.trod enc Try.prog W 0 (fun _ => true) true n 9 (([c0, c1, c2].drop 2).take (Try.prog.cellsOf 9)) = xs[2]? := h 2 _ rfl
  have hx : ∀ i, i < 3 → ∃ y, xs[i]? = some y := fun i hi => ⟨_, List.getElem?_eq_getElem (by rw [hxl]; exact hi)⟩
  obtain ⟨y0, e0⟩ := hx 0 (by omega)
  obtain ⟨y1, e1⟩ := hx 1 (by omega)
  obtain ⟨y2, e2⟩ := hx 2 (by omega)
  rw [e0] at h0
  rw [e1] at h1
  rw [e2] at h2
  simp only [cells3, cells9, List.drop_zero, List.drop_succ_cons, List.take_succ_cons, List.take_zero] at h0 h1 h2
  obtain ⟨a0, q0, -, w0⟩ := DataW.trod_int Try.underlying3 h0
  obtain ⟨a1, q1, -, w1⟩ := DataW.trod_int Try.underlying3 h1
  obtain ⟨a2, q2, -, w2⟩ := DataW.trod_string Try.underlying9 h2
  simp at q0 q1 q2
  subst q0 q1 q2
  exact ⟨(a0, a1, a2), rfl, i64_of w0, i64_of w1, w2⟩
set_option maxRecDepth 100000 in
theorem ops_of {H : Type} {enc : TypeId × Value → H} {W : World} {fuel : Nat} {v : Value} {x : DataW H × List MemPlace} (hf : DataW.trod enc Try.prog W 0 (fun _ => true) true fuel 36 [v] = some x) :
    ∃ l, RdO W v l ∧ ∀ x ∈ l, I64 x.1 ∧ I64 x.2.1 ∧ x.2.2.size ≤ maxLen := by
  rcases Go.Deep.open_slice Try.underlying36 hf with ⟨hcs, -⟩ | ⟨a, len, cap, m, n, D, Pl, hcs, -, hl, hm, hmm, -, hx⟩
  · simp at hcs
    subst hcs
    exact ⟨[], ⟨none, 0, rfl, Nat.le_refl _, by simp [maxLen], fun k h => by simp at h⟩, fun x h => by cases h⟩
  · simp at hcs hmm
    subst hcs hmm
    rw [cells43] at hx
    obtain ⟨xs, hxs, hp⟩ := list_ofT (p := fun i (t : Op) => (I64 t.1 ∧ I64 t.2.1 ∧ t.2.2.size ≤ maxLen) ∧ ∀ j, j < 3 → W.cell? ((a.add (i * 3)).add j) = ([.int .i64 t.1, .int .i64 t.2.1, .string t.2.2] : List Value)[j]?) len (fun i hi => by
      obtain ⟨cs', hc, ht⟩ := hx i (by omega)
      obtain ⟨t, hd, h1, h2, h3⟩ := op_of ht
      obtain ⟨-, -, hcell⟩ := World.cells?_some hc
      exact ⟨t, ⟨h1, h2, h3⟩, fun j hj => by rw [hcell j hj, hd]⟩)
    refine ⟨xs, ⟨some a, m, by rw [hxs], by rw [hxs]; exact hl, hm, fun k hk => ?_⟩, fun x hx => ?_⟩
    · obtain ⟨-, hc⟩ := hp k hk
      have h0 : W.cell? ((a.add (k * 3)).add 0) = some (.int .i64 xs[k].1) := (hc 0 (by omega)).trans rfl
      have h1 : W.cell? ((a.add (k * 3)).add 1) = some (.int .i64 xs[k].2.1) := (hc 1 (by omega)).trans rfl
      have h2 : W.cell? ((a.add (k * 3)).add 2) = some (.string xs[k].2.2) := (hc 2 (by omega)).trans rfl
      have h00 : W.cell? ((a.add (0 * 3)).add 0) = some (.int .i64 (xs[0]'(by omega)).1) := ((hp 0 (by omega)).2 0 (by omega)).trans rfl
      obtain ⟨b, off, sp⟩ := a
      have hsp : sp = none := by
        cases sp with
        | none => rfl
        | some s =>
          simp [Addr.add, World.cell?] at h00
          split at h00 <;> simp at h00
      subst hsp
      have hadd : ∀ j, ((⟨b, off, none⟩ : Addr).add (k * 3)).add j = ⟨b, off + k * 3 + j, none⟩ := fun j => by
        have e : ∀ (o y : Nat), (⟨b, o, none⟩ : Addr).add y = ⟨b, o + y, none⟩ := fun o y => by unfold Addr.add; split <;> simp_all
        rw [e, e]
      rw [hadd] at h0 h1 h2
      exact ⟨b, off, rfl, h0, h1, h2⟩
    · obtain ⟨i, hi, rfl⟩ := List.getElem_of_mem hx
      exact (hp i hi).1
end Go.Proofs.Ytdbbdecmfnajiaa
