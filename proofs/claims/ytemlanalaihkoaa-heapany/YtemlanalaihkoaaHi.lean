/-
  Lists of numbers, and of bytes, that came in. Own work.
-/
import Derived.Test.YtemlanalaihkoaaHin
namespace Go.Proofs.Ytemlanalaihkoaa
open Go.RowKit Go.ChangeShapes Go.WideShapes Go.ChangeAt

/-- a slice that reads as these numbers -/
def RdN (w : World) (v : Value) (l : List Int) : Prop :=
  ∃ ao cap, v = .slice ao l.length cap ∧ l.length ≤ cap ∧ cap ≤ maxLen ∧ ∀ k (h : k < l.length), ∃ b off, ao = some ⟨b, off, none⟩ ∧ w.cell? ⟨b, off + k, none⟩ = some (.int .i64 l[k])
/-- a slice that reads as these bytes -/
def RdU (w : World) (v : Value) (l : List Int) : Prop :=
  ∃ ao cap, v = .slice ao l.length cap ∧ l.length ≤ cap ∧ cap ≤ maxLen ∧ (∀ k (h : k < l.length), ∃ b off, ao = some ⟨b, off, none⟩ ∧ w.cell? ⟨b, off + k, none⟩ = some (.int .u8 l[k])) ∧ ∀ x ∈ l, 0 ≤ x ∧ x ≤ 255
theorem RdN.below {w w' : World} {v : Value} {l : List Int} (h : RdN w v l) (hb : Below w.heap.size w w') : RdN w' v l := by
  obtain ⟨ao, cap, hv, h1, h2, h4⟩ := h
  refine ⟨ao, cap, hv, h1, h2, fun k hk => ?_⟩
  obtain ⟨b, off, e, c0⟩ := h4 k hk
  exact ⟨b, off, e, by rw [hb.cell (World.block_lt_of_cell? w _ c0)]; exact c0⟩
theorem RdN.shape {w : World} {v : Value} {l : List Int} (h : RdN w v l) : ∃ ao cap, v = .slice ao l.length cap := by
  obtain ⟨ao, cap, hv, _⟩ := h
  exact ⟨ao, cap, hv⟩
theorem RdN.at {w : World} {ao : Option Addr} {n cap : Nat} {l : List Int} (h : RdN w (.slice ao n cap) l) (k : Nat) (hk : k < l.length) : ∃ b off, ao = some ⟨b, off, none⟩ ∧ w.cell? ⟨b, off + k, none⟩ = some (.int .i64 l[k]) := by
  obtain ⟨ao', cap', hv, h1, h2, h4⟩ := h
  cases hv
  exact h4 k hk
theorem RdU.below {w w' : World} {v : Value} {l : List Int} (h : RdU w v l) (hb : Below w.heap.size w w') : RdU w' v l := by
  obtain ⟨ao, cap, hv, h1, h2, h4, h5⟩ := h
  refine ⟨ao, cap, hv, h1, h2, fun k hk => ?_, h5⟩
  obtain ⟨b, off, e, c0⟩ := h4 k hk
  exact ⟨b, off, e, by rw [hb.cell (World.block_lt_of_cell? w _ c0)]; exact c0⟩
theorem RdU.shape {w : World} {v : Value} {l : List Int} (h : RdU w v l) : ∃ ao cap, v = .slice ao l.length cap := by
  obtain ⟨ao, cap, hv, _⟩ := h
  exact ⟨ao, cap, hv⟩
theorem RdU.at {w : World} {ao : Option Addr} {n cap : Nat} {l : List Int} (h : RdU w (.slice ao n cap) l) (k : Nat) (hk : k < l.length) : ∃ b off, ao = some ⟨b, off, none⟩ ∧ w.cell? ⟨b, off + k, none⟩ = some (.int .u8 l[k]) := by
  obtain ⟨ao', cap', hv, h1, h2, h4, h5⟩ := h
  cases hv
  exact h4 k hk
theorem cells5 : Try.prog.cellsOf 5 = 1 := by kernel_rfl
theorem add_cell {W : World} {a : Addr} {y : Value} (h : W.cell? (a.add 0) = some y) : ∃ b off, a = ⟨b, off, none⟩ ∧ ∀ j, a.add j = ⟨b, off + j, none⟩ := by
  obtain ⟨b, off, sp⟩ := a
  have hsp : sp = none := by
    cases sp with
    | none => rfl
    | some s =>
      simp [Addr.add, World.cell?] at h
      split at h <;> simp at h
  subst hsp
  exact ⟨b, off, rfl, fun j => by unfold Addr.add; split <;> simp_all⟩
set_option maxRecDepth 100000 in
theorem ints_of {H : Type} {enc : TypeId × Value → H} {W : World} {fuel : Nat} {v : Value} {x : DataW H × List MemPlace} (hf : DataW.trod enc Try.prog W 0 (fun _ => true) true fuel 22 [v] = some x) :
    ∃ l, RdN W v l ∧ ∀ x ∈ l, I64 x := by
  rcases Go.Deep.open_slice Try.underlying22 hf with ⟨hcs, -⟩ | ⟨a, len, cap, m, n, D, Pl, hcs, -, hl, hm, hmm, -, hx⟩
  · simp at hcs
    subst hcs
    exact ⟨[], ⟨none, 0, rfl, Nat.le_refl _, by simp [maxLen], fun k h => by simp at h⟩, fun x h => by cases h⟩
  · simp at hcs hmm
    subst hcs hmm
    rw [cells3] at hx
    obtain ⟨xs, hxs, hp⟩ := list_ofT (p := fun i (t : Int) => I64 t ∧ W.cell? (a.add i) = some (.int .i64 t)) len (fun i hi => by
      obtain ⟨cs', hc, ht⟩ := hx i (by omega)
      obtain ⟨hlen, -, hcell⟩ := World.cells?_some hc
      obtain ⟨t, q, -, w0⟩ := DataW.trod_int Try.underlying3 ht
      have h0 := hcell 0 (by omega)
      rw [q] at h0
      refine ⟨t, i64_of w0, ?_⟩
      have e : (a.add (i * 1)).add 0 = a.add i := by
        unfold Addr.add
        split <;> simp_all
      rw [e] at h0
      exact h0)
    refine ⟨xs, ⟨some a, m, by rw [hxs], by rw [hxs]; exact hl, hm, fun k hk => ?_⟩, fun x hx => ?_⟩
    · obtain ⟨b, off, rfl, hadd⟩ := add_cell (hp 0 (by omega)).2
      have := (hp k hk).2
      rw [hadd] at this
      exact ⟨b, off, rfl, this⟩
    · obtain ⟨i, hi, rfl⟩ := List.getElem_of_mem hx
      exact (hp i hi).1
set_option maxRecDepth 100000 in
theorem bytes_of {H : Type} {enc : TypeId × Value → H} {W : World} {fuel : Nat} {v : Value} {x : DataW H × List MemPlace} (hf : DataW.trod enc Try.prog W 0 (fun _ => true) true fuel 72 [v] = some x) :
    ∃ l, RdU W v l := by
  rcases Go.Deep.open_slice Try.underlying72 hf with ⟨hcs, -⟩ | ⟨a, len, cap, m, n, D, Pl, hcs, -, hl, hm, hmm, -, hx⟩
  · simp at hcs
    subst hcs
    exact ⟨[], none, 0, rfl, Nat.le_refl _, by simp [maxLen], fun k h => by simp at h, fun x h => by cases h⟩
  · simp at hcs hmm
    subst hcs hmm
    rw [cells5] at hx
    obtain ⟨xs, hxs, hp⟩ := list_ofT (p := fun i (t : Int) => (0 ≤ t ∧ t ≤ 255) ∧ W.cell? (a.add i) = some (.int .u8 t)) len (fun i hi => by
      obtain ⟨cs', hc, ht⟩ := hx i (by omega)
      obtain ⟨hlen, -, hcell⟩ := World.cells?_some hc
      obtain ⟨t, q, -, w0⟩ := DataW.trod_int Try.underlying5 ht
      have h0 := hcell 0 (by omega)
      rw [q] at h0
      have hb := bounds_u8 w0
      refine ⟨t, ⟨hb.1, by omega⟩, ?_⟩
      have e : (a.add (i * 1)).add 0 = a.add i := by
        unfold Addr.add
        split <;> simp_all
      rw [e] at h0
      exact h0)
    refine ⟨xs, some a, m, by rw [hxs], by rw [hxs]; exact hl, hm, fun k hk => ?_, fun x hx => ?_⟩
    · obtain ⟨b, off, rfl, hadd⟩ := add_cell (hp 0 (by omega)).2
      have := (hp k hk).2
      rw [hadd] at this
      exact ⟨b, off, rfl, this⟩
    · obtain ⟨i, hi, rfl⟩ := List.getElem_of_mem hx
      exact (hp i hi).1
end Go.Proofs.Ytemlanalaihkoaa
