/-
  Slices of bytes, lists of them, and lists of lists, that came in. Own work.
-/
import Derived.Test.YtomhkjacngmnhaaGreatDoorGr
import Derived.Test.YtomhkjacngmnhaaGreatDoorRow
import Derived.Below
import Derived.ProofKit
import Derived.OpenShut
import Derived.ShutString
import Derived.ChangeOld
import Derived.Deep.Slices
namespace Go.Proofs.YtomhkjacngmnhaaGreatDoor
open Go.ChangeShapes Go.WideShapes Go.ChangeAt Go.RowKit

/-- a slice of bytes that came in -/
theorem row_of {H : Type} {enc : TypeId × Value → H} {W : World} {fuel : Nat} {v : Value} {x : DataW H × List MemPlace} (hf : DataW.trod enc Tryz.prog W 0 (fun _ => true) true fuel 37 [v] = some x) : ∃ l, Rd W v l := by
  rcases open_ints Tryz.underlying37 Tryz.underlying5 (by kernel_rfl) hf with ⟨hcs, _⟩ | ⟨x, l, c, zs, hcs, _, hl, hm, hz, _, hcell, hwz⟩
  · simp at hcs
    subst hcs
    exact ⟨[], Rd.nil W⟩
  · simp at hcs
    subst hcs
    exact rd_of_row W (some x) l c zs (.inr ⟨x, rfl, hl, hm, by simpa using hz, hcell, hwz⟩)
theorem cells37 : Tryz.prog.cellsOf 37 = 1 := by kernel_rfl
theorem cells41 : Tryz.prog.cellsOf 41 = 1 := by kernel_rfl
theorem list_of {α : Type} {p : Nat → α → Prop} (n : Nat) (h : ∀ i, i < n → ∃ x, p i x) : ∃ l : List α, l.length = n ∧ ∀ i (hi : i < l.length), p i l[i] := by
  induction n with
  | zero => exact ⟨[], rfl, fun i hi => by simp at hi⟩
  | succ n ih =>
    obtain ⟨l, hl, hp⟩ := ih (fun i hi => h i (by omega))
    obtain ⟨x, hx⟩ := h n (by omega)
    refine ⟨l ++ [x], by simp [hl], fun i hi => ?_⟩
    by_cases hil : i < l.length
    · rw [List.getElem_append_left hil]
      exact hp i hil
    · have : i = n := by simp at hi; omega
      subst this
      rw [List.getElem_append_right (by omega)]
      simpa [hl] using hx
/-- a list of lists of bytes that came in -/
theorem lists_of {H : Type} {enc : TypeId × Value → H} {W : World} {fuel : Nat} {v : Value} {x : DataW H × List MemPlace} (hf : DataW.trod enc Tryz.prog W 0 (fun _ => true) true fuel 41 [v] = some x) :
    ∃ ps, RdL W v ps := by
  rcases Go.Deep.open_slice Tryz.underlying41 hf with ⟨hcs, -⟩ | ⟨a, len, cap, m, n, D, Pl, hcs, -, hl, hm, hmm, -, hx⟩
  · simp at hcs
    subst hcs
    exact ⟨[], RdL.nil W⟩
  · simp at hcs hmm
    subst hcs hmm
    rw [cells37] at hx
    obtain ⟨ps, hps, hp⟩ := list_of (p := fun i (e : Value × List UInt8) => W.cell? (a.add i) = some e.1 ∧ Rd W e.1 e.2) len (fun i hi => by
      obtain ⟨cs', hc, ht⟩ := hx i (by omega)
      obtain ⟨-, hlen, hcell⟩ := World.cells?_some hc
      have q0 := hcell 0 (by omega)
      obtain ⟨c, rfl⟩ : ∃ c, cs' = [c] := List.length_eq_one_iff.1 (by first | exact hlen | omega | simpa using hlen)
      obtain ⟨l, hr⟩ := row_of ht
      refine ⟨(c, l), ?_, hr⟩
      have e0 : (a.add (i * 1)).add 0 = a.add i := by rw [Nat.mul_one]; simp [Addr.add]
      rw [e0] at q0
      simpa using q0)
    refine ⟨ps, ⟨some a, m, by rw [List.length_map, hps], by rw [List.length_map, hps]; exact hl, hm, by simp, fun b hb i hi => ?_⟩, fun i hi => (hp i hi).2⟩
    obtain rfl := Option.some.inj hb
    rw [List.length_map] at hi
    rw [List.getElem_map]
    exact (hp i hi).1
/-- lists of lists of bytes that came in -/
theorem batches_of {H : Type} {enc : TypeId × Value → H} {W : World} {fuel : Nat} {v : Value} {x : DataW H × List MemPlace} (hf : DataW.trod enc Tryz.prog W 0 (fun _ => true) true fuel 96 [v] = some x) :
    ∃ bs, RdLL W v bs := by
  rcases Go.Deep.open_slice Tryz.underlying96 hf with ⟨hcs, -⟩ | ⟨a, len, cap, m, n, D, Pl, hcs, -, hl, hm, hmm, -, hx⟩
  · simp at hcs
    subst hcs
    exact ⟨[], ⟨none, 0, rfl, Nat.le_refl _, by simp [maxLen], fun _ => rfl, fun a h => by cases h⟩, fun i h => by simp at h⟩
  · simp at hcs hmm
    subst hcs hmm
    rw [cells41] at hx
    obtain ⟨ps, hps, hp⟩ := list_of (p := fun i (e : Value × List (Value × List UInt8)) => W.cell? (a.add i) = some e.1 ∧ RdL W e.1 e.2) len (fun i hi => by
      obtain ⟨cs', hc, ht⟩ := hx i (by omega)
      obtain ⟨-, hlen, hcell⟩ := World.cells?_some hc
      have q0 := hcell 0 (by omega)
      obtain ⟨c, rfl⟩ : ∃ c, cs' = [c] := List.length_eq_one_iff.1 (by first | exact hlen | omega | simpa using hlen)
      obtain ⟨l, hr⟩ := lists_of ht
      refine ⟨(c, l), ?_, hr⟩
      have e0 : (a.add (i * 1)).add 0 = a.add i := by rw [Nat.mul_one]; simp [Addr.add]
      rw [e0] at q0
      simpa using q0)
    refine ⟨ps, ⟨some a, m, by rw [List.length_map, hps], by rw [List.length_map, hps]; exact hl, hm, by simp, fun b hb i hi => ?_⟩, fun i hi => (hp i hi).2⟩
    obtain rfl := Option.some.inj hb
    rw [List.length_map] at hi
    rw [List.getElem_map]
    exact (hp i hi).1
end Go.Proofs.YtomhkjacngmnhaaGreatDoor
