/-
  A list of deeds that came in. Own work.
-/
import Derived.Test.YtloigepmmhcibaaYb
namespace Go.Proofs.Ytloigepmmhcibaa
open Go.RowKit Go.ChangeShapes Go.WideShapes Go.ChangeAt

theorem list_ofD {α : Type} {p : Nat → α → Prop} (n : Nat) (h : ∀ i, i < n → ∃ x, p i x) : ∃ l : List α, l.length = n ∧ ∀ i (hi : i < l.length), p i l[i] := by
  induction n with
  | zero => exact ⟨[], rfl, fun i hi => by simp at hi⟩
  | succ n ih =>
    obtain ⟨l, hl, hp⟩ := ih (fun i hi => h i (by omega))
    obtain ⟨x, hx⟩ := h n (by omega)
    refine ⟨l ++ [x], by simp [hl], fun i hi => ?_⟩
    by_cases hil : i < l.length
    · rw [List.getElem_append_left hil]
      exact hp i hil
    · have : i = n := by simp at hi; omega
      subst this
      rw [List.getElem_append_right (by omega)]
      simpa using hx

set_option maxRecDepth 100000 in
theorem deeds_of {H : Type} {enc : TypeId × Value → H} {W : World} {fuel : Nat} {v : Value} {x : DataW H × List MemPlace} (hf : DataW.trod enc Try.prog W 0 (fun _ => true) true fuel 41 [v] = some x) :
    ∃ xs, RdD W v xs := by
  rcases Go.Deep.open_slice Try.underlying41 hf with ⟨hcs, -⟩ | ⟨a, len, cap, m, n, D, Pl, hcs, -, hl, hm, hmm, -, hx⟩
  · simp at hcs
    subst hcs
    exact ⟨[], none, 0, rfl, Nat.le_refl _, by simp [maxLen], fun k h => by simp at h⟩
  · simp at hcs hmm
    subst hcs hmm
    rw [cells49] at hx
    obtain ⟨xs, hxs, hp⟩ := list_ofD (p := fun i (d : Dd) => d.good W ∧ ∀ j, j < 7 → W.cell? ((a.add (i * 7)).add j) = d.cells[j]?) len (fun i hi => by
      obtain ⟨cs', hc, ht⟩ := hx i (by omega)
      obtain ⟨d, rfl, hg⟩ := deed_of ht
      obtain ⟨-, -, hcell⟩ := World.cells?_some hc
      exact ⟨d, hg, hcell⟩)
    refine ⟨xs, some a, m, by rw [hxs], by rw [hxs]; exact hl, hm, fun k hk => ?_⟩
    obtain ⟨hg, hc⟩ := hp k hk
    have h0 : W.cell? ((a.add (k * 7)).add 0) = some (.int .u8 (xs[k].dn : Int)) := (hc 0 (by omega)).trans rfl
    have h00 : W.cell? ((a.add (0 * 7)).add 0) = some (.int .u8 ((xs[0]'(by omega)).dn : Int)) := ((hp 0 (by omega)).2 0 (by omega)).trans rfl
    obtain ⟨b, off, sp⟩ := a
    have hsp : sp = none := by
      cases sp with
      | none => rfl
      | some s =>
        simp [Addr.add, World.cell?] at h00
        split at h00 <;> simp at h00
    subst hsp
    have hadd : ∀ j, ((⟨b, off, none⟩ : Addr).add (k * 7)).add j = ⟨b, off + k * 7 + j, none⟩ := fun j => by
      have e : ∀ (o y : Nat), (⟨b, o, none⟩ : Addr).add y = ⟨b, o + y, none⟩ := fun o y => by unfold Addr.add; split <;> simp_all
      rw [e, e]
    refine ⟨b, off, rfl, ?_, hg, fun j hj => ?_⟩
    · rw [hadd] at h0
      exact World.block_lt_of_cell? W _ h0
    · have h := hc j hj
      rw [hadd] at h
      rw [h]
      exact List.getElem?_eq_getElem (by simp [Dd.cells]; omega)
end Go.Proofs.Ytloigepmmhcibaa
