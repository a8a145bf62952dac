/-
  A list of roots that came in. Own work.
-/
import Derived.Test.YtffgbjojngnebaaDoorHin
import Derived.Test.YtffgbjojngnebaaDoorKt
namespace Go.Proofs.YtffgbjojngnebaaDoor
open Go.RowKit Go.ChangeShapes Go.WideShapes Go.ChangeAt

theorem list_ofD {α : Type} {p : Nat → α → Prop} (n : Nat) (h : ∀ i, i < n → ∃ x, p i x) : ∃ l : List α, l.length = n ∧ ∀ i (hi : i < l.length), p i l[i] := by
  induction n with
  | zero => exact ⟨[], rfl, fun i hi => by simp at hi⟩
  | succ n ih =>
    obtain ⟨l, hl, hp⟩ := ih (fun i hi => h i (by omega))
    obtain ⟨x, hx⟩ := h n (by omega)
    refine ⟨l ++ [x], by simp [hl], fun i hi => ?_⟩
    by_cases hil : i < l.length
    · rw [List.getElem_append_left hil]
      exact hp i hil
    · have : i = n := by simp at hi; omega
      subst this
      rw [List.getElem_append_right (by omega)]
      simpa using hx
def cellsR (p : AR × Value) : List Value := [.int .i64 p.1.serial, .int .i64 p.1.batch, p.2]
set_option maxRecDepth 100000 in
theorem roots_of {H : Type} {enc : TypeId × Value → H} {W : World} {fuel : Nat} {v : Value} {x : DataW H × List MemPlace} (hf : DataW.trod enc Tryd.prog W 0 (fun _ => true) true fuel 25 [v] = some x) :
    ∃ xs, RdR W v xs := by
  rcases Go.Deep.open_slice Tryd.underlying25 hf with ⟨hcs, -⟩ | ⟨a, len, cap, m, n, D, Pl, hcs, -, hl, hm, hmm, -, hx⟩
  · simp at hcs
    subst hcs
    exact ⟨[], none, 0, rfl, Nat.le_refl _, by simp [maxLen], fun k h => by simp at h⟩
  · simp at hcs hmm
    subst hcs hmm
    rw [cells24] at hx
    obtain ⟨xs, hxs, hp⟩ := list_ofD (p := fun i (d : AR × Value) => Rd W d.2 d.1.blob ∧ ∀ j, j < 3 → W.cell? ((a.add (i * 3)).add j) = (cellsR d)[j]?) len (fun i hi => by
      obtain ⟨cs', hc, ht⟩ := hx i (by omega)
      obtain ⟨s, b, u, l, hd, hg⟩ := root_of ht
      obtain ⟨-, -, hcell⟩ := World.cells?_some hc
      refine ⟨(⟨s, b, l⟩, u), hg, fun j hj => ?_⟩
      rw [hcell j hj]
      have : (cellsR (⟨s, b, l⟩, u)) = cs' := by rw [hd]; rfl
      rw [this])
    refine ⟨xs, some a, m, by rw [hxs], by rw [hxs]; exact hl, hm, fun k hk => ?_⟩
    obtain ⟨hg, hc⟩ := hp k hk
    have h0 : W.cell? ((a.add (k * 3)).add 0) = some (.int .i64 xs[k].1.serial) := (hc 0 (by omega)).trans rfl
    have h1 : W.cell? ((a.add (k * 3)).add 1) = some (.int .i64 xs[k].1.batch) := (hc 1 (by omega)).trans rfl
    have h2 : W.cell? ((a.add (k * 3)).add 2) = some xs[k].2 := (hc 2 (by omega)).trans rfl
    have h00 : W.cell? ((a.add (0 * 3)).add 0) = some (.int .i64 (xs[0]'(by omega)).1.serial) := ((hp 0 (by omega)).2 0 (by omega)).trans rfl
    obtain ⟨b, off, sp⟩ := a
    have hsp : sp = none := by
      cases sp with
      | none => rfl
      | some s =>
        simp [Addr.add, World.cell?] at h00
        split at h00 <;> simp at h00
    subst hsp
    have hadd : ∀ j, ((⟨b, off, none⟩ : Addr).add (k * 3)).add j = ⟨b, off + k * 3 + j, none⟩ := fun j => by
      have e : ∀ (o y : Nat), (⟨b, o, none⟩ : Addr).add y = ⟨b, o + y, none⟩ := fun o y => by unfold Addr.add; split <;> simp_all
      rw [e, e]
    rw [hadd] at h0 h1 h2
    exact ⟨b, off, rfl, World.block_lt_of_cell? W _ h0, h0, h1, h2, hg⟩
end Go.Proofs.YtffgbjojngnebaaDoor
