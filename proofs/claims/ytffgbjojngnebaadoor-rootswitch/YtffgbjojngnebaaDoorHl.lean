/-
  A list of lives that came in. Own work.
-/
import Derived.Test.YtffgbjojngnebaaDoorHr
import Derived.Test.YtffgbjojngnebaaDoorRin
import Derived.Test.YtffgbjojngnebaaDoorKv
namespace Go.Proofs.YtffgbjojngnebaaDoor
open Go.RowKit Go.ChangeShapes Go.WideShapes Go.ChangeAt

theorem cells55 : Tryd.prog.cellsOf 55 = 4 := by kernel_rfl
theorem cells25 : Tryd.prog.cellsOf 25 = 1 := by kernel_rfl
theorem cells53 : Tryd.prog.cellsOf 53 = 1 := by kernel_rfl
def cellsL (x : Lf) : List Value := [x.rv, .int .i64 x.arm, x.kv, x.tv]
set_option maxRecDepth 100000 in
theorem life_of {H : Type} {enc : TypeId × Value → H} {W : World} {fuel : Nat} {cs : List Value} {x : DataW H × List MemPlace} (hf : DataW.trod enc Tryd.prog W 0 (fun _ => true) true fuel 55 cs = some x) :
    ∃ d : Lf, cs = cellsL d ∧ d.good W := by
  obtain ⟨xs, n, -, -, hl, hxl, h⟩ := DataW.trod_struct Tryd.underlying55 hf
  rw [cells55] at hl
  obtain ⟨c0, c1, c2, c3, rfl⟩ : ∃ c0 c1 c2 c3, cs = [c0, c1, c2, c3] := by
    match cs, hl with
    | [a, b, c, d], _ => exact ⟨a, b, c, d, rfl⟩
  have h0 : DataW.trod enc Tryd.prog W 0 (fun _ => true) true n 25 (([c0, c1, c2, c3].drop 0).take (Tryd.prog.cellsOf 25)) = xs[0]? := h 0 _ rfl
  have h1 : DataW.trod enc Tryd.prog W 0 (fun _ => true) true n 3 (([c0, c1, c2, c3].drop 1).take (Tryd.prog.cellsOf 3)) = xs[1]? := h 1 _ rfl
  have h2 : DataW.trod enc Tryd.prog W 0 (fun _ => true) true n 53 (([c0, c1, c2, c3].drop 2).take (Tryd.prog.cellsOf 53)) = xs[2]? := h 2 _ rfl
  have h3 : DataW.trod enc Tryd.prog W 0 (fun _ => true) true n 53 (([c0, c1, c2, c3].drop 3).take (Tryd.prog.cellsOf 53)) = xs[3]? := h 3 _ rfl
  have hx : ∀ i, i < 4 → ∃ y, xs[i]? = some y := fun i hi => ⟨_, List.getElem?_eq_getElem (by rw [hxl]; exact hi)⟩
  obtain ⟨y0, e0⟩ := hx 0 (by omega)
  obtain ⟨y1, e1⟩ := hx 1 (by omega)
  obtain ⟨y2, e2⟩ := hx 2 (by omega)
  obtain ⟨y3, e3⟩ := hx 3 (by omega)
  rw [e0] at h0
  rw [e1] at h1
  rw [e2] at h2
  rw [e3] at h3
  simp only [cells3, cells25, cells53, List.drop_zero, List.drop_succ_cons, List.take_succ_cons, List.take_zero] at h0 h1 h2 h3
  obtain ⟨a1, q1, -, -⟩ := DataW.trod_int Tryd.underlying3 h1
  obtain ⟨rs, hrs⟩ := roots_of h0
  have hI : ∀ {m : Nat} {c : Value} {y : DataW H × List MemPlace}, DataW.trod enc Tryd.prog W 0 (fun _ => true) true m 53 [c] = some y → ∃ l, RdI W c l ∧ ∀ x ∈ l, x ≤ 9223372036854775807 := by
    intro m c y hh
    rcases open_ints Tryd.underlying53 Tryd.underlying3 (by kernel_rfl) hh with ⟨hcs, _⟩ | ⟨x, l, c', zs, hcs, _, hle, hm, hz, _, hcell, hwz⟩
    · simp at hcs
      subst hcs
      exact ⟨[], RdI.nil W, fun x hx => absurd hx List.not_mem_nil⟩
    · simp at hcs
      subst hcs
      exact rdI_of_row W (some x) l c' zs (.inr ⟨x, rfl, hle, hm, by simpa using hz, hcell, hwz⟩)
  obtain ⟨lk, hrk, hkr⟩ := hI h2
  obtain ⟨lt, hrt, htr⟩ := hI h3
  simp at q1
  subst q1
  exact ⟨⟨c0, rs, a1, c2, lk, c3, lt⟩, rfl, ⟨hrs, hrk, hkr, hrt, htr⟩⟩
set_option maxRecDepth 100000 in
theorem lives_of {H : Type} {enc : TypeId × Value → H} {W : World} {fuel : Nat} {v : Value} {x : DataW H × List MemPlace} (hf : DataW.trod enc Tryd.prog W 0 (fun _ => true) true fuel 52 [v] = some x) :
    ∃ xs, RdLv W v xs := by
  rcases Go.Deep.open_slice Tryd.underlying52 hf with ⟨hcs, -⟩ | ⟨a, len, cap, m, n, D, Pl, hcs, -, hl, hm, hmm, -, hx⟩
  · simp at hcs
    subst hcs
    exact ⟨[], none, 0, rfl, Nat.le_refl _, by simp [maxLen], fun k h => by simp at h⟩
  · simp at hcs hmm
    subst hcs hmm
    rw [cells55] at hx
    obtain ⟨xs, hxs, hp⟩ := list_ofD (p := fun i (d : Lf) => d.good W ∧ ∀ j, j < 4 → W.cell? ((a.add (i * 4)).add j) = (cellsL d)[j]?) len (fun i hi => by
      obtain ⟨cs', hc, ht⟩ := hx i (by omega)
      obtain ⟨d, hd, hg⟩ := life_of ht
      obtain ⟨-, -, hcell⟩ := World.cells?_some hc
      refine ⟨d, hg, fun j hj => ?_⟩
      rw [hcell j hj, hd])
    refine ⟨xs, some a, m, by rw [hxs], by rw [hxs]; exact hl, hm, fun k hk => ?_⟩
    obtain ⟨hg, hc⟩ := hp k hk
    have h0 : W.cell? ((a.add (k * 4)).add 0) = some xs[k].rv := (hc 0 (by omega)).trans rfl
    have h1 : W.cell? ((a.add (k * 4)).add 1) = some (.int .i64 xs[k].arm) := (hc 1 (by omega)).trans rfl
    have h2 : W.cell? ((a.add (k * 4)).add 2) = some xs[k].kv := (hc 2 (by omega)).trans rfl
    have h3 : W.cell? ((a.add (k * 4)).add 3) = some xs[k].tv := (hc 3 (by omega)).trans rfl
    have h00 : W.cell? ((a.add (0 * 4)).add 0) = some (xs[0]'(by omega)).rv := ((hp 0 (by omega)).2 0 (by omega)).trans rfl
    obtain ⟨b, off, sp⟩ := a
    have hsp : sp = none := by
      cases sp with
      | none => rfl
      | some s =>
        simp [Addr.add, World.cell?] at h00
        split at h00 <;> simp at h00
    subst hsp
    have hadd : ∀ j, ((⟨b, off, none⟩ : Addr).add (k * 4)).add j = ⟨b, off + k * 4 + j, none⟩ := fun j => by
      have e : ∀ (o y : Nat), (⟨b, o, none⟩ : Addr).add y = ⟨b, o + y, none⟩ := fun o y => by unfold Addr.add; split <;> simp_all
      rw [e, e]
    rw [hadd] at h0 h1 h2 h3
    exact ⟨b, off, rfl, World.block_lt_of_cell? W _ h0, h0, h1, h2, h3, hg⟩
end Go.Proofs.YtffgbjojngnebaaDoor
