/-
  A batch that came in: its number and its records. Own work.
-/
import Derived.Test.YtomhkjacngmnhaaGreatDoorInn
namespace Go.Proofs.YtomhkjacngmnhaaGreatDoor
open Go.RowKit Go.ChangeShapes Go.WideShapes Go.ChangeAt

theorem cells43 : Tryz.prog.cellsOf 43 = 2 := by kernel_rfl
theorem cells3 : Tryz.prog.cellsOf 3 = 1 := by kernel_rfl
set_option maxRecDepth 100000 in
theorem bat_of {H : Type} {enc : TypeId × Value → H} {W : World} {fuel : Nat} {cs : List Value} {x : DataW H × List MemPlace} (hf : DataW.trod enc Tryz.prog W 0 (fun _ => true) true fuel 43 cs = some x) :
    ∃ n v ps, cs = [.int .i64 n, v] ∧ RdL W v ps := by
  obtain ⟨xs, n, -, -, hl, hxl, h⟩ := DataW.trod_struct Tryz.underlying43 hf
  rw [cells43] at hl
  obtain ⟨c0, c1, rfl⟩ : ∃ c0 c1, cs = [c0, c1] := by
    match cs, hl with
    | [a, b], _ => exact ⟨a, b, rfl⟩
  have h0 : DataW.trod enc Tryz.prog W 0 (fun _ => true) true n 3 (([c0, c1].drop 0).take (Tryz.prog.cellsOf 3)) = xs[0]? := h 0 _ rfl
  have h1 : DataW.trod enc Tryz.prog W 0 (fun _ => true) true n 41 (([c0, c1].drop 1).take (Tryz.prog.cellsOf 41)) = xs[1]? := h 1 _ rfl
  have hx : ∀ i, i < 2 → ∃ y, xs[i]? = some y := fun i hi => ⟨_, List.getElem?_eq_getElem (by rw [hxl]; exact hi)⟩
  obtain ⟨y0, e0⟩ := hx 0 (by omega)
  obtain ⟨y1, e1⟩ := hx 1 (by omega)
  rw [e0] at h0
  rw [e1] at h1
  simp only [cells3, cells41, List.drop_zero, List.drop_succ_cons, List.take_succ_cons, List.take_zero] at h0 h1
  obtain ⟨a0, q0, -, -⟩ := DataW.trod_int Tryz.underlying3 h0
  obtain ⟨ps, hps⟩ := lists_of h1
  simp at q0
  subst q0
  exact ⟨a0, c1, ps, rfl, hps⟩
set_option maxRecDepth 100000 in
theorem agg_of43 {W : World} {base : Nat} {v : Value} (h : Value.okWide Tryz.prog W .any base 43 v) : ∃ xs : Array Value, v = .agg xs := by
  simp only [Value.okWide, Tryz.underlying43] at h
  obtain ⟨cs, h1, -⟩ := h
  exact ⟨cs, h1⟩
end Go.Proofs.YtomhkjacngmnhaaGreatDoor
