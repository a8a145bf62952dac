/-
  What came in: a law's extra. Own work.
-/
import Derived.Test.YtpiiehenmkinaaaDoorHin
namespace Go.Proofs.YtpiiehenmkinaaaDoor
open Go.RowKit Go.ChangeShapes Go.WideShapes Go.ChangeAt

theorem cells30 : Tryd.prog.cellsOf 30 = 7 := by kernel_rfl
set_option maxRecDepth 100000 in
theorem extra_of {H : Type} {enc : TypeId × Value → H} {W : World} {fuel : Nat} {cs : List Value} {x : DataW H × List MemPlace} (hf : DataW.trod enc Tryd.prog W 0 (fun _ => true) true fuel 30 cs = some x) :
    ∃ (z : Int) (i : Ins), cs = .int .i64 z :: insC i ∧ IR z ∧ i.wf := by
  obtain ⟨xs, n, -, -, hl, hxl, h⟩ := DataW.trod_struct Tryd.underlying30 hf
  rw [cells30] at hl
  obtain ⟨c0, c1, c2, c3, c4, c5, c6, rfl⟩ : ∃ c0 c1 c2 c3 c4 c5 c6, cs = [c0, c1, c2, c3, c4, c5, c6] := by
    match cs, hl with
    | [a0, a1, a2, a3, a4, a5, a6], _ => exact ⟨a0, a1, a2, a3, a4, a5, a6, rfl⟩
  have h0 : DataW.trod enc Tryd.prog W 0 (fun _ => true) true n 3 (([c0, c1, c2, c3, c4, c5, c6].drop 0).take (Tryd.prog.cellsOf 3)) = xs[0]? := h 0 _ rfl
  have h1 : DataW.trod enc Tryd.prog W 0 (fun _ => true) true n 28 (([c0, c1, c2, c3, c4, c5, c6].drop 1).take (Tryd.prog.cellsOf 28)) = xs[1]? := h 1 _ rfl
  have hx : ∀ i, i < 2 → ∃ y, xs[i]? = some y := fun i hi => ⟨_, List.getElem?_eq_getElem (by rw [hxl]; exact hi)⟩
  obtain ⟨y0, e0⟩ := hx 0 (by omega)
  rw [e0] at h0
  obtain ⟨y1, e1⟩ := hx 1 (by omega)
  rw [e1] at h1
  simp only [cells3, cells28, List.drop_zero, List.drop_succ_cons, List.take_succ_cons, List.take_zero] at h0 h1
  obtain ⟨a0, q0, -, w0⟩ := DataW.trod_int Tryd.underlying3 h0
  simp at q0
  subst q0
  obtain ⟨i, hd, hw⟩ := ins_of h1
  exact ⟨a0, i, by rw [← hd], ir_of w0, hw⟩
set_option maxRecDepth 100000 in
theorem agg_of30 {W : World} {base : Nat} {v : Value} (h : Value.okWide Tryd.prog W .any base 30 v) : ∃ xs : Array Value, v = .agg xs := by
  simp only [Value.okWide, Tryd.underlying30] at h
  obtain ⟨cs, h1, -⟩ := h
  exact ⟨cs, h1⟩
end Go.Proofs.YtpiiehenmkinaaaDoor
