/-
  A deed that came in: its cells, and what they read as. Own work.
-/
import Derived.Test.YtloigepmmhcibaaRin
import Derived.Deep.Slices
import Derived.Deep.Strs
namespace Go.Proofs.Ytloigepmmhcibaa
open Go.RowKit Go.ChangeShapes Go.WideShapes Go.ChangeAt

structure Dd where
  dn : Nat
  A : ByteArray
  To : ByteArray
  bv : Value
  b : List UInt8
  n : Int
  kv : Value
  ks : List Int
  tv : Value
  ts : List Int
def Dd.cells (d : Dd) : List Value := [.int .u8 (d.dn : Int), .string d.A, .string d.To, d.bv, .int .i64 d.n, d.kv, d.tv]
structure Dd.good (W : World) (d : Dd) : Prop where
  dn : d.dn < 256
  b : Rd W d.bv d.b
  n0 : -9223372036854775808 ≤ d.n
  n1 : d.n ≤ 9223372036854775807
  ks : RdI W d.kv d.ks
  kr : ∀ x ∈ d.ks, x ≤ 9223372036854775807
  ts : RdI W d.tv d.ts
  tr : ∀ x ∈ d.ts, x ≤ 9223372036854775807

theorem cells49 : Try.prog.cellsOf 49 = 7 := by kernel_rfl
theorem cells5 : Try.prog.cellsOf 5 = 1 := by kernel_rfl
theorem cells9 : Try.prog.cellsOf 9 = 1 := by kernel_rfl
theorem cells30 : Try.prog.cellsOf 30 = 1 := by kernel_rfl
theorem cells3 : Try.prog.cellsOf 3 = 1 := by kernel_rfl
theorem cells22 : Try.prog.cellsOf 22 = 1 := by kernel_rfl

set_option maxRecDepth 100000 in
theorem deed_of {H : Type} {enc : TypeId × Value → H} {W : World} {fuel : Nat} {cs : List Value} {x : DataW H × List MemPlace} (hf : DataW.trod enc Try.prog W 0 (fun _ => true) true fuel 49 cs = some x) :
    ∃ d : Dd, cs = d.cells ∧ d.good W := by
  obtain ⟨xs, n, -, -, hl, hxl, h⟩ := DataW.trod_struct Try.underlying49 hf
  rw [cells49] at hl
  obtain ⟨c0, c1, c2, c3, c4, c5, c6, rfl⟩ : ∃ c0 c1 c2 c3 c4 c5 c6, cs = [c0, c1, c2, c3, c4, c5, c6] := by
    match cs, hl with
    | [a, b, c, d, e, f, g], _ => exact ⟨a, b, c, d, e, f, g, rfl⟩
  have h0 : DataW.trod enc Try.prog W 0 (fun _ => true) true n 5 (([c0, c1, c2, c3, c4, c5, c6].drop 0).take (Try.prog.cellsOf 5)) = xs[0]? := h 0 _ rfl
  have h1 : DataW.trod enc Try.prog W 0 (fun _ => true) true n 9 (([c0, c1, c2, c3, c4, c5, c6].drop 1).take (Try.prog.cellsOf 9)) = xs[1]? := h 1 _ rfl
  have h2 : DataW.trod enc Try.prog W 0 (fun _ => true) true n 9 (([c0, c1, c2, c3, c4, c5, c6].drop 2).take (Try.prog.cellsOf 9)) = xs[2]? := h 2 _ rfl
  have h3 : DataW.trod enc Try.prog W 0 (fun _ => true) true n 30 (([c0, c1, c2, c3, c4, c5, c6].drop 3).take (Try.prog.cellsOf 30)) = xs[3]? := h 3 _ rfl
  have h4 : DataW.trod enc Try.prog W 0 (fun _ => true) true n 3 (([c0, c1, c2, c3, c4, c5, c6].drop 4).take (Try.prog.cellsOf 3)) = xs[4]? := h 4 _ rfl
  have h5 : DataW.trod enc Try.prog W 0 (fun _ => true) true n 22 (([c0, c1, c2, c3, c4, c5, c6].drop 5).take (Try.prog.cellsOf 22)) = xs[5]? := h 5 _ rfl
  have h6 : DataW.trod enc Try.prog W 0 (fun _ => true) true n 22 (([c0, c1, c2, c3, c4, c5, c6].drop 6).take (Try.prog.cellsOf 22)) = xs[6]? := h 6 _ rfl
  have hx : ∀ i, i < 7 → ∃ y, xs[i]? = some y := fun i hi => ⟨_, List.getElem?_eq_getElem (by rw [hxl]; exact hi)⟩
  obtain ⟨y0, e0⟩ := hx 0 (by omega)
  obtain ⟨y1, e1⟩ := hx 1 (by omega)
  obtain ⟨y2, e2⟩ := hx 2 (by omega)
  obtain ⟨y3, e3⟩ := hx 3 (by omega)
  obtain ⟨y4, e4⟩ := hx 4 (by omega)
  obtain ⟨y5, e5⟩ := hx 5 (by omega)
  obtain ⟨y6, e6⟩ := hx 6 (by omega)
  rw [e0] at h0
  rw [e1] at h1
  rw [e2] at h2
  rw [e3] at h3
  rw [e4] at h4
  rw [e5] at h5
  rw [e6] at h6
  simp only [cells5, cells9, cells30, cells3, cells22, List.drop_zero, List.drop_succ_cons, List.take_succ_cons, List.take_zero] at h0 h1 h2 h3 h4 h5 h6
  obtain ⟨a0, q0, -, w0⟩ := DataW.trod_int Try.underlying5 h0
  obtain ⟨s1, q1, -, -⟩ := DataW.trod_string Try.underlying9 h1
  obtain ⟨s2, q2, -, -⟩ := DataW.trod_string Try.underlying9 h2
  obtain ⟨a4, q4, -, w4⟩ := DataW.trod_int Try.underlying3 h4
  have b0 := bounds_u8 w0
  have b4 := bounds_i64 w4
  have hB : ∃ l, Rd W c3 l := by
    rcases open_ints Try.underlying30 Try.underlying5 (by kernel_rfl) h3 with ⟨hcs, _⟩ | ⟨x, l, c, zs, hcs, _, hle, hm, hz, _, hcell, hwz⟩
    · simp at hcs
      subst hcs
      exact ⟨[], Rd.nil W⟩
    · simp at hcs
      subst hcs
      exact rd_of_row W (some x) l c zs (.inr ⟨x, rfl, hle, hm, by simpa using hz, hcell, hwz⟩)
  have hI : ∀ {m : Nat} {c : Value} {y : DataW H × List MemPlace}, DataW.trod enc Try.prog W 0 (fun _ => true) true m 22 [c] = some y → ∃ l, RdI W c l ∧ ∀ x ∈ l, x ≤ 9223372036854775807 := by
    intro m c y hh
    rcases open_ints Try.underlying22 Try.underlying3 (by kernel_rfl) hh with ⟨hcs, _⟩ | ⟨x, l, c', zs, hcs, _, hle, hm, hz, _, hcell, hwz⟩
    · simp at hcs
      subst hcs
      exact ⟨[], RdI.nil W, fun x hx => absurd hx List.not_mem_nil⟩
    · simp at hcs
      subst hcs
      exact rdI_of_row W (some x) l c' zs (.inr ⟨x, rfl, hle, hm, by simpa using hz, hcell, hwz⟩)
  obtain ⟨lb, hrb⟩ := hB
  obtain ⟨lk, hrk, hkr⟩ := hI h5
  obtain ⟨lt, hrt, htr⟩ := hI h6
  obtain ⟨m, rfl⟩ := Int.eq_ofNat_of_zero_le b0.1
  simp at q0 q1 q2 q4
  subst q0 q1 q2 q4
  exact ⟨⟨m, s1, s2, c3, lb, a4, c5, lk, c6, lt⟩, rfl, ⟨by simp only; omega, hrb, b4.1, b4.2, hrk, hkr, hrt, htr⟩⟩
end Go.Proofs.Ytloigepmmhcibaa
