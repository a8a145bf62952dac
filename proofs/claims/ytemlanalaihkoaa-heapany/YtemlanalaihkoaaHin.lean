/-
  What came in: a timer, a list of timers, numbers. Own work.
-/
import Derived.Test.YtemlanalaihkoaaMr
import Derived.Below
import Derived.ProofKit
import Derived.OpenShut
import Derived.WideShapes
import Derived.ChangeAt
import Derived.Deep.Slices
namespace Go.Proofs.Ytemlanalaihkoaa
open Go.RowKit Go.ChangeShapes Go.WideShapes Go.ChangeAt

theorem cells30 : Try.prog.cellsOf 30 = 2 := by kernel_rfl
theorem cells2 : Try.prog.cellsOf 2 = 1 := by kernel_rfl
theorem cells3 : Try.prog.cellsOf 3 = 1 := by kernel_rfl
theorem list_ofT {α : Type} {p : Nat → α → Prop} (n : Nat) (h : ∀ i, i < n → ∃ x, p i x) : ∃ l : List α, l.length = n ∧ ∀ i (hi : i < l.length), p i l[i] := by
  induction n with
  | zero => exact ⟨[], rfl, fun i hi => by simp at hi⟩
  | succ n ih =>
    obtain ⟨l, hl, hp⟩ := ih (fun i hi => h i (by omega))
    obtain ⟨x, hx⟩ := h n (by omega)
    refine ⟨l ++ [x], by simp [hl], fun i hi => ?_⟩
    by_cases hil : i < l.length
    · rw [List.getElem_append_left hil]
      exact hp i hil
    · have : i = n := by simp at hi; omega
      subst this
      rw [List.getElem_append_right (by omega)]
      simpa using hx
theorem i64_of {n : Int} (h : (Lit.int .i64 n).wf = true) : I64 n := bounds_i64 h
set_option maxRecDepth 100000 in
theorem timer_of {H : Type} {enc : TypeId × Value → H} {W : World} {fuel : Nat} {cs : List Value} {x : DataW H × List MemPlace} (hf : DataW.trod enc Try.prog W 0 (fun _ => true) true fuel 30 cs = some x) :
    ∃ t : Tm, cs = [.int .i64 t.1, .int .i64 t.2] ∧ I64 t.1 ∧ I64 t.2 := by
  obtain ⟨xs, n, -, -, hl, hxl, h⟩ := DataW.trod_struct Try.underlying30 hf
  rw [cells30] at hl
  obtain ⟨c0, c1, rfl⟩ : ∃ c0 c1, cs = [c0, c1] := by
    match cs, hl with
    | [a, b], _ => exact ⟨a, b, rfl⟩
  have h0 : DataW.trod enc Try.prog W 0 (fun _ => true) true n 2 (([c0, c1].drop 0).take (Try.prog.cellsOf 2)) = xs[0]? := h 0 _ rfl
  have h1 : DataW.trod enc Try.prog W 0 (fun _ => true) true n 3 (([c0, c1].drop 1).take (Try.prog.cellsOf 3)) = xs[1]? := h 1 _ rfl
  have hx : ∀ i, i < 2 → ∃ y, xs[i]? = some y := fun i hi => ⟨_, List.getElem?_eq_getElem (by rw [hxl]; exact hi)⟩
  obtain ⟨y0, e0⟩ := hx 0 (by omega)
  obtain ⟨y1, e1⟩ := hx 1 (by omega)
  rw [e0] at h0
  rw [e1] at h1
  simp only [cells2, cells3, List.drop_zero, List.drop_succ_cons, List.take_succ_cons, List.take_zero] at h0 h1
  obtain ⟨a0, q0, -, w0⟩ := DataW.trod_int Try.underlying2 h0
  obtain ⟨a1, q1, -, w1⟩ := DataW.trod_int Try.underlying3 h1
  simp at q0 q1
  subst q0 q1
  exact ⟨(a0, a1), rfl, i64_of w0, i64_of w1⟩
set_option maxRecDepth 100000 in
theorem timers_of {H : Type} {enc : TypeId × Value → H} {W : World} {fuel : Nat} {v : Value} {x : DataW H × List MemPlace} (hf : DataW.trod enc Try.prog W 0 (fun _ => true) true fuel 38 [v] = some x) :
    ∃ l, RdT W v l ∧ ∀ x ∈ l, I64 x.1 ∧ I64 x.2 := by
  rcases Go.Deep.open_slice Try.underlying38 hf with ⟨hcs, -⟩ | ⟨a, len, cap, m, n, D, Pl, hcs, -, hl, hm, hmm, -, hx⟩
  · simp at hcs
    subst hcs
    exact ⟨[], RdT.nil W, fun x h => by cases h⟩
  · simp at hcs hmm
    subst hcs hmm
    rw [cells30] at hx
    obtain ⟨xs, hxs, hp⟩ := list_ofT (p := fun i (t : Tm) => (I64 t.1 ∧ I64 t.2) ∧ ∀ j, j < 2 → W.cell? ((a.add (i * 2)).add j) = ([.int .i64 t.1, .int .i64 t.2] : List Value)[j]?) len (fun i hi => by
      obtain ⟨cs', hc, ht⟩ := hx i (by omega)
      obtain ⟨t, hd, h1, h2⟩ := timer_of ht
      obtain ⟨-, -, hcell⟩ := World.cells?_some hc
      exact ⟨t, ⟨h1, h2⟩, fun j hj => by rw [hcell j hj, hd]⟩)
    refine ⟨xs, ⟨some a, m, by rw [hxs], by rw [hxs]; exact hl, hm, by simp, fun k hk => ?_⟩, fun x hx => ?_⟩
    · obtain ⟨-, hc⟩ := hp k hk
      have h0 : W.cell? ((a.add (k * 2)).add 0) = some (.int .i64 xs[k].1) := (hc 0 (by omega)).trans rfl
      have h1 : W.cell? ((a.add (k * 2)).add 1) = some (.int .i64 xs[k].2) := (hc 1 (by omega)).trans rfl
      have h00 : W.cell? ((a.add (0 * 2)).add 0) = some (.int .i64 (xs[0]'(by omega)).1) := ((hp 0 (by omega)).2 0 (by omega)).trans rfl
      obtain ⟨b, off, sp⟩ := a
      have hsp : sp = none := by
        cases sp with
        | none => rfl
        | some s =>
          simp [Addr.add, World.cell?] at h00
          split at h00 <;> simp at h00
      subst hsp
      have hadd : ∀ j, ((⟨b, off, none⟩ : Addr).add (k * 2)).add j = ⟨b, off + k * 2 + j, none⟩ := fun j => by
        have e : ∀ (o y : Nat), (⟨b, o, none⟩ : Addr).add y = ⟨b, o + y, none⟩ := fun o y => by unfold Addr.add; split <;> simp_all
        rw [e, e]
      rw [hadd] at h0 h1
      exact ⟨b, off, rfl, h0, h1⟩
    · obtain ⟨i, hi, rfl⟩ := List.getElem_of_mem hx
      exact (hp i hi).1
set_option maxRecDepth 100000 in
theorem agg_of30 {W : World} {base : Nat} {v : Value} (h : Value.okWide Try.prog W .any base 30 v) : ∃ xs : Array Value, v = .agg xs := by
  simp only [Value.okWide, Try.underlying30] at h
  obtain ⟨cs, h1, -⟩ := h
  exact ⟨cs, h1⟩
end Go.Proofs.Ytemlanalaihkoaa
