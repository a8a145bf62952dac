/-
  What came in: programs, what is given, lists of numbers. Own work.
-/
import Derived.Test.YtlngeonfabahnaaDoorPin
import Derived.Test.YtlngeonfabahnaaDoorLd
import Derived.WideShapes
import Derived.ChangeAt
import Derived.Deep.Slices
namespace Go.Proofs.YtlngeonfabahnaaDoor
open Go.RowKit Go.ChangeShapes Go.WideShapes Go.ChangeAt

theorem cells24 : Tryd.prog.cellsOf 24 = 3 := by kernel_rfl
theorem cells3 : Tryd.prog.cellsOf 3 = 1 := by kernel_rfl
theorem cells2 : Tryd.prog.cellsOf 2 = 1 := by kernel_rfl
theorem cells22 : Tryd.prog.cellsOf 22 = 1 := by kernel_rfl
theorem cells25 : Tryd.prog.cellsOf 25 = 1 := by kernel_rfl
theorem cells26 : Tryd.prog.cellsOf 26 = 1 := by kernel_rfl
theorem cells28 : Tryd.prog.cellsOf 28 = 4 := by kernel_rfl
theorem cells32 : Tryd.prog.cellsOf 32 = 2 := by kernel_rfl
theorem cells42 : Tryd.prog.cellsOf 42 = 2 := by kernel_rfl
theorem cells47 : Tryd.prog.cellsOf 47 = 3 := by kernel_rfl
theorem cells50 : Tryd.prog.cellsOf 50 = 1 := by kernel_rfl
theorem cells52 : Tryd.prog.cellsOf 52 = 6 := by kernel_rfl
theorem ir_of {n : Int} (h : (Lit.int .i64 n).wf = true) : IR n := bounds_i64 h
theorem list_ofT {α : Type} {p : Nat → α → Prop} (n : Nat) (h : ∀ i, i < n → ∃ x, p i x) : ∃ l : List α, l.length = n ∧ ∀ i (hi : i < l.length), p i l[i] := by
  induction n with
  | zero => exact ⟨[], rfl, fun i hi => by simp at hi⟩
  | succ n ih =>
    obtain ⟨l, hl, hp⟩ := ih (fun i hi => h i (by omega))
    obtain ⟨x, hx⟩ := h n (by omega)
    refine ⟨l ++ [x], by simp [hl], fun i hi => ?_⟩
    by_cases hil : i < l.length
    · rw [List.getElem_append_left hil]
      exact hp i hil
    · have : i = n := by simp at hi; omega
      subst this
      rw [List.getElem_append_right (by omega)]
      simpa using hx
set_option maxRecDepth 100000 in
theorem ins_of {H : Type} {enc : TypeId × Value → H} {W : World} {fuel : Nat} {cs : List Value} {x : DataW H × List MemPlace} (hf : DataW.trod enc Tryd.prog W 0 (fun _ => true) true fuel 52 cs = some x) : ∃ i : Ins, cs = insC i ∧ i.wf := by
  obtain ⟨xs, n, -, -, hl, hxl, h⟩ := DataW.trod_struct Tryd.underlying52 hf
  rw [cells52] at hl
  obtain ⟨c0, c1, c2, c3, c4, c5, rfl⟩ : ∃ c0 c1 c2 c3 c4 c5, cs = [c0, c1, c2, c3, c4, c5] := by
    match cs, hl with
    | [a0, a1, a2, a3, a4, a5], _ => exact ⟨a0, a1, a2, a3, a4, a5, rfl⟩
  have h0 : DataW.trod enc Tryd.prog W 0 (fun _ => true) true n 50 (([c0, c1, c2, c3, c4, c5].drop 0).take (Tryd.prog.cellsOf 50)) = xs[0]? := h 0 _ rfl
  have h1 : DataW.trod enc Tryd.prog W 0 (fun _ => true) true n 3 (([c0, c1, c2, c3, c4, c5].drop 1).take (Tryd.prog.cellsOf 3)) = xs[1]? := h 1 _ rfl
  have h2 : DataW.trod enc Tryd.prog W 0 (fun _ => true) true n 3 (([c0, c1, c2, c3, c4, c5].drop 2).take (Tryd.prog.cellsOf 3)) = xs[2]? := h 2 _ rfl
  have h3 : DataW.trod enc Tryd.prog W 0 (fun _ => true) true n 3 (([c0, c1, c2, c3, c4, c5].drop 3).take (Tryd.prog.cellsOf 3)) = xs[3]? := h 3 _ rfl
  have h4 : DataW.trod enc Tryd.prog W 0 (fun _ => true) true n 2 (([c0, c1, c2, c3, c4, c5].drop 4).take (Tryd.prog.cellsOf 2)) = xs[4]? := h 4 _ rfl
  have h5 : DataW.trod enc Tryd.prog W 0 (fun _ => true) true n 9 (([c0, c1, c2, c3, c4, c5].drop 5).take (Tryd.prog.cellsOf 9)) = xs[5]? := h 5 _ rfl
  have hx : ∀ i, i < 6 → ∃ y, xs[i]? = some y := fun i hi => ⟨_, List.getElem?_eq_getElem (by rw [hxl]; exact hi)⟩
  obtain ⟨y0, e0⟩ := hx 0 (by omega)
  rw [e0] at h0
  obtain ⟨y1, e1⟩ := hx 1 (by omega)
  rw [e1] at h1
  obtain ⟨y2, e2⟩ := hx 2 (by omega)
  rw [e2] at h2
  obtain ⟨y3, e3⟩ := hx 3 (by omega)
  rw [e3] at h3
  obtain ⟨y4, e4⟩ := hx 4 (by omega)
  rw [e4] at h4
  obtain ⟨y5, e5⟩ := hx 5 (by omega)
  rw [e5] at h5
  simp only [cells2, cells3, cells9, cells50, List.drop_zero, List.drop_succ_cons, List.take_succ_cons, List.take_zero] at h0 h1 h2 h3 h4 h5
  obtain ⟨a0, q0, -, w0⟩ := DataW.trod_int Tryd.underlying50 h0
  simp at q0
  subst q0
  obtain ⟨a1, q1, -, w1⟩ := DataW.trod_int Tryd.underlying3 h1
  simp at q1
  subst q1
  obtain ⟨a2, q2, -, w2⟩ := DataW.trod_int Tryd.underlying3 h2
  simp at q2
  subst q2
  obtain ⟨a3, q3, -, w3⟩ := DataW.trod_int Tryd.underlying3 h3
  simp at q3
  subst q3
  obtain ⟨a4, q4, -, w4⟩ := DataW.trod_int Tryd.underlying2 h4
  simp at q4
  subst q4
  obtain ⟨a5, q5, -, w5⟩ := DataW.trod_string Tryd.underlying9 h5
  simp at q5
  subst q5
  have hb := bounds_u8 w0
  refine ⟨⟨a0.toNat, a1, a2, a3, a4, a5⟩, ?_, ⟨by show a0.toNat < 256; omega, ir_of w1, ir_of w2, ir_of w3, ir_of w4, w5⟩⟩
  unfold insC
  simp only
  rw [Int.toNat_of_nonneg hb.1]
set_option maxRecDepth 100000 in
theorem code_of {H : Type} {enc : TypeId × Value → H} {W : World} {fuel : Nat} {v : Value} {x : DataW H × List MemPlace} (hf : DataW.trod enc Tryd.prog W 0 (fun _ => true) true fuel 22 [v] = some x) :
    ∃ l, RdC W v l ∧ ∀ i ∈ l, i.wf := by
  rcases Go.Deep.open_slice Tryd.underlying22 hf with ⟨hcs, -⟩ | ⟨a, len, cap, m, n, D, Pl, hcs, -, hl, hm, hmm, -, hx⟩
  · simp at hcs
    subst hcs
    exact ⟨[], RdC.nil W, fun x h => by cases h⟩
  · simp at hcs hmm
    subst hcs hmm
    rw [cells52] at hx
    obtain ⟨xs, hxs, hp⟩ := list_ofT (p := fun i (t : Ins) => t.wf ∧ ∀ j, j < 6 → W.cell? ((a.add (i * 6)).add j) = (insC t)[j]?) len (fun i hi => by
      obtain ⟨cs', hc, ht⟩ := hx i (by omega)
      obtain ⟨t, hd, h1⟩ := ins_of ht
      obtain ⟨-, -, hcell⟩ := World.cells?_some hc
      exact ⟨t, h1, fun j hj => by rw [hcell j hj, hd]⟩)
    refine ⟨xs, ⟨some a, m, by rw [hxs], by rw [hxs]; exact hl, hm, by simp, fun k hk => ?_⟩, fun x hx => ?_⟩
    · obtain ⟨-, hc⟩ := hp k hk
      obtain ⟨b, off, sp⟩ := a
      have h00 : W.cell? (((⟨b, off, sp⟩ : Addr).add (0 * 6)).add 0) = some (.int .u8 ((xs[0]'(by omega)).op : Int)) := ((hp 0 (by omega)).2 0 (by omega)).trans rfl
      have hsp : sp = none := by
        cases sp with
        | none => rfl
        | some s =>
          simp [Addr.add, World.cell?] at h00
          split at h00 <;> simp at h00
      subst hsp
      refine ⟨b, off, rfl, fun j u hu => ?_⟩
      have hj : j < 6 := (List.getElem?_eq_some_iff.1 hu).1
      have := hc j hj
      rw [addr_add, addr_add, hu] at this
      exact this
    · obtain ⟨i, hi, rfl⟩ := List.getElem_of_mem hx
      exact (hp i hi).1
set_option maxRecDepth 100000 in
theorem prg_of {H : Type} {enc : TypeId × Value → H} {W : World} {fuel : Nat} {cs : List Value} {x : DataW H × List MemPlace} (hf : DataW.trod enc Tryd.prog W 0 (fun _ => true) true fuel 24 cs = some x) :
    ∃ (p : Prg) (cv : Value), cs = [.string p.name, .int .i64 p.regs, cv] ∧ RdC W cv p.code ∧ (∀ i ∈ p.code, i.wf) ∧ IR p.regs ∧ p.name.size ≤ maxLen := by
  obtain ⟨xs, n, -, -, hl, hxl, h⟩ := DataW.trod_struct Tryd.underlying24 hf
  rw [cells24] at hl
  obtain ⟨c0, c1, c2, rfl⟩ : ∃ c0 c1 c2, cs = [c0, c1, c2] := by
    match cs, hl with
    | [a0, a1, a2], _ => exact ⟨a0, a1, a2, rfl⟩
  have h0 : DataW.trod enc Tryd.prog W 0 (fun _ => true) true n 9 (([c0, c1, c2].drop 0).take (Tryd.prog.cellsOf 9)) = xs[0]? := h 0 _ rfl
  have h1 : DataW.trod enc Tryd.prog W 0 (fun _ => true) true n 3 (([c0, c1, c2].drop 1).take (Tryd.prog.cellsOf 3)) = xs[1]? := h 1 _ rfl
  have h2 : DataW.trod enc Tryd.prog W 0 (fun _ => true) true n 22 (([c0, c1, c2].drop 2).take (Tryd.prog.cellsOf 22)) = xs[2]? := h 2 _ rfl
  have hx : ∀ i, i < 3 → ∃ y, xs[i]? = some y := fun i hi => ⟨_, List.getElem?_eq_getElem (by rw [hxl]; exact hi)⟩
  obtain ⟨y0, e0⟩ := hx 0 (by omega)
  rw [e0] at h0
  obtain ⟨y1, e1⟩ := hx 1 (by omega)
  rw [e1] at h1
  obtain ⟨y2, e2⟩ := hx 2 (by omega)
  rw [e2] at h2
  simp only [cells3, cells9, cells22, List.drop_zero, List.drop_succ_cons, List.take_succ_cons, List.take_zero] at h0 h1 h2
  obtain ⟨a0, q0, -, w0⟩ := DataW.trod_string Tryd.underlying9 h0
  simp at q0
  subst q0
  obtain ⟨a1, q1, -, w1⟩ := DataW.trod_int Tryd.underlying3 h1
  simp at q1
  subst q1
  obtain ⟨l, hr, hwf⟩ := code_of h2
  exact ⟨⟨a0, a1, l⟩, c2, rfl, hr, hwf, ir_of w1, w0⟩
set_option maxRecDepth 100000 in
theorem agg_of24 {W : World} {base : Nat} {v : Value} (h : Value.okWide Tryd.prog W .any base 24 v) : ∃ xs : Array Value, v = .agg xs := by
  simp only [Value.okWide, Tryd.underlying24] at h
  obtain ⟨cs, h1, -⟩ := h
  exact ⟨cs, h1⟩

/-- a slice that came in, by what its elements are -/
theorem rowX_of {α : Type} (cells : α → List Value) (ok : α → Prop) (t e sz : Nat) (ut : Tryd.prog.underlying t = some (.slice e)) (hsz : Tryd.prog.cellsOf e = sz) (hpos : 0 < sz) (hlen : ∀ a, (cells a).length = sz)
    (hone : ∀ a, ∃ u, (cells a)[0]? = some u ∧ ∀ c, u ≠ .int .u8 c)
    {H : Type} {enc : TypeId × Value → H} {W : World}
    (hel : ∀ (fuel : Nat) (cs : List Value) (x : DataW H × List MemPlace), DataW.trod enc Tryd.prog W 0 (fun _ => true) true fuel e cs = some x → ∃ a, cs = cells a ∧ ok a)
    {fuel : Nat} {v : Value} {x : DataW H × List MemPlace} (hf : DataW.trod enc Tryd.prog W 0 (fun _ => true) true fuel t [v] = some x) :
    ∃ l : List α, RdX W v sz (l.map cells) ∧ ∀ a ∈ l, ok a := by
  rcases Go.Deep.open_slice ut hf with ⟨hcs, -⟩ | ⟨a, len, cap, m, n, D, Pl, hcs, -, hl, hm, hmm, -, hx⟩
  · simp at hcs
    subst hcs
    exact ⟨[], RdX.nil W sz, fun x h => by cases h⟩
  · simp at hcs hmm
    subst hcs hmm
    rw [hsz] at hx
    obtain ⟨xs, hxs, hp⟩ := list_ofT (p := fun i (t : α) => ok t ∧ ∀ j, j < sz → W.cell? ((a.add (i * sz)).add j) = (cells t)[j]?) len (fun i hi => by
      obtain ⟨cs', hc, ht⟩ := hx i (by omega)
      obtain ⟨t, hd, h1⟩ := hel _ _ _ ht
      obtain ⟨-, -, hcell⟩ := World.cells?_some hc
      exact ⟨t, h1, fun j hj => by rw [hcell j hj, hd]⟩)
    refine ⟨xs, ⟨some a, m, by rw [List.length_map, hxs], by rw [List.length_map, hxs]; exact hl, hm, by simp, fun k hk => ?_⟩, fun x hx => ?_⟩
    · rw [List.length_map] at hk
      obtain ⟨-, hc⟩ := hp k hk
      obtain ⟨b, off, sp⟩ := a
      obtain ⟨u0, hu0, hnb⟩ := hone (xs[0]'(by omega))
      have h00 : W.cell? (((⟨b, off, sp⟩ : Addr).add (0 * sz)).add 0) = some u0 := ((hp 0 (by omega)).2 0 hpos).trans hu0
      have hsp : sp = none := by
        cases sp with
        | none => rfl
        | some s =>
          exfalso
          simp [Addr.add, World.cell?] at h00
          split at h00 <;> simp at h00
      subst hsp
      refine ⟨b, off, rfl, fun j u hu => ?_⟩
      rw [List.getElem_map] at hu
      have hj : j < sz := by rw [← hlen xs[k]]; exact (List.getElem?_eq_some_iff.1 hu).1
      have := hc j hj
      rw [addr_add, addr_add, hu] at this
      exact this
    · obtain ⟨i, hi, rfl⟩ := List.getElem_of_mem hx
      exact (hp i hi).1
set_option maxRecDepth 100000 in
theorem kn_of {H : Type} {enc : TypeId × Value → H} {W : World} (fuel : Nat) (cs : List Value) (x : DataW H × List MemPlace) (hf : DataW.trod enc Tryd.prog W 0 (fun _ => true) true fuel 47 cs = some x) : ∃ k : Int × Oc, cs = knC k ∧ (IR k.1 ∧ IR k.2.1 ∧ IR k.2.2) := by
  obtain ⟨xs, n, -, -, hl, hxl, h⟩ := DataW.trod_struct Tryd.underlying47 hf
  rw [cells47] at hl
  obtain ⟨c0, c1, c2, rfl⟩ : ∃ c0 c1 c2, cs = [c0, c1, c2] := by
    match cs, hl with
    | [a0, a1, a2], _ => exact ⟨a0, a1, a2, rfl⟩
  have h0 : DataW.trod enc Tryd.prog W 0 (fun _ => true) true n 3 (([c0, c1, c2].drop 0).take (Tryd.prog.cellsOf 3)) = xs[0]? := h 0 _ rfl
  have h1 : DataW.trod enc Tryd.prog W 0 (fun _ => true) true n 32 (([c0, c1, c2].drop 1).take (Tryd.prog.cellsOf 32)) = xs[1]? := h 1 _ rfl
  have hx : ∀ i, i < 2 → ∃ y, xs[i]? = some y := fun i hi => ⟨_, List.getElem?_eq_getElem (by rw [hxl]; exact hi)⟩
  obtain ⟨y0, e0⟩ := hx 0 (by omega)
  rw [e0] at h0
  obtain ⟨y1, e1⟩ := hx 1 (by omega)
  rw [e1] at h1
  simp only [cells3, cells32, List.drop_zero, List.drop_succ_cons, List.take_succ_cons, List.take_zero] at h0 h1
  obtain ⟨a0, q0, -, w0⟩ := DataW.trod_int Tryd.underlying3 h0
  simp at q0
  subst q0
  obtain ⟨zs, m, -, -, hl2, hzl, k⟩ := DataW.trod_struct Tryd.underlying32 h1
  have k0 : DataW.trod enc Tryd.prog W 0 (fun _ => true) true m 3 (([c1, c2].drop 0).take (Tryd.prog.cellsOf 3)) = zs[0]? := k 0 _ rfl
  have k1 : DataW.trod enc Tryd.prog W 0 (fun _ => true) true m 2 (([c1, c2].drop 1).take (Tryd.prog.cellsOf 2)) = zs[1]? := k 1 _ rfl
  have hz : ∀ i, i < 2 → ∃ y, zs[i]? = some y := fun i hi => ⟨_, List.getElem?_eq_getElem (by rw [hzl]; exact hi)⟩
  obtain ⟨z0, f0⟩ := hz 0 (by omega)
  rw [f0] at k0
  obtain ⟨z1, f1⟩ := hz 1 (by omega)
  rw [f1] at k1
  simp only [cells3, cells2, List.drop_zero, List.drop_succ_cons, List.take_succ_cons, List.take_zero] at k0 k1
  obtain ⟨a1, q1, -, w1⟩ := DataW.trod_int Tryd.underlying3 k0
  simp at q1
  subst q1
  obtain ⟨a2, q2, -, w2⟩ := DataW.trod_int Tryd.underlying2 k1
  simp at q2
  subst q2
  exact ⟨(a0, (a1, a2)), rfl, ir_of w0, ir_of w1, ir_of w2⟩
theorem nu_of {H : Type} {enc : TypeId × Value → H} {W : World} (fuel : Nat) (cs : List Value) (x : DataW H × List MemPlace) (hf : DataW.trod enc Tryd.prog W 0 (fun _ => true) true fuel 2 cs = some x) : ∃ k : Int, cs = nuC k ∧ IR k := by
  obtain ⟨a, q, -, w⟩ := DataW.trod_int Tryd.underlying2 hf
  exact ⟨a, q, ir_of w⟩
theorem known_of {H : Type} {enc : TypeId × Value → H} {W : World} {fuel : Nat} {v : Value} {x : DataW H × List MemPlace} (hf : DataW.trod enc Tryd.prog W 0 (fun _ => true) true fuel 25 [v] = some x) :
    ∃ l, RdK W v l ∧ ∀ k ∈ l, IR k.1 ∧ IR k.2.1 ∧ IR k.2.2 :=
  rowX_of knC _ 25 47 3 Tryd.underlying25 cells47 (by omega) (fun _ => rfl) (fun a => ⟨_, rfl, fun c h => by cases h⟩) kn_of hf
theorem nums_of {H : Type} {enc : TypeId × Value → H} {W : World} {fuel : Nat} {v : Value} {x : DataW H × List MemPlace} (hf : DataW.trod enc Tryd.prog W 0 (fun _ => true) true fuel 26 [v] = some x) :
    ∃ l, RdN W v l ∧ ∀ k ∈ l, IR k :=
  rowX_of nuC _ 26 2 1 Tryd.underlying26 cells2 (by omega) (fun _ => rfl) (fun a => ⟨_, rfl, fun c h => by cases h⟩) nu_of hf
set_option maxRecDepth 100000 in
theorem giv_of {H : Type} {enc : TypeId × Value → H} {W : World} {fuel : Nat} {cs : List Value} {x : DataW H × List MemPlace} (hf : DataW.trod enc Tryd.prog W 0 (fun _ => true) true fuel 28 cs = some x) :
    ∃ (arg : Int) (kv sv : Value) (fu : Int) (l : List (Int × Oc)) (sg : List Int), cs = [.int .i64 arg, kv, sv, .int .i64 fu] ∧ IR arg ∧ IR fu ∧ RdK W kv l ∧ (∀ k ∈ l, IR k.1 ∧ IR k.2.1 ∧ IR k.2.2) ∧ RdN W sv sg ∧ (∀ k ∈ sg, IR k) := by
  obtain ⟨xs, n, -, -, hl, hxl, h⟩ := DataW.trod_struct Tryd.underlying28 hf
  rw [cells28] at hl
  obtain ⟨c0, c1, c2, c3, rfl⟩ : ∃ c0 c1 c2 c3, cs = [c0, c1, c2, c3] := by
    match cs, hl with
    | [a0, a1, a2, a3], _ => exact ⟨a0, a1, a2, a3, rfl⟩
  have h0 : DataW.trod enc Tryd.prog W 0 (fun _ => true) true n 2 (([c0, c1, c2, c3].drop 0).take (Tryd.prog.cellsOf 2)) = xs[0]? := h 0 _ rfl
  have h1 : DataW.trod enc Tryd.prog W 0 (fun _ => true) true n 25 (([c0, c1, c2, c3].drop 1).take (Tryd.prog.cellsOf 25)) = xs[1]? := h 1 _ rfl
  have h2 : DataW.trod enc Tryd.prog W 0 (fun _ => true) true n 26 (([c0, c1, c2, c3].drop 2).take (Tryd.prog.cellsOf 26)) = xs[2]? := h 2 _ rfl
  have h3 : DataW.trod enc Tryd.prog W 0 (fun _ => true) true n 3 (([c0, c1, c2, c3].drop 3).take (Tryd.prog.cellsOf 3)) = xs[3]? := h 3 _ rfl
  have hx : ∀ i, i < 4 → ∃ y, xs[i]? = some y := fun i hi => ⟨_, List.getElem?_eq_getElem (by rw [hxl]; exact hi)⟩
  obtain ⟨y0, e0⟩ := hx 0 (by omega)
  rw [e0] at h0
  obtain ⟨y1, e1⟩ := hx 1 (by omega)
  rw [e1] at h1
  obtain ⟨y2, e2⟩ := hx 2 (by omega)
  rw [e2] at h2
  obtain ⟨y3, e3⟩ := hx 3 (by omega)
  rw [e3] at h3
  simp only [cells2, cells25, cells26, cells3, List.drop_zero, List.drop_succ_cons, List.take_succ_cons, List.take_zero] at h0 h1 h2 h3
  obtain ⟨a0, q0, -, w0⟩ := DataW.trod_int Tryd.underlying2 h0
  simp at q0
  subst q0
  obtain ⟨a3, q3, -, w3⟩ := DataW.trod_int Tryd.underlying3 h3
  simp at q3
  subst q3
  obtain ⟨l, hlk, hwl⟩ := known_of h1
  obtain ⟨sg, hsg, hws⟩ := nums_of h2
  exact ⟨a0, c1, c2, a3, l, sg, rfl, ir_of w0, ir_of w3, hlk, hwl, hsg, hws⟩
theorem agg_of28 {W : World} {base : Nat} {v : Value} (h : Value.okWide Tryd.prog W .any base 28 v) : ∃ xs : Array Value, v = .agg xs := by
  simp only [Value.okWide, Tryd.underlying28] at h
  obtain ⟨cs, h1, -⟩ := h
  exact ⟨cs, h1⟩
theorem agg_of42 {W : World} {base : Nat} {v : Value} (h : Value.okWide Tryd.prog W .any base 42 v) : ∃ xs : Array Value, v = .agg xs := by
  simp only [Value.okWide, Tryd.underlying42] at h
  obtain ⟨cs, h1, -⟩ := h
  exact ⟨cs, h1⟩
/-- an array of two numbers that came in -/
theorem arr_of {H : Type} {enc : TypeId × Value → H} {W : World} {fuel : Nat} {cs : Array Value} {x : DataW H × List MemPlace} (hf : DataW.trod enc Tryd.prog W 0 (fun _ => true) true fuel 42 cs.toList = some x) :
    ∃ t0 t1 : Int, cs = #[.int .i64 t0, .int .i64 t1] ∧ IR t0 ∧ IR t1 := by
  obtain ⟨xs, m, -, -, hl, hxl, he⟩ := DataW.trod_array Tryd.underlying42 hf
  rw [cells42] at hl
  rw [cells3] at he
  obtain ⟨c0, c1, hcs⟩ : ∃ c0 c1, cs.toList = [c0, c1] := by
    match cs.toList, hl with
    | [a0, a1], _ => exact ⟨a0, a1, rfl⟩
  rw [hcs] at he
  have h0 := he 0 (by omega)
  have h1 := he 1 (by omega)
  have hx : ∀ i, i < 2 → ∃ y, xs[i]? = some y := fun i hi => ⟨_, List.getElem?_eq_getElem (by rw [hxl]; exact hi)⟩
  obtain ⟨y0, e0⟩ := hx 0 (by omega)
  obtain ⟨y1, e1⟩ := hx 1 (by omega)
  rw [e0] at h0
  rw [e1] at h1
  obtain ⟨a0, q0, -, w0⟩ := DataW.trod_int Tryd.underlying3 h0
  obtain ⟨a1, q1, -, w1⟩ := DataW.trod_int Tryd.underlying3 h1
  simp at q0 q1
  subst q0 q1
  exact ⟨a0, a1, by rw [← Array.toArray_toList (xs := cs), hcs], ir_of w0, ir_of w1⟩
end Go.Proofs.YtlngeonfabahnaaDoor
