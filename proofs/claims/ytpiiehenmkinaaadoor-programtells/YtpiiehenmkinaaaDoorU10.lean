/-
  Several of my texts in one: Pin Row Hin Hix. Own work.
-/
import Derived.Test.YtpiiehenmkinaaaDoorU3
import Derived.Test.YtpiiehenmkinaaaDoorRows
import Derived.Stop.LaidErr
import Derived.Lib.LaidTab
import Derived.LaidLaws
import Derived.JoinedOf
import Derived.JoinedAt
import Derived.OpenShut
import Derived.Test.YtpiiehenmkinaaaDoorU1
import Derived.WideShapes
import Derived.ChangeAt
import Derived.Deep.Slices
/-
  What the rows' listed variables give the walks; one start that fits. Own work.
-/
namespace Go.Proofs.YtpiiehenmkinaaaDoor
open Go.RowKit Go.Shelf

theorem cells9 : Tryd.prog.cellsOf 9 = 1 := by kernel_rfl
theorem cells85 : Tryd.prog.cellsOf 85 = 2 := by kernel_rfl
theorem cells107 : Tryd.prog.cellsOf 107 = 34 := by kernel_rfl
theorem kinds_list {H : Type} : (Rows.laid_millwheel_program_kinds : DataW H) = .agg ((List.range 17).map fun o => .agg [.lit (.string ((wordL o).map UInt8.ofNat)), .lit (.string ((fields o).map UInt8.ofNat))]) := rfl
theorem two_of {α : Type} (l : List α) (i : Nat) (h : i * 2 + 1 < l.length) : (l.drop (i * 2)).take 2 = [l[i * 2], l[i * 2 + 1]] := by
  rw [List.drop_eq_getElem_cons (by omega), List.drop_eq_getElem_cons (by omega)]
  rfl
set_option maxRecDepth 100000 in
theorem laid_of {W : World} (hL : laidMet Tryd.prog Rows.programEndsRow.laid W) : Laid W := by
  have h1 := laidMet.tail hL
  have h2 := laidMet.tail h1
  have h3 := laidMet.tail h2
  refine ⟨Lib.tabIs_of_head (g := 1) (t := 120) (e := 59) (n := 20) (k := .u64) (zs := Lib.pow10Tab) (by kernel_rfl) (by kernel_rfl) Tryd.underlying120 Tryd.underlying59 (by kernel_rfl) (by kernel_rfl) h2, ?_⟩
  obtain ⟨ps, ⟨g', t', cs, fuel, p, q, hg', ht', hvar, hd, _, _⟩, _⟩ := h3
  obtain rfl : g' = 0 := Option.some.inj (hg'.symm.trans (by kernel_rfl))
  obtain rfl : t' = 107 := Option.some.inj (ht'.symm.trans (by kernel_rfl))
  obtain ⟨xs, m, -, hx, hl, hxl, h⟩ := DataW.trod_array Tryd.underlying107 hd
  rw [cells107] at hl
  have hxs := congrArg Prod.fst hx
  simp only at hxs
  rw [kinds_list, DataW.agg.injEq] at hxs
  unfold World.var? at hvar
  rw [hg'] at hvar
  simp only [Option.bind_some] at hvar
  split at hvar
  · rename_i c2 t2 f2 hh
    obtain rfl := Option.some.inj hvar
    have key : ∀ o, o < 17 → c2.toList[o * 2]? = some (.string (wordS o)) ∧ c2.toList[o * 2 + 1]? = some (.string (fieldS o)) := by
      intro o ho
      have ho' := h o ho
      rw [cells85, two_of _ _ (by omega)] at ho'
      obtain ⟨y, hy⟩ : ∃ y, xs[o]? = some y := ⟨_, List.getElem?_eq_getElem (by rw [hxl]; exact ho)⟩
      rw [hy] at ho'
      have hy1 : (xs.map (·.1))[o]? = some y.1 := by rw [List.getElem?_map, hy]; rfl
      rw [← hxs, List.getElem?_map, List.getElem?_range ho] at hy1
      have hy2 := Option.some.inj hy1
      obtain ⟨zs, n, -, hz, -, hzl, hz2⟩ := DataW.trod_struct Tryd.underlying85 ho'
      have hzf := congrArg Prod.fst hz
      simp only at hzf
      rw [← hy2, DataW.agg.injEq] at hzf
      have z0 : DataW.trod _ Tryd.prog _ _ _ _ n 9 (([c2.toList[o * 2], c2.toList[o * 2 + 1]].drop 0).take (Tryd.prog.cellsOf 9)) = zs[0]? := hz2 0 _ rfl
      have z1 : DataW.trod _ Tryd.prog _ _ _ _ n 9 (([c2.toList[o * 2], c2.toList[o * 2 + 1]].drop 1).take (Tryd.prog.cellsOf 9)) = zs[1]? := hz2 1 _ rfl
      obtain ⟨u0, u1, rfl⟩ : ∃ u0 u1, zs = [u0, u1] := by
        have hzl' : zs.length = 2 := hzl
        match zs, hzl' with
        | [a, b], _ => exact ⟨a, b, rfl⟩
      rw [cells9] at z0 z1
      obtain ⟨s0, q0, k0, -⟩ := DataW.trod_string Tryd.underlying9 (z0.trans rfl)
      obtain ⟨s1, q1, k1, -⟩ := DataW.trod_string Tryd.underlying9 (z1.trans rfl)
      simp only [List.map_cons, List.map_nil, k0, k1, List.cons.injEq, DataW.lit.injEq, Lit.string.injEq, and_true] at hzf
      have q0' : c2.toList[o * 2] = .string s0 := by simpa using q0
      have q1' : c2.toList[o * 2 + 1] = .string s1 := by simpa using q1
      have b0 : s0 = wordS o := ByteArray.ext (by rw [← Array.toArray_toList (xs := s0.data), ← hzf.1]; rfl)
      have b1 : s1 = fieldS o := ByteArray.ext (by rw [← Array.toArray_toList (xs := s1.data), ← hzf.2]; rfl)
      exact ⟨by rw [List.getElem?_eq_getElem (by omega), q0', b0], by rw [List.getElem?_eq_getElem (by omega), q1', b1]⟩
    refine ⟨(Array.getElem?_eq_some_iff.1 hh).1, fun o ho => ?_, fun o ho => ?_⟩
    · rw [show W.cell? ⟨0, o * 2, none⟩ = c2[o * 2]? by simp [World.cell?, hh], ← Array.getElem?_toList]
      exact (key o ho).1
    · rw [show W.cell? ⟨0, o * 2 + 1, none⟩ = c2[o * 2 + 1]? by simp [World.cell?, hh], ← Array.getElem?_toList]
      exact (key o ho).2
  · cases hvar

/-- the cells of a table -/
def tabCells (d : DataW Unit) : Array Value := match d with
  | .agg l => (l.map fun x => match x with
    | .lit y => y.value
    | _ => .int .u8 0).toArray
  | _ => #[]
def kindCells : Array Value := (((List.range 17).map fun o => [Value.string (wordS o), Value.string (fieldS o)]).flatten).toArray
/-- a block with other cells -/
def inCells (cs : Array Value) (o : Obj) : Obj := match o with
  | .cells _ t fz => .cells cs t fz
  | o => o
/-- one start that fits: the tables, as the program's text lays them -/
def laidWorld (P : Program) (os : Os) : World :=
  let w0 := World.holding P os ⟨#[], #[], []⟩
  { w0 with heap := (((w0.heap.modify 0 (inCells kindCells)).modify 1 (inCells (tabCells Rows.laid_internal_strconv_uint64pow10))).modify 3 (inCells (tabCells Rows.laid_math_bits_deBruijn32tab))).modify 4 (inCells (tabCells Rows.laid_math_bits_deBruijn64tab)) }
theorem laidWorld_met (os : Os) (args : Array Value) : laidMet Tryd.prog Rows.programEndsRow.laid ((laidWorld Tryd.prog os).forCall (fun _ _ => 0) ⟨#[], args, []⟩).memory :=
  laidMet_of_run' 8 (by kernel_rfl) (by kernel_rfl)
end Go.Proofs.YtpiiehenmkinaaaDoor

/-
  A slice of bytes that came in, as bytes that are read. Own work.
-/
namespace Go.Proofs.YtpiiehenmkinaaaDoor
open Go.RowKit

theorem rd_of_row (w : World) (a : Option Addr) (len cap : Nat) (zs : List Int)
    (h : (a = none ∧ len = 0 ∧ cap = 0 ∧ zs = []) ∨ ∃ x, a = some x ∧ len ≤ cap ∧ cap ≤ maxLen ∧ zs.length = cap ∧ (∀ i, i < zs.length → w.cell? (x.add i) = some (.int .u8 (zs.getD i 0))) ∧ ∀ n ∈ zs, (Lit.int .u8 n).wf = true) :
    ∃ l, Rd w (.slice a len cap) l := by
  rcases h with ⟨rfl, rfl, rfl, rfl⟩ | ⟨x, rfl, h1, h2, h3, h4, h5⟩
  · exact ⟨[], Rd.nil w⟩
  · have hl : ((zs.take len).map fun z => UInt8.ofNat z.toNat).length = len := by simp; omega
    refine ⟨(zs.take len).map fun z => UInt8.ofNat z.toNat, some x, cap, by rw [hl], by rw [hl]; exact h1, h2, by simp, fun b hb i hi => ?_⟩
    obtain rfl := Option.some.inj hb
    rw [hl] at hi
    rw [h4 i (by omega)]
    simp only [List.getElem_map, List.getElem_take, Option.some.injEq, Value.int.injEq, true_and]
    have hz : i < zs.length := by omega
    have e : zs.getD i 0 = zs[i] := by simp [List.getD, hz]
    rw [e]
    have hb := bounds_u8 (h5 zs[i] (List.getElem_mem hz))
    rw [UInt8.toNat_ofNat']
    omega
end Go.Proofs.YtpiiehenmkinaaaDoor

/-
  What came in: bytes, programs, an instruction. Own work.
-/
namespace Go.Proofs.YtpiiehenmkinaaaDoor
open Go.RowKit Go.ChangeShapes Go.WideShapes Go.ChangeAt

theorem cells24 : Tryd.prog.cellsOf 24 = 3 := by kernel_rfl
theorem cells3 : Tryd.prog.cellsOf 3 = 1 := by kernel_rfl
theorem cells2 : Tryd.prog.cellsOf 2 = 1 := by kernel_rfl
theorem cells22 : Tryd.prog.cellsOf 22 = 1 := by kernel_rfl
theorem cells26 : Tryd.prog.cellsOf 26 = 1 := by kernel_rfl
theorem cells28 : Tryd.prog.cellsOf 28 = 6 := by kernel_rfl
theorem ir_of {n : Int} (h : (Lit.int .i64 n).wf = true) : IR n := bounds_i64 h
theorem list_ofT {α : Type} {p : Nat → α → Prop} (n : Nat) (h : ∀ i, i < n → ∃ x, p i x) : ∃ l : List α, l.length = n ∧ ∀ i (hi : i < l.length), p i l[i] := by
  induction n with
  | zero => exact ⟨[], rfl, fun i hi => by simp at hi⟩
  | succ n ih =>
    obtain ⟨l, hl, hp⟩ := ih (fun i hi => h i (by omega))
    obtain ⟨x, hx⟩ := h n (by omega)
    refine ⟨l ++ [x], by simp [hl], fun i hi => ?_⟩
    by_cases hil : i < l.length
    · rw [List.getElem_append_left hil]
      exact hp i hil
    · have : i = n := by simp at hi; omega
      subst this
      rw [List.getElem_append_right (by omega)]
      simpa using hx
set_option maxRecDepth 100000 in
theorem row_of {H : Type} {enc : TypeId × Value → H} {W : World} {fuel : Nat} {v : Value} {x : DataW H × List MemPlace} (hf : DataW.trod enc Tryd.prog W 0 (fun _ => true) true fuel 25 [v] = some x) : ∃ l, Rd W v l := by
  rcases open_ints Tryd.underlying25 Tryd.underlying5 (by kernel_rfl) hf with ⟨hcs, _⟩ | ⟨x, l, c, zs, hcs, _, hle, hm, hz, _, hcell, hwz⟩
  · simp at hcs
    subst hcs
    exact ⟨[], Rd.nil W⟩
  · simp at hcs
    subst hcs
    exact rd_of_row W (some x) l c zs (.inr ⟨x, rfl, hle, hm, by simpa using hz, hcell, hwz⟩)
set_option maxRecDepth 100000 in
theorem ins_of {H : Type} {enc : TypeId × Value → H} {W : World} {fuel : Nat} {cs : List Value} {x : DataW H × List MemPlace} (hf : DataW.trod enc Tryd.prog W 0 (fun _ => true) true fuel 28 cs = some x) : ∃ i : Ins, cs = insC i ∧ i.wf := by
  obtain ⟨xs, n, -, -, hl, hxl, h⟩ := DataW.trod_struct Tryd.underlying28 hf
  rw [cells28] at hl
  obtain ⟨c0, c1, c2, c3, c4, c5, rfl⟩ : ∃ c0 c1 c2 c3 c4 c5, cs = [c0, c1, c2, c3, c4, c5] := by
    match cs, hl with
    | [a0, a1, a2, a3, a4, a5], _ => exact ⟨a0, a1, a2, a3, a4, a5, rfl⟩
  have h0 : DataW.trod enc Tryd.prog W 0 (fun _ => true) true n 26 (([c0, c1, c2, c3, c4, c5].drop 0).take (Tryd.prog.cellsOf 26)) = xs[0]? := h 0 _ rfl
  have h1 : DataW.trod enc Tryd.prog W 0 (fun _ => true) true n 3 (([c0, c1, c2, c3, c4, c5].drop 1).take (Tryd.prog.cellsOf 3)) = xs[1]? := h 1 _ rfl
  have h2 : DataW.trod enc Tryd.prog W 0 (fun _ => true) true n 3 (([c0, c1, c2, c3, c4, c5].drop 2).take (Tryd.prog.cellsOf 3)) = xs[2]? := h 2 _ rfl
  have h3 : DataW.trod enc Tryd.prog W 0 (fun _ => true) true n 3 (([c0, c1, c2, c3, c4, c5].drop 3).take (Tryd.prog.cellsOf 3)) = xs[3]? := h 3 _ rfl
  have h4 : DataW.trod enc Tryd.prog W 0 (fun _ => true) true n 2 (([c0, c1, c2, c3, c4, c5].drop 4).take (Tryd.prog.cellsOf 2)) = xs[4]? := h 4 _ rfl
  have h5 : DataW.trod enc Tryd.prog W 0 (fun _ => true) true n 9 (([c0, c1, c2, c3, c4, c5].drop 5).take (Tryd.prog.cellsOf 9)) = xs[5]? := h 5 _ rfl
  have hx : ∀ i, i < 6 → ∃ y, xs[i]? = some y := fun i hi => ⟨_, List.getElem?_eq_getElem (by rw [hxl]; exact hi)⟩
  obtain ⟨y0, e0⟩ := hx 0 (by omega)
  rw [e0] at h0
  obtain ⟨y1, e1⟩ := hx 1 (by omega)
  rw [e1] at h1
  obtain ⟨y2, e2⟩ := hx 2 (by omega)
  rw [e2] at h2
  obtain ⟨y3, e3⟩ := hx 3 (by omega)
  rw [e3] at h3
  obtain ⟨y4, e4⟩ := hx 4 (by omega)
  rw [e4] at h4
  obtain ⟨y5, e5⟩ := hx 5 (by omega)
  rw [e5] at h5
  simp only [cells2, cells3, cells9, cells26, List.drop_zero, List.drop_succ_cons, List.take_succ_cons, List.take_zero] at h0 h1 h2 h3 h4 h5
  obtain ⟨a0, q0, -, w0⟩ := DataW.trod_int Tryd.underlying26 h0
  simp at q0
  subst q0
  obtain ⟨a1, q1, -, w1⟩ := DataW.trod_int Tryd.underlying3 h1
  simp at q1
  subst q1
  obtain ⟨a2, q2, -, w2⟩ := DataW.trod_int Tryd.underlying3 h2
  simp at q2
  subst q2
  obtain ⟨a3, q3, -, w3⟩ := DataW.trod_int Tryd.underlying3 h3
  simp at q3
  subst q3
  obtain ⟨a4, q4, -, w4⟩ := DataW.trod_int Tryd.underlying2 h4
  simp at q4
  subst q4
  obtain ⟨a5, q5, -, w5⟩ := DataW.trod_string Tryd.underlying9 h5
  simp at q5
  subst q5
  have hb := bounds_u8 w0
  refine ⟨⟨a0.toNat, a1, a2, a3, a4, a5⟩, ?_, ⟨by show a0.toNat < 256; omega, ir_of w1, ir_of w2, ir_of w3, ir_of w4, w5⟩⟩
  unfold insC
  simp only
  rw [Int.toNat_of_nonneg hb.1]
set_option maxRecDepth 100000 in
theorem code_of {H : Type} {enc : TypeId × Value → H} {W : World} {fuel : Nat} {v : Value} {x : DataW H × List MemPlace} (hf : DataW.trod enc Tryd.prog W 0 (fun _ => true) true fuel 22 [v] = some x) :
    ∃ l, RdC W v l ∧ ∀ i ∈ l, i.wf := by
  rcases Go.Deep.open_slice Tryd.underlying22 hf with ⟨hcs, -⟩ | ⟨a, len, cap, m, n, D, Pl, hcs, -, hl, hm, hmm, -, hx⟩
  · simp at hcs
    subst hcs
    exact ⟨[], RdC.nil W, fun x h => by cases h⟩
  · simp at hcs hmm
    subst hcs hmm
    rw [cells28] at hx
    obtain ⟨xs, hxs, hp⟩ := list_ofT (p := fun i (t : Ins) => t.wf ∧ ∀ j, j < 6 → W.cell? ((a.add (i * 6)).add j) = (insC t)[j]?) len (fun i hi => by
      obtain ⟨cs', hc, ht⟩ := hx i (by omega)
      obtain ⟨t, hd, h1⟩ := ins_of ht
      obtain ⟨-, -, hcell⟩ := World.cells?_some hc
      exact ⟨t, h1, fun j hj => by rw [hcell j hj, hd]⟩)
    refine ⟨xs, ⟨some a, m, by rw [hxs], by rw [hxs]; exact hl, hm, by simp, fun k hk => ?_⟩, fun x hx => ?_⟩
    · obtain ⟨-, hc⟩ := hp k hk
      obtain ⟨b, off, sp⟩ := a
      have h00 : W.cell? (((⟨b, off, sp⟩ : Addr).add (0 * 6)).add 0) = some (.int .u8 ((xs[0]'(by omega)).op : Int)) := ((hp 0 (by omega)).2 0 (by omega)).trans rfl
      have hsp : sp = none := by
        cases sp with
        | none => rfl
        | some s =>
          simp [Addr.add, World.cell?] at h00
          split at h00 <;> simp at h00
      subst hsp
      refine ⟨b, off, rfl, fun j u hu => ?_⟩
      have hj : j < 6 := (List.getElem?_eq_some_iff.1 hu).1
      have := hc j hj
      rw [addr_add, addr_add, hu] at this
      exact this
    · obtain ⟨i, hi, rfl⟩ := List.getElem_of_mem hx
      exact (hp i hi).1
set_option maxRecDepth 100000 in
theorem prg_of {H : Type} {enc : TypeId × Value → H} {W : World} {fuel : Nat} {cs : List Value} {x : DataW H × List MemPlace} (hf : DataW.trod enc Tryd.prog W 0 (fun _ => true) true fuel 24 cs = some x) :
    ∃ (p : Prg) (cv : Value), cs = [.string p.name, .int .i64 p.regs, cv] ∧ RdC W cv p.code ∧ (∀ i ∈ p.code, i.wf) ∧ IR p.regs ∧ p.name.size ≤ maxLen := by
  obtain ⟨xs, n, -, -, hl, hxl, h⟩ := DataW.trod_struct Tryd.underlying24 hf
  rw [cells24] at hl
  obtain ⟨c0, c1, c2, rfl⟩ : ∃ c0 c1 c2, cs = [c0, c1, c2] := by
    match cs, hl with
    | [a0, a1, a2], _ => exact ⟨a0, a1, a2, rfl⟩
  have h0 : DataW.trod enc Tryd.prog W 0 (fun _ => true) true n 9 (([c0, c1, c2].drop 0).take (Tryd.prog.cellsOf 9)) = xs[0]? := h 0 _ rfl
  have h1 : DataW.trod enc Tryd.prog W 0 (fun _ => true) true n 3 (([c0, c1, c2].drop 1).take (Tryd.prog.cellsOf 3)) = xs[1]? := h 1 _ rfl
  have h2 : DataW.trod enc Tryd.prog W 0 (fun _ => true) true n 22 (([c0, c1, c2].drop 2).take (Tryd.prog.cellsOf 22)) = xs[2]? := h 2 _ rfl
  have hx : ∀ i, i < 3 → ∃ y, xs[i]? = some y := fun i hi => ⟨_, List.getElem?_eq_getElem (by rw [hxl]; exact hi)⟩
  obtain ⟨y0, e0⟩ := hx 0 (by omega)
  rw [e0] at h0
  obtain ⟨y1, e1⟩ := hx 1 (by omega)
  rw [e1] at h1
  obtain ⟨y2, e2⟩ := hx 2 (by omega)
  rw [e2] at h2
  simp only [cells3, cells9, cells22, List.drop_zero, List.drop_succ_cons, List.take_succ_cons, List.take_zero] at h0 h1 h2
  obtain ⟨a0, q0, -, w0⟩ := DataW.trod_string Tryd.underlying9 h0
  simp at q0
  subst q0
  obtain ⟨a1, q1, -, w1⟩ := DataW.trod_int Tryd.underlying3 h1
  simp at q1
  subst q1
  obtain ⟨l, hr, hwf⟩ := code_of h2
  exact ⟨⟨a0, a1, l⟩, c2, rfl, hr, hwf, ir_of w1, w0⟩
set_option maxRecDepth 100000 in
theorem agg_of24 {W : World} {base : Nat} {v : Value} (h : Value.okWide Tryd.prog W .any base 24 v) : ∃ xs : Array Value, v = .agg xs := by
  simp only [Value.okWide, Tryd.underlying24] at h
  obtain ⟨cs, h1, -⟩ := h
  exact ⟨cs, h1⟩
end Go.Proofs.YtpiiehenmkinaaaDoor

/-
  What came in: a law's extra. Own work.
-/
namespace Go.Proofs.YtpiiehenmkinaaaDoor
open Go.RowKit Go.ChangeShapes Go.WideShapes Go.ChangeAt

theorem cells30 : Tryd.prog.cellsOf 30 = 7 := by kernel_rfl
set_option maxRecDepth 100000 in
theorem extra_of {H : Type} {enc : TypeId × Value → H} {W : World} {fuel : Nat} {cs : List Value} {x : DataW H × List MemPlace} (hf : DataW.trod enc Tryd.prog W 0 (fun _ => true) true fuel 30 cs = some x) :
    ∃ (z : Int) (i : Ins), cs = .int .i64 z :: insC i ∧ IR z ∧ i.wf := by
  obtain ⟨xs, n, -, -, hl, hxl, h⟩ := DataW.trod_struct Tryd.underlying30 hf
  rw [cells30] at hl
  obtain ⟨c0, c1, c2, c3, c4, c5, c6, rfl⟩ : ∃ c0 c1 c2 c3 c4 c5 c6, cs = [c0, c1, c2, c3, c4, c5, c6] := by
    match cs, hl with
    | [a0, a1, a2, a3, a4, a5, a6], _ => exact ⟨a0, a1, a2, a3, a4, a5, a6, rfl⟩
  have h0 : DataW.trod enc Tryd.prog W 0 (fun _ => true) true n 3 (([c0, c1, c2, c3, c4, c5, c6].drop 0).take (Tryd.prog.cellsOf 3)) = xs[0]? := h 0 _ rfl
  have h1 : DataW.trod enc Tryd.prog W 0 (fun _ => true) true n 28 (([c0, c1, c2, c3, c4, c5, c6].drop 1).take (Tryd.prog.cellsOf 28)) = xs[1]? := h 1 _ rfl
  have hx : ∀ i, i < 2 → ∃ y, xs[i]? = some y := fun i hi => ⟨_, List.getElem?_eq_getElem (by rw [hxl]; exact hi)⟩
  obtain ⟨y0, e0⟩ := hx 0 (by omega)
  rw [e0] at h0
  obtain ⟨y1, e1⟩ := hx 1 (by omega)
  rw [e1] at h1
  simp only [cells3, cells28, List.drop_zero, List.drop_succ_cons, List.take_succ_cons, List.take_zero] at h0 h1
  obtain ⟨a0, q0, -, w0⟩ := DataW.trod_int Tryd.underlying3 h0
  simp at q0
  subst q0
  obtain ⟨i, hd, hw⟩ := ins_of h1
  exact ⟨a0, i, by rw [← hd], ir_of w0, hw⟩
set_option maxRecDepth 100000 in
theorem agg_of30 {W : World} {base : Nat} {v : Value} (h : Value.okWide Tryd.prog W .any base 30 v) : ∃ xs : Array Value, v = .agg xs := by
  simp only [Value.okWide, Tryd.underlying30] at h
  obtain ⟨cs, h1, -⟩ := h
  exact ⟨cs, h1⟩
end Go.Proofs.YtpiiehenmkinaaaDoor
