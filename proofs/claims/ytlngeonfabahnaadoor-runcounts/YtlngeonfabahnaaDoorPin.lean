/-
  What the rows' listed variables give the walks; one start that fits. Own work.
-/
import Derived.Test.YtlngeonfabahnaaDoorCf
import Derived.Test.YtlngeonfabahnaaDoorRows
import Derived.Stop.LaidErr
import Derived.Lib.LaidTab
import Derived.LaidLaws
import Derived.JoinedOf
import Derived.JoinedAt
import Derived.OpenShut
namespace Go.Proofs.YtlngeonfabahnaaDoor
open Go Go.RowKit

theorem cells9 : Tryd.prog.cellsOf 9 = 1 := by kernel_rfl
theorem cells83 : Tryd.prog.cellsOf 83 = 2 := by kernel_rfl
theorem cells89 : Tryd.prog.cellsOf 89 = 34 := by kernel_rfl
theorem kinds_list {H : Type} : (Rows.laid_millwheel_program_kinds : DataW H) = .agg ((List.range 17).map fun o => .agg [.lit (.string ((wordL o).map UInt8.ofNat)), .lit (.string ((fields o).map UInt8.ofNat))]) := rfl
theorem two_of {α : Type} (l : List α) (i : Nat) (h : i * 2 + 1 < l.length) : (l.drop (i * 2)).take 2 = [l[i * 2], l[i * 2 + 1]] := by
  rw [List.drop_eq_getElem_cons (by omega), List.drop_eq_getElem_cons (by omega)]
  rfl
set_option maxRecDepth 100000 in
theorem laid_of {W : World} (hL : laidMet Tryd.prog Rows.runTellsRow.laid W) : Kinds W := by
  obtain ⟨ps, ⟨g', t', cs, fuel, p, q, hg', ht', hvar, hd, _, _⟩, _⟩ := hL
  obtain rfl : g' = 0 := Option.some.inj (hg'.symm.trans (by kernel_rfl))
  obtain rfl : t' = 89 := Option.some.inj (ht'.symm.trans (by kernel_rfl))
  obtain ⟨xs, m, -, hx, hl, hxl, h⟩ := DataW.trod_array Tryd.underlying89 hd
  rw [cells89] at hl
  have hxs := congrArg Prod.fst hx
  simp only at hxs
  rw [kinds_list, DataW.agg.injEq] at hxs
  unfold World.var? at hvar
  rw [hg'] at hvar
  simp only [Option.bind_some] at hvar
  split at hvar
  · rename_i c2 t2 f2 hh
    obtain rfl := Option.some.inj hvar
    have key : ∀ o, o < 17 → c2.toList[o * 2]? = some (.string (wordS o)) ∧ c2.toList[o * 2 + 1]? = some (.string (fieldS o)) := by
      intro o ho
      have ho' := h o ho
      rw [cells83, two_of _ _ (by omega)] at ho'
      obtain ⟨y, hy⟩ : ∃ y, xs[o]? = some y := ⟨_, List.getElem?_eq_getElem (by rw [hxl]; exact ho)⟩
      rw [hy] at ho'
      have hy1 : (xs.map (·.1))[o]? = some y.1 := by rw [List.getElem?_map, hy]; rfl
      rw [← hxs, List.getElem?_map, List.getElem?_range ho] at hy1
      have hy2 := Option.some.inj hy1
      obtain ⟨zs, n, -, hz, -, hzl, hz2⟩ := DataW.trod_struct Tryd.underlying83 ho'
      have hzf := congrArg Prod.fst hz
      simp only at hzf
      rw [← hy2, DataW.agg.injEq] at hzf
      have z0 : DataW.trod _ Tryd.prog _ _ _ _ n 9 (([c2.toList[o * 2], c2.toList[o * 2 + 1]].drop 0).take (Tryd.prog.cellsOf 9)) = zs[0]? := hz2 0 _ rfl
      have z1 : DataW.trod _ Tryd.prog _ _ _ _ n 9 (([c2.toList[o * 2], c2.toList[o * 2 + 1]].drop 1).take (Tryd.prog.cellsOf 9)) = zs[1]? := hz2 1 _ rfl
      obtain ⟨u0, u1, rfl⟩ : ∃ u0 u1, zs = [u0, u1] := by
        have hzl' : zs.length = 2 := hzl
        match zs, hzl' with
        | [a, b], _ => exact ⟨a, b, rfl⟩
      rw [cells9] at z0 z1
      obtain ⟨s0, q0, k0, -⟩ := DataW.trod_string Tryd.underlying9 (z0.trans rfl)
      obtain ⟨s1, q1, k1, -⟩ := DataW.trod_string Tryd.underlying9 (z1.trans rfl)
      simp only [List.map_cons, List.map_nil, k0, k1, List.cons.injEq, DataW.lit.injEq, Lit.string.injEq, and_true] at hzf
      have q0' : c2.toList[o * 2] = .string s0 := by simpa using q0
      have q1' : c2.toList[o * 2 + 1] = .string s1 := by simpa using q1
      have b0 : s0 = wordS o := ByteArray.ext (by rw [← Array.toArray_toList (xs := s0.data), ← hzf.1]; rfl)
      have b1 : s1 = fieldS o := ByteArray.ext (by rw [← Array.toArray_toList (xs := s1.data), ← hzf.2]; rfl)
      exact ⟨by rw [List.getElem?_eq_getElem (by omega), q0', b0], by rw [List.getElem?_eq_getElem (by omega), q1', b1]⟩
    refine ⟨(Array.getElem?_eq_some_iff.1 hh).1, fun o ho => ?_, fun o ho => ?_⟩
    · rw [show W.cell? ⟨0, o * 2, none⟩ = c2[o * 2]? by simp [World.cell?, hh], ← Array.getElem?_toList]
      exact (key o ho).1
    · rw [show W.cell? ⟨0, o * 2 + 1, none⟩ = c2[o * 2 + 1]? by simp [World.cell?, hh], ← Array.getElem?_toList]
      exact (key o ho).2
  · cases hvar

def kindCells : Array Value := (((List.range 17).map fun o => [Value.string (wordS o), Value.string (fieldS o)]).flatten).toArray
/-- a block with other cells -/
def inCells (cs : Array Value) (o : Obj) : Obj := match o with
  | .cells _ t fz => .cells cs t fz
  | o => o
/-- one start that fits: the tables, as the program's text lays them -/
def laidWorld (P : Program) (os : Os) : World :=
  let w0 := World.holding P os ⟨#[], #[], []⟩
  { w0 with heap := w0.heap.modify 0 (inCells kindCells) }
theorem laidWorld_met (os : Os) (args : Array Value) : laidMet Tryd.prog Rows.runTellsRow.laid ((laidWorld Tryd.prog os).forCall (fun _ _ => 0) ⟨#[], args, []⟩).memory :=
  laidMet_of_run' 8 (by kernel_rfl) (by kernel_rfl)
end Go.Proofs.YtlngeonfabahnaaDoor
