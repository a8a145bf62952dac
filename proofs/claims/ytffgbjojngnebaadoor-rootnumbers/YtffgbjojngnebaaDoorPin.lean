/-
  What the rows' listed variable gives the walks; one start that fits. Own work.
-/
import Derived.Test.YtffgbjojngnebaaDoorKn
import Derived.LaidLaws
import Derived.JoinedOf
import Derived.JoinedAt
import Derived.OpenShut
namespace Go.Proofs.YtffgbjojngnebaaDoor
open Go.RowKit

theorem cells87 : Tryd.prog.cellsOf 9 = 1 := by kernel_rfl
theorem cells2 : Tryd.prog.cellsOf 87 = 2 := by kernel_rfl
set_option maxRecDepth 100000 in
theorem laid_of {W : World} (hL : laidMet Tryd.prog Rows.rootNoneRow.laid W) : Laid W := by
  obtain ⟨ps, ⟨g', t', cs, fuel, p, q, hg', ht', hvar, hd, _, _⟩, _⟩ := hL
  obtain rfl : g' = 0 := Option.some.inj (hg'.symm.trans (by kernel_rfl))
  obtain rfl : t' = 87 := Option.some.inj (ht'.symm.trans (by kernel_rfl))
  obtain ⟨xs, m, -, hx, hl, hxl, h⟩ := DataW.trod_array Tryd.underlying87 hd
  have hxs : xs.map (·.1) = [.lit (.string [114, 111, 111, 116, 48]), .lit (.string [114, 111, 111, 116, 49])] := by
    have := congrArg Prod.fst hx
    simpa [Rows.laid_millwheel_root_names] using this.symm
  have h0 := h 0 (by omega)
  have h1 := h 1 (by omega)
  obtain ⟨y0, y1, rfl⟩ : ∃ y0 y1, xs = [y0, y1] := by
    match xs, hxl with
    | [a, b], _ => exact ⟨a, b, rfl⟩
  obtain ⟨c0, c1, hcs⟩ : ∃ c0 c1, cs.toList = [c0, c1] := by
    have hl' : cs.toList.length = 2 := hl.trans cells2
    match cs.toList, hl' with
    | [a, b], _ => exact ⟨a, b, rfl⟩
  rw [hcs, cells87] at h0 h1
  obtain ⟨s0, q0, e0, -⟩ := DataW.trod_string Tryd.underlying9 (h0.trans rfl)
  obtain ⟨s1, q1, e1, -⟩ := DataW.trod_string Tryd.underlying9 (h1.trans rfl)
  simp only [List.map_cons, List.map_nil, e0, e1, List.cons.injEq, DataW.lit.injEq, Lit.string.injEq, and_true] at hxs
  simp only [List.drop_zero, Nat.zero_mul, List.take_succ_cons, List.take_zero, Nat.one_mul, List.drop_succ_cons, List.cons.injEq, and_true] at q0 q1
  have b0 : s0 = nR0 := ByteArray.ext (by rw [← Array.toArray_toList (xs := s0.data), hxs.1]; rfl)
  have b1 : s1 = nR1 := ByteArray.ext (by rw [← Array.toArray_toList (xs := s1.data), hxs.2]; rfl)
  subst q0 q1 b0 b1
  unfold World.var? at hvar
  rw [hg'] at hvar
  simp only [Option.bind_some] at hvar
  split at hvar
  · rename_i c2 t2 f2 hh
    obtain rfl := Option.some.inj hvar
    refine ⟨(Array.getElem?_eq_some_iff.1 hh).1, ?_, ?_⟩
    · rw [cell_of hh, ← Array.getElem?_toList, hcs]; rfl
    · rw [cell_of hh, ← Array.getElem?_toList, hcs]; rfl
  · cases hvar

/-- a block with other cells -/
def inCells (cs : Array Value) (o : Obj) : Obj := match o with
  | .cells _ t fz => .cells cs t fz
  | o => o
/-- one start that fits: the names, as the program's text lays them -/
def laidWorld (P : Program) (os : Os) : World :=
  let w0 := World.holding P os ⟨#[], #[], []⟩
  { w0 with heap := w0.heap.modify 0 (inCells #[.string nR0, .string nR1]) }
theorem laidWorld_met (os : Os) (args : Array Value) : laidMet Tryd.prog Rows.rootNoneRow.laid ((laidWorld Tryd.prog os).forCall (fun _ _ => 0) ⟨#[], args, []⟩).memory :=
  laidMet_of_run' 8 (by kernel_rfl) (by kernel_rfl)
end Go.Proofs.YtffgbjojngnebaaDoor
