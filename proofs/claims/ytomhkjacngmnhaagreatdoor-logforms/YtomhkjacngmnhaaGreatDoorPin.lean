/-
  What the rows' listed variables give the walks; one start that fits. Own work.
-/
import Derived.Test.YtomhkjacngmnhaaGreatDoorQd
import Derived.Stop.LaidErr
import Derived.Lib.LaidTab
import Derived.LaidLaws
import Derived.JoinedOf
import Derived.JoinedAt
namespace Go.Proofs.YtomhkjacngmnhaaGreatDoor
open Go.RowKit Go.Shelf

theorem star : "*" ++ "errors.errorString" = "*errors.errorString" := by decide
theorem row206 (u : TypeId) (h : Tryz.prog.typeName? 3 u = some "*errors.errorString") : u = 206 :=
  typeName_ptr_named (nm := "errors.errorString") (by rw [star]; kernel_rfl) (by kernel_rfl) (by decide) u (by rw [star]; exact h)

theorem laid_of {W : World} (hL : laidMet Tryz.prog Rows.logNoneRow.laid W) : Laid W ∧ 6 ≤ W.heap.size := by
  have h1 := laidMet.tail hL
  have h2 := laidMet.tail h1
  have h3 := laidMet.tail h2
  have h4 := laidMet.tail h3
  refine ⟨⟨?_, ?_, ?_⟩, ?_⟩
  · exact Lib.tabIs_of_head (g := 3) (t := 210) (e := 126) (n := 20) (k := .u64) (zs := Lib.pow10Tab) (by kernel_rfl) (by kernel_rfl) Tryz.underlying210 Tryz.underlying126 (by kernel_rfl) (by kernel_rfl) h2
  · obtain ⟨a, s, hv, -⟩ := laid_sentinel h4 (g := 1) (ti := 163) (tp := 206) (te := 208) (ts := 9) (by kernel_rfl) (by kernel_rfl) Tryz.underlying163 row206 Tryz.underlying206 Tryz.underlying208 rfl rfl Tryz.underlying9 (by kernel_rfl) (by kernel_rfl)
    exact ⟨_, _, hv⟩
  · obtain ⟨a, s, hv, -⟩ := laid_sentinel h3 (g := 2) (ti := 163) (tp := 206) (te := 208) (ts := 9) (by kernel_rfl) (by kernel_rfl) Tryz.underlying163 row206 Tryz.underlying206 Tryz.underlying208 rfl rfl Tryz.underlying9 (by kernel_rfl) (by kernel_rfl)
    exact ⟨_, _, hv⟩
  · obtain ⟨ps, ⟨g', t', cs, fuel, p, q, hg', ht', hvar, hd, _, _⟩, _⟩ := h1
    obtain rfl : g' = 5 := Option.some.inj (hg'.symm.trans (by kernel_rfl))
    unfold World.var? at hvar
    rw [hg'] at hvar
    simp only [Option.bind_some] at hvar
    rcases Nat.lt_or_ge 5 W.heap.size with h' | h'
    · exact h'
    · rw [Array.getElem?_eq_none h'] at hvar; cases hvar

def synS : ByteArray := ⟨#[105, 110, 118, 97, 108, 105, 100, 32, 115, 121, 110, 116, 97, 120]⟩
def ranS : ByteArray := ⟨#[118, 97, 108, 117, 101, 32, 111, 117, 116, 32, 111, 102, 32, 114, 97, 110, 103, 101]⟩
/-- the cells of a table -/
def tabCells (d : DataW Unit) : Array Value := match d with
  | .agg l => (l.map fun x => match x with
    | .lit y => y.value
    | _ => .int .u8 0).toArray
  | _ => #[]
/-- a block with other cells -/
def inCells (cs : Array Value) (o : Obj) : Obj := match o with
  | .cells _ t fz => .cells cs t fz
  | o => o
/-- one start that fits: the tables, and the two errors, as the program's text lays them -/
def laidWorld (P : Program) (os : Os) : World :=
  let w0 := World.holding P os ⟨#[.cells #[.string synS] 208, .cells #[.string ranS] 208], #[], []⟩
  { w0 with heap := ((((w0.heap.modify 1 (inCells #[.iface 206 (.pointer (some ⟨11, 0, none⟩))])).modify 2 (inCells #[.iface 206 (.pointer (some ⟨12, 0, none⟩))])).modify 3 (inCells (tabCells Rows.laid_internal_strconv_uint64pow10))).modify 4 (inCells (tabCells Rows.laid_math_bits_deBruijn32tab))).modify 5 (inCells (tabCells Rows.laid_math_bits_deBruijn64tab)) }
theorem laidWorld_met (os : Os) (args : Array Value) : laidMet Tryz.prog Rows.logNoneRow.laid ((laidWorld Tryz.prog os).forCall (fun _ _ => 0) ⟨#[], args, []⟩).memory :=
  laidMet_of_run' 8 (by kernel_rfl) (by kernel_rfl)
end Go.Proofs.YtomhkjacngmnhaaGreatDoor
