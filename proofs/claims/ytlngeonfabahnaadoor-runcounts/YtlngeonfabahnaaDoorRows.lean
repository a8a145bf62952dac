/-
  NARROWER THAN 'FOR EVERY INPUT', by the rows' own cells (each row's printed sentence says how): RunTells: laid · RunGrows: laid · RunFuel: laid · RunOrder: laid · RunCounts: laid · RunWaits: laid · RunSigns: laid.
  DERIVED. THE GIVEN ROWS OF THIS SEAT. 7 by the template 'for every input the law returns true; each argument reads behind the call as it read before'; 0 by the template 'total and deterministic' (their statements: YtlngeonfabahnaaDoorTotals.lean).
  GIVEN WITH THE SEED: the statements are not yours to turn. If you find one false, say at which input.
  Laid BY PROGRAM, IN A SANDBOX (cutbox-rows.mjs): the forced cells as the released guide's own fill.sh prints them over the translation aade61acc1741b8c… (all of the seat's roots in one cut). By AI agents, Wed Nov 11 2026. No macro, syntax, notation, axiom, sorry.
-/
import Derived.Test.YtlngeonfabahnaaDoorChecked
import GoSem.Claim
import GoSem.ClaimJoined
import GoSem.ClaimMapViews
import Derived.JoinedTies
import Derived.KernelRfl
namespace Go.Proofs.YtlngeonfabahnaaDoor
/- THE CELL 'sum', in the pinned program and in every row, IS THE sha256 OF THE DUMP (.gsa) THAT YtlngeonfabahnaaDoorProg.lean LOADS. Nothing in Lean hashes anything: it is a label: what it is worth is what the hold of that sum in a sandbox is worth. -/
noncomputable def Tryd.pinned : Pinned := { name := "ytlngeonfabahnaadoor", sum := "aade61acc1741b8cb050f0ae0af6e2afabcaa84d8cad7d48c6c2d09f7a4b1d08", checked := Tryd.checked }
namespace Rows
def none {H : Type} : Left H := { results := [], args := [] }

/- WHAT THE LISTED PACKAGE-LEVEL VARIABLES READ AS WHEN THE CALL BEGINS. Each datum BY PROGRAM (the guide's laid-datum.mjs) off the statement by which the dump's own 'gosem.cut.vars' lays the variable. In a bare row this is a premise. The card (YtlngeonfabahnaaDoorCards.lean) ties it to the program's text. -/
def laid_millwheel_program_kinds {H : Type} : DataW H := .agg [.agg [.lit (.string []), .lit (.string [])], .agg [.lit (.string [115, 101, 116]), .lit (.string [114, 46, 46, 110, 46])], .agg [.lit (.string [109, 111, 118, 101]), .lit (.string [114, 114, 46, 46, 46])], .agg [.lit (.string [97, 100, 100]), .lit (.string [114, 114, 114, 46, 46])], .agg [.lit (.string [115, 117, 98]), .lit (.string [114, 114, 114, 46, 46])], .agg [.lit (.string [109, 117, 108]), .lit (.string [114, 114, 114, 46, 46])], .agg [.lit (.string [108, 101, 115, 115]), .lit (.string [114, 114, 114, 46, 46])], .agg [.lit (.string [115, 97, 109, 101]), .lit (.string [114, 114, 114, 46, 46])], .agg [.lit (.string [106, 117, 109, 112]), .lit (.string [46, 46, 46, 106, 46])], .agg [.lit (.string [117, 110, 108, 101, 115, 115]), .lit (.string [114, 46, 46, 106, 46])], .agg [.lit (.string [97, 99, 116]), .lit (.string [114, 114, 112, 46, 115])], .agg [.lit (.string [115, 108, 101, 101, 112]), .lit (.string [114, 114, 46, 46, 46])], .agg [.lit (.string [99, 104, 105, 108, 100]), .lit (.string [114, 114, 46, 46, 115])], .agg [.lit (.string [119, 97, 105, 116]), .lit (.string [114, 114, 114, 46, 46])], .agg [.lit (.string [115, 105, 103, 110, 97, 108]), .lit (.string [114, 46, 46, 46, 46])], .agg [.lit (.string [100, 111, 110, 101]), .lit (.string [114, 46, 46, 46, 46])], .agg [.lit (.string [102, 97, 105, 108]), .lit (.string [114, 46, 46, 46, 46])]]

/-- 'millwheellaw10.RunTells': WHATEVER THE INPUT: true; the input reads as it did. -/
def runTellsSpec : ChangeSpec := { name := "runTells", fn := fun _ => fun
  | [d1, d2] => { results := [.lit (.bool true)], args := [d1, d2] }
  | _ => none }
def runTellsRow : OpenClaim := { program := "ytlngeonfabahnaadoor", sum := "aade61acc1741b8cb050f0ae0af6e2afabcaa84d8cad7d48c6c2d09f7a4b1d08", func := "millwheel/millwheellaw10.RunTells", spec := "runTells", unfollowed := true, recurses := true, named := ["millwheel/program.kinds"], apart := false, laid := [("millwheel/program.kinds", laid_millwheel_program_kinds)] }
def RunTellsSaid : Prop := runTellsRow.holds Tryd.pinned (OpenSpec.ofChange runTellsSpec)

/-- ITS FALSE NEIGHBOUR: 'it returns false'. Refute it at one input. -/
def runTellsWrong : ChangeSpec := { name := "runTells", fn := fun _ => fun
  | [d1, d2] => { results := [.lit (.bool false)], args := [d1, d2] }
  | _ => none }
def RunTellsWrongFalsely : Prop := runTellsRow.holds Tryd.pinned (OpenSpec.ofChange runTellsWrong)

/-- 'millwheellaw10.RunGrows': WHATEVER THE INPUT: true; the input reads as it did. -/
def runGrowsSpec : ChangeSpec := { name := "runGrows", fn := fun _ => fun
  | [d1, d2, d3] => { results := [.lit (.bool true)], args := [d1, d2, d3] }
  | _ => none }
def runGrowsRow : OpenClaim := { program := "ytlngeonfabahnaadoor", sum := "aade61acc1741b8cb050f0ae0af6e2afabcaa84d8cad7d48c6c2d09f7a4b1d08", func := "millwheel/millwheellaw10.RunGrows", spec := "runGrows", unfollowed := true, recurses := true, named := ["millwheel/program.kinds"], apart := false, laid := [("millwheel/program.kinds", laid_millwheel_program_kinds)] }
def RunGrowsSaid : Prop := runGrowsRow.holds Tryd.pinned (OpenSpec.ofChange runGrowsSpec)

/-- ITS FALSE NEIGHBOUR: 'it returns false'. Refute it at one input. -/
def runGrowsWrong : ChangeSpec := { name := "runGrows", fn := fun _ => fun
  | [d1, d2, d3] => { results := [.lit (.bool false)], args := [d1, d2, d3] }
  | _ => none }
def RunGrowsWrongFalsely : Prop := runGrowsRow.holds Tryd.pinned (OpenSpec.ofChange runGrowsWrong)

/-- 'millwheellaw10.RunFuel': WHATEVER THE INPUT: true; the input reads as it did. -/
def runFuelSpec : ChangeSpec := { name := "runFuel", fn := fun _ => fun
  | [d1, d2, d3] => { results := [.lit (.bool true)], args := [d1, d2, d3] }
  | _ => none }
def runFuelRow : OpenClaim := { program := "ytlngeonfabahnaadoor", sum := "aade61acc1741b8cb050f0ae0af6e2afabcaa84d8cad7d48c6c2d09f7a4b1d08", func := "millwheel/millwheellaw10.RunFuel", spec := "runFuel", unfollowed := true, recurses := true, named := ["millwheel/program.kinds"], apart := false, laid := [("millwheel/program.kinds", laid_millwheel_program_kinds)] }
def RunFuelSaid : Prop := runFuelRow.holds Tryd.pinned (OpenSpec.ofChange runFuelSpec)

/-- ITS FALSE NEIGHBOUR: 'it returns false'. Refute it at one input. -/
def runFuelWrong : ChangeSpec := { name := "runFuel", fn := fun _ => fun
  | [d1, d2, d3] => { results := [.lit (.bool false)], args := [d1, d2, d3] }
  | _ => none }
def RunFuelWrongFalsely : Prop := runFuelRow.holds Tryd.pinned (OpenSpec.ofChange runFuelWrong)

/-- 'millwheellaw10.RunOrder': WHATEVER THE INPUT: true; the input reads as it did. -/
def runOrderSpec : ChangeSpec := { name := "runOrder", fn := fun _ => fun
  | [d1, d2, d3] => { results := [.lit (.bool true)], args := [d1, d2, d3] }
  | _ => none }
def runOrderRow : OpenClaim := { program := "ytlngeonfabahnaadoor", sum := "aade61acc1741b8cb050f0ae0af6e2afabcaa84d8cad7d48c6c2d09f7a4b1d08", func := "millwheel/millwheellaw10.RunOrder", spec := "runOrder", unfollowed := true, recurses := true, named := ["millwheel/program.kinds"], apart := false, laid := [("millwheel/program.kinds", laid_millwheel_program_kinds)] }
def RunOrderSaid : Prop := runOrderRow.holds Tryd.pinned (OpenSpec.ofChange runOrderSpec)

/-- ITS FALSE NEIGHBOUR: 'it returns false'. Refute it at one input. -/
def runOrderWrong : ChangeSpec := { name := "runOrder", fn := fun _ => fun
  | [d1, d2, d3] => { results := [.lit (.bool false)], args := [d1, d2, d3] }
  | _ => none }
def RunOrderWrongFalsely : Prop := runOrderRow.holds Tryd.pinned (OpenSpec.ofChange runOrderWrong)

/-- 'millwheellaw10.RunCounts': WHATEVER THE INPUT: true; the input reads as it did. -/
def runCountsSpec : ChangeSpec := { name := "runCounts", fn := fun _ => fun
  | [d1, d2] => { results := [.lit (.bool true)], args := [d1, d2] }
  | _ => none }
def runCountsRow : OpenClaim := { program := "ytlngeonfabahnaadoor", sum := "aade61acc1741b8cb050f0ae0af6e2afabcaa84d8cad7d48c6c2d09f7a4b1d08", func := "millwheel/millwheellaw10.RunCounts", spec := "runCounts", unfollowed := true, recurses := true, named := ["millwheel/program.kinds"], apart := false, laid := [("millwheel/program.kinds", laid_millwheel_program_kinds)] }
def RunCountsSaid : Prop := runCountsRow.holds Tryd.pinned (OpenSpec.ofChange runCountsSpec)

/-- ITS FALSE NEIGHBOUR: 'it returns false'. Refute it at one input. -/
def runCountsWrong : ChangeSpec := { name := "runCounts", fn := fun _ => fun
  | [d1, d2] => { results := [.lit (.bool false)], args := [d1, d2] }
  | _ => none }
def RunCountsWrongFalsely : Prop := runCountsRow.holds Tryd.pinned (OpenSpec.ofChange runCountsWrong)

/-- 'millwheellaw10.RunWaits': WHATEVER THE INPUT: true; the input reads as it did. -/
def runWaitsSpec : ChangeSpec := { name := "runWaits", fn := fun _ => fun
  | [d1, d2] => { results := [.lit (.bool true)], args := [d1, d2] }
  | _ => none }
def runWaitsRow : OpenClaim := { program := "ytlngeonfabahnaadoor", sum := "aade61acc1741b8cb050f0ae0af6e2afabcaa84d8cad7d48c6c2d09f7a4b1d08", func := "millwheel/millwheellaw10.RunWaits", spec := "runWaits", unfollowed := true, recurses := true, named := ["millwheel/program.kinds"], apart := false, laid := [("millwheel/program.kinds", laid_millwheel_program_kinds)] }
def RunWaitsSaid : Prop := runWaitsRow.holds Tryd.pinned (OpenSpec.ofChange runWaitsSpec)

/-- ITS FALSE NEIGHBOUR: 'it returns false'. Refute it at one input. -/
def runWaitsWrong : ChangeSpec := { name := "runWaits", fn := fun _ => fun
  | [d1, d2] => { results := [.lit (.bool false)], args := [d1, d2] }
  | _ => none }
def RunWaitsWrongFalsely : Prop := runWaitsRow.holds Tryd.pinned (OpenSpec.ofChange runWaitsWrong)

/-- 'millwheellaw10.RunSigns': WHATEVER THE INPUT: true; the input reads as it did. -/
def runSignsSpec : ChangeSpec := { name := "runSigns", fn := fun _ => fun
  | [d1, d2] => { results := [.lit (.bool true)], args := [d1, d2] }
  | _ => none }
def runSignsRow : OpenClaim := { program := "ytlngeonfabahnaadoor", sum := "aade61acc1741b8cb050f0ae0af6e2afabcaa84d8cad7d48c6c2d09f7a4b1d08", func := "millwheel/millwheellaw10.RunSigns", spec := "runSigns", unfollowed := true, recurses := true, named := ["millwheel/program.kinds"], apart := false, laid := [("millwheel/program.kinds", laid_millwheel_program_kinds)] }
def RunSignsSaid : Prop := runSignsRow.holds Tryd.pinned (OpenSpec.ofChange runSignsSpec)

/-- ITS FALSE NEIGHBOUR: 'it returns false'. Refute it at one input. -/
def runSignsWrong : ChangeSpec := { name := "runSigns", fn := fun _ => fun
  | [d1, d2] => { results := [.lit (.bool false)], args := [d1, d2] }
  | _ => none }
def RunSignsWrongFalsely : Prop := runSignsRow.holds Tryd.pinned (OpenSpec.ofChange runSignsWrong)

/- THE SECOND FORM. 'bulk': how many values and letters a reading holds, each counted each time it is reached (what is shared counts as often as it is met; a slice's spare places count too). A statement '..UptoSaid' is the law's where the arguments, and the package variables that the reading takes, are together of bulk at most 1048576: NARROWER than '..Said'. Prove '..Said' where nothing that the law and all that it calls make is longer than what came in: it says more and counts as full. Else prove '..UptoSaid'. A law counts once. -/
mutual
def uptoBulk {H : Type} : DataW H → Nat
  | .lit (.string bytes) => bytes.length + 1
  | .lit _ => 1
  | .nil => 1
  | .ptr d => uptoBulk d + 1
  | .slice elems spare => uptoBulkAll elems + uptoBulkAll spare + 1
  | .agg parts => uptoBulkAll parts + 1
  | .iface _ d => uptoBulk d + 1
  | .map entries => uptoBulkEntries entries + 1
  | .held _ => 1
def uptoBulkAll {H : Type} : List (DataW H) → Nat
  | [] => 0
  | d :: r => uptoBulk d + uptoBulkAll r
def uptoBulkEntries {H : Type} : List (Lit × DataW H) → Nat
  | [] => 0
  | x :: r => uptoBulkEntry x + uptoBulkEntries r
def uptoBulkEntry {H : Type} : Lit × DataW H → Nat
  | (.string bytes, d) => bytes.length + uptoBulk d + 1
  | (_, d) => uptoBulk d + 1
 end
def uptoSmall : (H : Type) → List (DataW H) → Bool := fun _ ds => decide (uptoBulkAll ds ≤ 1048576)
def OpenSpec.upto (s : _root_.Go.ChangeSpec) : _root_.Go.OpenSpec := { _root_.Go.OpenSpec.ofChange s with cond := some uptoSmall }

/-- 'millwheellaw10.RunTells', WHERE WHAT IT READS IS OF BULK AT MOST 1048576: true; the input reads as it did. -/
def runTellsUptoRow : OpenClaim := { program := "ytlngeonfabahnaadoor", sum := "aade61acc1741b8cb050f0ae0af6e2afabcaa84d8cad7d48c6c2d09f7a4b1d08", func := "millwheel/millwheellaw10.RunTells", spec := "runTells", unfollowed := true, recurses := true, named := ["millwheel/program.kinds"], apart := false, laid := [("millwheel/program.kinds", laid_millwheel_program_kinds)], narrowed := true }
def RunTellsUptoSaid : Prop := runTellsUptoRow.holds Tryd.pinned (OpenSpec.upto runTellsSpec)

/-- 'millwheellaw10.RunGrows', WHERE WHAT IT READS IS OF BULK AT MOST 1048576: true; the input reads as it did. -/
def runGrowsUptoRow : OpenClaim := { program := "ytlngeonfabahnaadoor", sum := "aade61acc1741b8cb050f0ae0af6e2afabcaa84d8cad7d48c6c2d09f7a4b1d08", func := "millwheel/millwheellaw10.RunGrows", spec := "runGrows", unfollowed := true, recurses := true, named := ["millwheel/program.kinds"], apart := false, laid := [("millwheel/program.kinds", laid_millwheel_program_kinds)], narrowed := true }
def RunGrowsUptoSaid : Prop := runGrowsUptoRow.holds Tryd.pinned (OpenSpec.upto runGrowsSpec)

/-- 'millwheellaw10.RunFuel', WHERE WHAT IT READS IS OF BULK AT MOST 1048576: true; the input reads as it did. -/
def runFuelUptoRow : OpenClaim := { program := "ytlngeonfabahnaadoor", sum := "aade61acc1741b8cb050f0ae0af6e2afabcaa84d8cad7d48c6c2d09f7a4b1d08", func := "millwheel/millwheellaw10.RunFuel", spec := "runFuel", unfollowed := true, recurses := true, named := ["millwheel/program.kinds"], apart := false, laid := [("millwheel/program.kinds", laid_millwheel_program_kinds)], narrowed := true }
def RunFuelUptoSaid : Prop := runFuelUptoRow.holds Tryd.pinned (OpenSpec.upto runFuelSpec)

/-- 'millwheellaw10.RunOrder', WHERE WHAT IT READS IS OF BULK AT MOST 1048576: true; the input reads as it did. -/
def runOrderUptoRow : OpenClaim := { program := "ytlngeonfabahnaadoor", sum := "aade61acc1741b8cb050f0ae0af6e2afabcaa84d8cad7d48c6c2d09f7a4b1d08", func := "millwheel/millwheellaw10.RunOrder", spec := "runOrder", unfollowed := true, recurses := true, named := ["millwheel/program.kinds"], apart := false, laid := [("millwheel/program.kinds", laid_millwheel_program_kinds)], narrowed := true }
def RunOrderUptoSaid : Prop := runOrderUptoRow.holds Tryd.pinned (OpenSpec.upto runOrderSpec)

/-- 'millwheellaw10.RunCounts', WHERE WHAT IT READS IS OF BULK AT MOST 1048576: true; the input reads as it did. -/
def runCountsUptoRow : OpenClaim := { program := "ytlngeonfabahnaadoor", sum := "aade61acc1741b8cb050f0ae0af6e2afabcaa84d8cad7d48c6c2d09f7a4b1d08", func := "millwheel/millwheellaw10.RunCounts", spec := "runCounts", unfollowed := true, recurses := true, named := ["millwheel/program.kinds"], apart := false, laid := [("millwheel/program.kinds", laid_millwheel_program_kinds)], narrowed := true }
def RunCountsUptoSaid : Prop := runCountsUptoRow.holds Tryd.pinned (OpenSpec.upto runCountsSpec)

/-- 'millwheellaw10.RunWaits', WHERE WHAT IT READS IS OF BULK AT MOST 1048576: true; the input reads as it did. -/
def runWaitsUptoRow : OpenClaim := { program := "ytlngeonfabahnaadoor", sum := "aade61acc1741b8cb050f0ae0af6e2afabcaa84d8cad7d48c6c2d09f7a4b1d08", func := "millwheel/millwheellaw10.RunWaits", spec := "runWaits", unfollowed := true, recurses := true, named := ["millwheel/program.kinds"], apart := false, laid := [("millwheel/program.kinds", laid_millwheel_program_kinds)], narrowed := true }
def RunWaitsUptoSaid : Prop := runWaitsUptoRow.holds Tryd.pinned (OpenSpec.upto runWaitsSpec)

/-- 'millwheellaw10.RunSigns', WHERE WHAT IT READS IS OF BULK AT MOST 1048576: true; the input reads as it did. -/
def runSignsUptoRow : OpenClaim := { program := "ytlngeonfabahnaadoor", sum := "aade61acc1741b8cb050f0ae0af6e2afabcaa84d8cad7d48c6c2d09f7a4b1d08", func := "millwheel/millwheellaw10.RunSigns", spec := "runSigns", unfollowed := true, recurses := true, named := ["millwheel/program.kinds"], apart := false, laid := [("millwheel/program.kinds", laid_millwheel_program_kinds)], narrowed := true }
def RunSignsUptoSaid : Prop := runSignsUptoRow.holds Tryd.pinned (OpenSpec.upto runSignsSpec)

end Rows
end Go.Proofs.YtlngeonfabahnaaDoor
