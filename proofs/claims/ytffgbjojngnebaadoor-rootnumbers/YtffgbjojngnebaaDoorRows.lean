/-
  NARROWER THAN 'FOR EVERY INPUT', by the rows' own cells (each row's printed sentence says how): RootNumbers: laid · RootTells: laid · RootNone: laid · RootSwitch: laid · RootTurns: laid · RootSpoilt: laid · RootBack: laid.
  DERIVED. THE GIVEN ROWS OF THIS SEAT. 7 by the template 'for every input the law returns true; each argument reads behind the call as it read before'; 0 by the template 'total and deterministic' (their statements: YtffgbjojngnebaaDoorTotals.lean).
  GIVEN WITH THE SEED: the statements are not yours to turn. If you find one false, say at which input.
  Laid BY PROGRAM, IN A SANDBOX (cutbox-rows.mjs): the forced cells as the released guide's own fill.sh prints them over the translation 7e20fb4aa300b383… (all of the seat's roots in one cut). By AI agents, Wed Nov 11 2026. No macro, syntax, notation, axiom, sorry.
-/
import Derived.Test.YtffgbjojngnebaaDoorChecked
import GoSem.Claim
import GoSem.ClaimJoined
import GoSem.ClaimMapViews
import Derived.JoinedTies
import Derived.KernelRfl
namespace Go.Proofs.YtffgbjojngnebaaDoor
/- THE CELL 'sum', in the pinned program and in every row, IS THE sha256 OF THE DUMP (.gsa) THAT YtffgbjojngnebaaDoorProg.lean LOADS. Nothing in Lean hashes anything: it is a label: what it is worth is what the hold of that sum in a sandbox is worth. -/
noncomputable def Tryd.pinned : Pinned := { name := "ytffgbjojngnebaadoor", sum := "7e20fb4aa300b38349c33d15325a60d1a1d2783dac2944f9c868cf4b4e7934be", checked := Tryd.checked }
namespace Rows
def none {H : Type} : Left H := { results := [], args := [] }

/- WHAT THE LISTED PACKAGE-LEVEL VARIABLES READ AS WHEN THE CALL BEGINS. Each datum BY PROGRAM (the guide's laid-datum.mjs) off the statement by which the dump's own 'gosem.cut.vars' lays the variable. In a bare row this is a premise. The card (YtffgbjojngnebaaDoorCards.lean) ties it to the program's text. -/
def laid_millwheel_root_names {H : Type} : DataW H := .agg [.lit (.string [114, 111, 111, 116, 48]), .lit (.string [114, 111, 111, 116, 49])]

/-- 'millwheellaw06.RootNumbers': WHATEVER THE INPUT: true; the input reads as it did. -/
def rootNumbersSpec : ChangeSpec := { name := "rootNumbers", fn := fun _ => fun
  | [] => { results := [.lit (.bool true)], args := [] }
  | _ => none }
def rootNumbersRow : OpenClaim := { program := "ytffgbjojngnebaadoor", sum := "7e20fb4aa300b38349c33d15325a60d1a1d2783dac2944f9c868cf4b4e7934be", func := "millwheel/millwheellaw06.RootNumbers", spec := "rootNumbers", inPlace := ["internal/bytealg.abigen_runtime_cmpstring", "slices.overlaps[millwheel/disk.file]"], unfollowed := true, recurses := true, named := ["millwheel/root.names"], apart := false, laid := [("millwheel/root.names", laid_millwheel_root_names)] }
def RootNumbersSaid : Prop := rootNumbersRow.holds Tryd.pinned (OpenSpec.ofChange rootNumbersSpec)

/-- ITS FALSE NEIGHBOUR: 'it returns false'. Refute it at one input. -/
def rootNumbersWrong : ChangeSpec := { name := "rootNumbers", fn := fun _ => fun
  | [] => { results := [.lit (.bool false)], args := [] }
  | _ => none }
def RootNumbersWrongFalsely : Prop := rootNumbersRow.holds Tryd.pinned (OpenSpec.ofChange rootNumbersWrong)

/-- 'millwheellaw06.RootTells': WHATEVER THE INPUT: true; the input reads as it did. -/
def rootTellsSpec : ChangeSpec := { name := "rootTells", fn := fun _ => fun
  | [d1, d2] => { results := [.lit (.bool true)], args := [d1, d2] }
  | _ => none }
def rootTellsRow : OpenClaim := { program := "ytffgbjojngnebaadoor", sum := "7e20fb4aa300b38349c33d15325a60d1a1d2783dac2944f9c868cf4b4e7934be", func := "millwheel/millwheellaw06.RootTells", spec := "rootTells", inPlace := ["internal/bytealg.abigen_runtime_cmpstring", "slices.overlaps[millwheel/disk.file]"], unfollowed := true, recurses := true, named := ["millwheel/root.names"], apart := false, laid := [("millwheel/root.names", laid_millwheel_root_names)] }
def RootTellsSaid : Prop := rootTellsRow.holds Tryd.pinned (OpenSpec.ofChange rootTellsSpec)

/-- ITS FALSE NEIGHBOUR: 'it returns false'. Refute it at one input. -/
def rootTellsWrong : ChangeSpec := { name := "rootTells", fn := fun _ => fun
  | [d1, d2] => { results := [.lit (.bool false)], args := [d1, d2] }
  | _ => none }
def RootTellsWrongFalsely : Prop := rootTellsRow.holds Tryd.pinned (OpenSpec.ofChange rootTellsWrong)

/-- 'millwheellaw06.RootNone': WHATEVER THE INPUT: true; the input reads as it did. -/
def rootNoneSpec : ChangeSpec := { name := "rootNone", fn := fun _ => fun
  | [d] => { results := [.lit (.bool true)], args := [d] }
  | _ => none }
def rootNoneRow : OpenClaim := { program := "ytffgbjojngnebaadoor", sum := "7e20fb4aa300b38349c33d15325a60d1a1d2783dac2944f9c868cf4b4e7934be", func := "millwheel/millwheellaw06.RootNone", spec := "rootNone", inPlace := ["slices.overlaps[millwheel/disk.file]", "internal/bytealg.abigen_runtime_cmpstring"], unfollowed := true, recurses := true, named := ["millwheel/root.names"], apart := false, laid := [("millwheel/root.names", laid_millwheel_root_names)] }
def RootNoneSaid : Prop := rootNoneRow.holds Tryd.pinned (OpenSpec.ofChange rootNoneSpec)

/-- ITS FALSE NEIGHBOUR: 'it returns false'. Refute it at one input. -/
def rootNoneWrong : ChangeSpec := { name := "rootNone", fn := fun _ => fun
  | [d] => { results := [.lit (.bool false)], args := [d] }
  | _ => none }
def RootNoneWrongFalsely : Prop := rootNoneRow.holds Tryd.pinned (OpenSpec.ofChange rootNoneWrong)

/-- 'millwheellaw06.RootSwitch': WHATEVER THE INPUT: true; the input reads as it did. -/
def rootSwitchSpec : ChangeSpec := { name := "rootSwitch", fn := fun _ => fun
  | [d] => { results := [.lit (.bool true)], args := [d] }
  | _ => none }
def rootSwitchRow : OpenClaim := { program := "ytffgbjojngnebaadoor", sum := "7e20fb4aa300b38349c33d15325a60d1a1d2783dac2944f9c868cf4b4e7934be", func := "millwheel/millwheellaw06.RootSwitch", spec := "rootSwitch", inPlace := ["internal/bytealg.abigen_runtime_cmpstring", "slices.overlaps[millwheel/disk.file]"], unfollowed := true, recurses := true, named := ["millwheel/root.names"], apart := false, laid := [("millwheel/root.names", laid_millwheel_root_names)] }
def RootSwitchSaid : Prop := rootSwitchRow.holds Tryd.pinned (OpenSpec.ofChange rootSwitchSpec)

/-- ITS FALSE NEIGHBOUR: 'it returns false'. Refute it at one input. -/
def rootSwitchWrong : ChangeSpec := { name := "rootSwitch", fn := fun _ => fun
  | [d] => { results := [.lit (.bool false)], args := [d] }
  | _ => none }
def RootSwitchWrongFalsely : Prop := rootSwitchRow.holds Tryd.pinned (OpenSpec.ofChange rootSwitchWrong)

/-- 'millwheellaw06.RootTurns': WHATEVER THE INPUT: true; the input reads as it did. -/
def rootTurnsSpec : ChangeSpec := { name := "rootTurns", fn := fun _ => fun
  | [d] => { results := [.lit (.bool true)], args := [d] }
  | _ => none }
def rootTurnsRow : OpenClaim := { program := "ytffgbjojngnebaadoor", sum := "7e20fb4aa300b38349c33d15325a60d1a1d2783dac2944f9c868cf4b4e7934be", func := "millwheel/millwheellaw06.RootTurns", spec := "rootTurns", inPlace := ["internal/bytealg.abigen_runtime_cmpstring", "slices.overlaps[millwheel/disk.file]"], unfollowed := true, recurses := true, named := ["millwheel/root.names"], apart := false, laid := [("millwheel/root.names", laid_millwheel_root_names)] }
def RootTurnsSaid : Prop := rootTurnsRow.holds Tryd.pinned (OpenSpec.ofChange rootTurnsSpec)

/-- ITS FALSE NEIGHBOUR: 'it returns false'. Refute it at one input. -/
def rootTurnsWrong : ChangeSpec := { name := "rootTurns", fn := fun _ => fun
  | [d] => { results := [.lit (.bool false)], args := [d] }
  | _ => none }
def RootTurnsWrongFalsely : Prop := rootTurnsRow.holds Tryd.pinned (OpenSpec.ofChange rootTurnsWrong)

/-- 'millwheellaw06.RootSpoilt': WHATEVER THE INPUT: true; the input reads as it did. -/
def rootSpoiltSpec : ChangeSpec := { name := "rootSpoilt", fn := fun _ => fun
  | [d1, d2, d3, d4, d5] => { results := [.lit (.bool true)], args := [d1, d2, d3, d4, d5] }
  | _ => none }
def rootSpoiltRow : OpenClaim := { program := "ytffgbjojngnebaadoor", sum := "7e20fb4aa300b38349c33d15325a60d1a1d2783dac2944f9c868cf4b4e7934be", func := "millwheel/millwheellaw06.RootSpoilt", spec := "rootSpoilt", inPlace := ["internal/bytealg.abigen_runtime_cmpstring", "slices.overlaps[millwheel/disk.file]"], unfollowed := true, recurses := true, named := ["millwheel/root.names"], apart := false, laid := [("millwheel/root.names", laid_millwheel_root_names)] }
def RootSpoiltSaid : Prop := rootSpoiltRow.holds Tryd.pinned (OpenSpec.ofChange rootSpoiltSpec)

/-- ITS FALSE NEIGHBOUR: 'it returns false'. Refute it at one input. -/
def rootSpoiltWrong : ChangeSpec := { name := "rootSpoilt", fn := fun _ => fun
  | [d1, d2, d3, d4, d5] => { results := [.lit (.bool false)], args := [d1, d2, d3, d4, d5] }
  | _ => none }
def RootSpoiltWrongFalsely : Prop := rootSpoiltRow.holds Tryd.pinned (OpenSpec.ofChange rootSpoiltWrong)

/-- 'millwheellaw06.RootBack': WHATEVER THE INPUT: true; the input reads as it did. -/
def rootBackSpec : ChangeSpec := { name := "rootBack", fn := fun _ => fun
  | [d1, d2, d3] => { results := [.lit (.bool true)], args := [d1, d2, d3] }
  | _ => none }
def rootBackRow : OpenClaim := { program := "ytffgbjojngnebaadoor", sum := "7e20fb4aa300b38349c33d15325a60d1a1d2783dac2944f9c868cf4b4e7934be", func := "millwheel/millwheellaw06.RootBack", spec := "rootBack", inPlace := ["internal/bytealg.abigen_runtime_cmpstring", "slices.overlaps[millwheel/disk.file]"], unfollowed := true, recurses := true, named := ["millwheel/root.names"], apart := false, laid := [("millwheel/root.names", laid_millwheel_root_names)] }
def RootBackSaid : Prop := rootBackRow.holds Tryd.pinned (OpenSpec.ofChange rootBackSpec)

/-- ITS FALSE NEIGHBOUR: 'it returns false'. Refute it at one input. -/
def rootBackWrong : ChangeSpec := { name := "rootBack", fn := fun _ => fun
  | [d1, d2, d3] => { results := [.lit (.bool false)], args := [d1, d2, d3] }
  | _ => none }
def RootBackWrongFalsely : Prop := rootBackRow.holds Tryd.pinned (OpenSpec.ofChange rootBackWrong)

/- THE SECOND FORM. 'bulk': how many values and letters a reading holds, each counted each time it is reached (what is shared counts as often as it is met; a slice's spare places count too). A statement '..UptoSaid' is the law's where the arguments, and the package variables that the reading takes, are together of bulk at most 1048576: NARROWER than '..Said'. Prove '..Said' where nothing that the law and all that it calls make is longer than what came in: it says more and counts as full. Else prove '..UptoSaid'. A law counts once. -/
mutual
def uptoBulk {H : Type} : DataW H → Nat
  | .lit (.string bytes) => bytes.length + 1
  | .lit _ => 1
  | .nil => 1
  | .ptr d => uptoBulk d + 1
  | .slice elems spare => uptoBulkAll elems + uptoBulkAll spare + 1
  | .agg parts => uptoBulkAll parts + 1
  | .iface _ d => uptoBulk d + 1
  | .map entries => uptoBulkEntries entries + 1
  | .held _ => 1
def uptoBulkAll {H : Type} : List (DataW H) → Nat
  | [] => 0
  | d :: r => uptoBulk d + uptoBulkAll r
def uptoBulkEntries {H : Type} : List (Lit × DataW H) → Nat
  | [] => 0
  | x :: r => uptoBulkEntry x + uptoBulkEntries r
def uptoBulkEntry {H : Type} : Lit × DataW H → Nat
  | (.string bytes, d) => bytes.length + uptoBulk d + 1
  | (_, d) => uptoBulk d + 1
 end
def uptoSmall : (H : Type) → List (DataW H) → Bool := fun _ ds => decide (uptoBulkAll ds ≤ 1048576)
def OpenSpec.upto (s : _root_.Go.ChangeSpec) : _root_.Go.OpenSpec := { _root_.Go.OpenSpec.ofChange s with cond := some uptoSmall }

/-- 'millwheellaw06.RootNumbers', WHERE WHAT IT READS IS OF BULK AT MOST 1048576: true; the input reads as it did. -/
def rootNumbersUptoRow : OpenClaim := { program := "ytffgbjojngnebaadoor", sum := "7e20fb4aa300b38349c33d15325a60d1a1d2783dac2944f9c868cf4b4e7934be", func := "millwheel/millwheellaw06.RootNumbers", spec := "rootNumbers", inPlace := ["internal/bytealg.abigen_runtime_cmpstring", "slices.overlaps[millwheel/disk.file]"], unfollowed := true, recurses := true, named := ["millwheel/root.names"], apart := false, laid := [("millwheel/root.names", laid_millwheel_root_names)], narrowed := true }
def RootNumbersUptoSaid : Prop := rootNumbersUptoRow.holds Tryd.pinned (OpenSpec.upto rootNumbersSpec)

/-- 'millwheellaw06.RootTells', WHERE WHAT IT READS IS OF BULK AT MOST 1048576: true; the input reads as it did. -/
def rootTellsUptoRow : OpenClaim := { program := "ytffgbjojngnebaadoor", sum := "7e20fb4aa300b38349c33d15325a60d1a1d2783dac2944f9c868cf4b4e7934be", func := "millwheel/millwheellaw06.RootTells", spec := "rootTells", inPlace := ["internal/bytealg.abigen_runtime_cmpstring", "slices.overlaps[millwheel/disk.file]"], unfollowed := true, recurses := true, named := ["millwheel/root.names"], apart := false, laid := [("millwheel/root.names", laid_millwheel_root_names)], narrowed := true }
def RootTellsUptoSaid : Prop := rootTellsUptoRow.holds Tryd.pinned (OpenSpec.upto rootTellsSpec)

/-- 'millwheellaw06.RootNone', WHERE WHAT IT READS IS OF BULK AT MOST 1048576: true; the input reads as it did. -/
def rootNoneUptoRow : OpenClaim := { program := "ytffgbjojngnebaadoor", sum := "7e20fb4aa300b38349c33d15325a60d1a1d2783dac2944f9c868cf4b4e7934be", func := "millwheel/millwheellaw06.RootNone", spec := "rootNone", inPlace := ["slices.overlaps[millwheel/disk.file]", "internal/bytealg.abigen_runtime_cmpstring"], unfollowed := true, recurses := true, named := ["millwheel/root.names"], apart := false, laid := [("millwheel/root.names", laid_millwheel_root_names)], narrowed := true }
def RootNoneUptoSaid : Prop := rootNoneUptoRow.holds Tryd.pinned (OpenSpec.upto rootNoneSpec)

/-- 'millwheellaw06.RootSwitch', WHERE WHAT IT READS IS OF BULK AT MOST 1048576: true; the input reads as it did. -/
def rootSwitchUptoRow : OpenClaim := { program := "ytffgbjojngnebaadoor", sum := "7e20fb4aa300b38349c33d15325a60d1a1d2783dac2944f9c868cf4b4e7934be", func := "millwheel/millwheellaw06.RootSwitch", spec := "rootSwitch", inPlace := ["internal/bytealg.abigen_runtime_cmpstring", "slices.overlaps[millwheel/disk.file]"], unfollowed := true, recurses := true, named := ["millwheel/root.names"], apart := false, laid := [("millwheel/root.names", laid_millwheel_root_names)], narrowed := true }
def RootSwitchUptoSaid : Prop := rootSwitchUptoRow.holds Tryd.pinned (OpenSpec.upto rootSwitchSpec)

/-- 'millwheellaw06.RootTurns', WHERE WHAT IT READS IS OF BULK AT MOST 1048576: true; the input reads as it did. -/
def rootTurnsUptoRow : OpenClaim := { program := "ytffgbjojngnebaadoor", sum := "7e20fb4aa300b38349c33d15325a60d1a1d2783dac2944f9c868cf4b4e7934be", func := "millwheel/millwheellaw06.RootTurns", spec := "rootTurns", inPlace := ["internal/bytealg.abigen_runtime_cmpstring", "slices.overlaps[millwheel/disk.file]"], unfollowed := true, recurses := true, named := ["millwheel/root.names"], apart := false, laid := [("millwheel/root.names", laid_millwheel_root_names)], narrowed := true }
def RootTurnsUptoSaid : Prop := rootTurnsUptoRow.holds Tryd.pinned (OpenSpec.upto rootTurnsSpec)

/-- 'millwheellaw06.RootSpoilt', WHERE WHAT IT READS IS OF BULK AT MOST 1048576: true; the input reads as it did. -/
def rootSpoiltUptoRow : OpenClaim := { program := "ytffgbjojngnebaadoor", sum := "7e20fb4aa300b38349c33d15325a60d1a1d2783dac2944f9c868cf4b4e7934be", func := "millwheel/millwheellaw06.RootSpoilt", spec := "rootSpoilt", inPlace := ["internal/bytealg.abigen_runtime_cmpstring", "slices.overlaps[millwheel/disk.file]"], unfollowed := true, recurses := true, named := ["millwheel/root.names"], apart := false, laid := [("millwheel/root.names", laid_millwheel_root_names)], narrowed := true }
def RootSpoiltUptoSaid : Prop := rootSpoiltUptoRow.holds Tryd.pinned (OpenSpec.upto rootSpoiltSpec)

/-- 'millwheellaw06.RootBack', WHERE WHAT IT READS IS OF BULK AT MOST 1048576: true; the input reads as it did. -/
def rootBackUptoRow : OpenClaim := { program := "ytffgbjojngnebaadoor", sum := "7e20fb4aa300b38349c33d15325a60d1a1d2783dac2944f9c868cf4b4e7934be", func := "millwheel/millwheellaw06.RootBack", spec := "rootBack", inPlace := ["internal/bytealg.abigen_runtime_cmpstring", "slices.overlaps[millwheel/disk.file]"], unfollowed := true, recurses := true, named := ["millwheel/root.names"], apart := false, laid := [("millwheel/root.names", laid_millwheel_root_names)], narrowed := true }
def RootBackUptoSaid : Prop := rootBackUptoRow.holds Tryd.pinned (OpenSpec.upto rootBackSpec)

end Rows
end Go.Proofs.YtffgbjojngnebaaDoor
