/-
  The contract of an instruction, Op by Op (what it leans on). Own work.
-/
import Derived.Test.YtlngeonfabahnaaDoorQc
import Derived.Test.YtlngeonfabahnaaDoorQe
import Derived.Test.YtlngeonfabahnaaDoorQf
namespace Go.Proofs.YtlngeonfabahnaaDoor
open Go Go.RowKit
set_option linter.unusedSimpArgs false
set_option linter.unusedVariables false

/-- what a run leans on -/
structure Ev (W : World) (b mb : Nat) (sv : Value) (kn : Int → Option Oc) (sg : List Int) : Prop where
  rd : RdN W sv sg
  kn : Knows W mb kn
  bw : b = W.heap.size
  mb : mb < b
  few : sg.length ≤ 10000000
/-- a place of a program -/
def Plc (p : Int) : Prop := 0 ≤ p ∧ p < 1000

end Go.Proofs.YtlngeonfabahnaaDoor
