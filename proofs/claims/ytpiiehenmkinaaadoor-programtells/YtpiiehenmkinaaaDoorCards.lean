/-
  DERIVED. GIVEN WITH THE SEED: THE CARDS: each row of YtpiiehenmkinaaaDoorRows.lean that lists a variable, with what it lists TIED to the program's text (the seventh form; the later family's looks); each row that meets fmt, with fmt's text TOLD by the authors' own Lean function (tested against real Go, not proved from fmt's source: count such statements apart). THE CARD IS WHAT COUNTS. Prove the row's statement (the work); the ties are given (YtpiiehenmkinaaaDoorTie.lean); close each card by the builder's one call (the guide's Derived/Test/ToyasCard.lean, 'card_holds'). Laid BY PROGRAM, IN A SANDBOX (cutbox-door.mjs). By AI agents, Wed Nov 11 2026. No macro, syntax, notation, axiom, sorry.
-/
import Derived.Test.YtpiiehenmkinaaaDoorRows
import GoSem.ClaimSeven
namespace Go.Proofs.YtpiiehenmkinaaaDoor
namespace Rows

/-- THE TIED CARD OF 'millwheellaw09.ProgramTells'. -/
def programTellsCard : Claim7 := { stood := { row := programTellsRow, standIns := [], harness := (true, "08aba2390acb04a486329319a30afe0c25e26124c87cdb1b3fcf496586a75c3b"), looks := false }, kinds := [], alts := [], laidByText := true, laidKinds := [.data, .data, .data, .data], laidTests := true, laidLooks := .later }
def ProgramTellsCardSaid : Prop := Claim7.holds Tryd.pinned (.plain (OpenSpec.ofChange programTellsSpec)) programTellsCard

/-- THE TIED CARD OF 'millwheellaw09.ProgramBack'. -/
def programBackCard : Claim7 := { stood := { row := programBackRow, standIns := [], harness := (true, "08aba2390acb04a486329319a30afe0c25e26124c87cdb1b3fcf496586a75c3b"), looks := false }, kinds := [], alts := [], laidByText := true, laidKinds := [.data, .data, .data, .data], laidTests := true, laidLooks := .later }
def ProgramBackCardSaid : Prop := Claim7.holds Tryd.pinned (.plain (OpenSpec.ofChange programBackSpec)) programBackCard

/-- THE TIED CARD OF 'millwheellaw09.ProgramEnds'. -/
def programEndsCard : Claim7 := { stood := { row := programEndsRow, standIns := [], harness := (true, "08aba2390acb04a486329319a30afe0c25e26124c87cdb1b3fcf496586a75c3b"), looks := false }, kinds := [], alts := [], laidByText := true, laidKinds := [.data, .data, .data, .data], laidTests := true, laidLooks := .later }
def ProgramEndsCardSaid : Prop := Claim7.holds Tryd.pinned (.plain (OpenSpec.ofChange programEndsSpec)) programEndsCard

/-- THE TIED CARD OF 'millwheellaw09.ProgramPolicies'. -/
def programPoliciesCard : Claim7 := { stood := { row := programPoliciesRow, standIns := [], harness := (true, "08aba2390acb04a486329319a30afe0c25e26124c87cdb1b3fcf496586a75c3b"), looks := false }, kinds := [], alts := [], laidByText := true, laidKinds := [.data, .data, .data, .data], laidTests := true, laidLooks := .later }
def ProgramPoliciesCardSaid : Prop := Claim7.holds Tryd.pinned (.plain (OpenSpec.ofChange programPoliciesSpec)) programPoliciesCard

/-- THE TIED CARD OF 'millwheellaw09.ProgramCuts'. -/
def programCutsCard : Claim7 := { stood := { row := programCutsRow, standIns := [], harness := (true, "08aba2390acb04a486329319a30afe0c25e26124c87cdb1b3fcf496586a75c3b"), looks := false }, kinds := [], alts := [], laidByText := true, laidKinds := [.data, .data, .data, .data], laidTests := true, laidLooks := .later }
def ProgramCutsCardSaid : Prop := Claim7.holds Tryd.pinned (.plain (OpenSpec.ofChange programCutsSpec)) programCutsCard

/-- THE SECOND FORM's CARD OF 'millwheellaw09.ProgramTells'. -/
def programTellsUptoCard : Claim7 := { stood := { row := programTellsUptoRow, standIns := [], harness := (true, "08aba2390acb04a486329319a30afe0c25e26124c87cdb1b3fcf496586a75c3b"), looks := false }, kinds := [], alts := [], laidByText := true, laidKinds := [.data, .data, .data, .data], laidTests := true, laidLooks := .later }
def ProgramTellsUptoCardSaid : Prop := Claim7.holds Tryd.pinned (.plain (OpenSpec.upto programTellsSpec)) programTellsUptoCard

/-- THE SECOND FORM's CARD OF 'millwheellaw09.ProgramBack'. -/
def programBackUptoCard : Claim7 := { stood := { row := programBackUptoRow, standIns := [], harness := (true, "08aba2390acb04a486329319a30afe0c25e26124c87cdb1b3fcf496586a75c3b"), looks := false }, kinds := [], alts := [], laidByText := true, laidKinds := [.data, .data, .data, .data], laidTests := true, laidLooks := .later }
def ProgramBackUptoCardSaid : Prop := Claim7.holds Tryd.pinned (.plain (OpenSpec.upto programBackSpec)) programBackUptoCard

/-- THE SECOND FORM's CARD OF 'millwheellaw09.ProgramEnds'. -/
def programEndsUptoCard : Claim7 := { stood := { row := programEndsUptoRow, standIns := [], harness := (true, "08aba2390acb04a486329319a30afe0c25e26124c87cdb1b3fcf496586a75c3b"), looks := false }, kinds := [], alts := [], laidByText := true, laidKinds := [.data, .data, .data, .data], laidTests := true, laidLooks := .later }
def ProgramEndsUptoCardSaid : Prop := Claim7.holds Tryd.pinned (.plain (OpenSpec.upto programEndsSpec)) programEndsUptoCard

/-- THE SECOND FORM's CARD OF 'millwheellaw09.ProgramPolicies'. -/
def programPoliciesUptoCard : Claim7 := { stood := { row := programPoliciesUptoRow, standIns := [], harness := (true, "08aba2390acb04a486329319a30afe0c25e26124c87cdb1b3fcf496586a75c3b"), looks := false }, kinds := [], alts := [], laidByText := true, laidKinds := [.data, .data, .data, .data], laidTests := true, laidLooks := .later }
def ProgramPoliciesUptoCardSaid : Prop := Claim7.holds Tryd.pinned (.plain (OpenSpec.upto programPoliciesSpec)) programPoliciesUptoCard

/-- THE SECOND FORM's CARD OF 'millwheellaw09.ProgramCuts'. -/
def programCutsUptoCard : Claim7 := { stood := { row := programCutsUptoRow, standIns := [], harness := (true, "08aba2390acb04a486329319a30afe0c25e26124c87cdb1b3fcf496586a75c3b"), looks := false }, kinds := [], alts := [], laidByText := true, laidKinds := [.data, .data, .data, .data], laidTests := true, laidLooks := .later }
def ProgramCutsUptoCardSaid : Prop := Claim7.holds Tryd.pinned (.plain (OpenSpec.upto programCutsSpec)) programCutsUptoCard
end Rows
end Go.Proofs.YtpiiehenmkinaaaDoor
