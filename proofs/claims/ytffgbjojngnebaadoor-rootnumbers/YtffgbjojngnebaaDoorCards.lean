/-
  DERIVED. GIVEN WITH THE SEED: THE CARDS: each row of YtffgbjojngnebaaDoorRows.lean that lists a variable, with what it lists TIED to the program's text (the seventh form; the later family's looks); each row that meets fmt, with fmt's text TOLD by the authors' own Lean function (tested against real Go, not proved from fmt's source: count such statements apart). THE CARD IS WHAT COUNTS. Prove the row's statement (the work); the ties are given (YtffgbjojngnebaaDoorTie.lean); close each card by the builder's one call (the guide's Derived/Test/ToyasCard.lean, 'card_holds'). Laid BY PROGRAM, IN A SANDBOX (cutbox-door.mjs). By AI agents, Wed Nov 11 2026. No macro, syntax, notation, axiom, sorry.
-/
import Derived.Test.YtffgbjojngnebaaDoorRows
import GoSem.ClaimSeven
namespace Go.Proofs.YtffgbjojngnebaaDoor
namespace Rows

/-- THE TIED CARD OF 'millwheellaw06.RootNumbers'. -/
def rootNumbersCard : Claim7 := { stood := { row := rootNumbersRow, standIns := [], harness := (true, "108df49522fa33ee1111360cf11f1a525627dd586139ec17100148d800bc6f10"), looks := false }, kinds := [], alts := [], laidByText := true, laidKinds := [.data], laidTests := true, laidLooks := .later }
def RootNumbersCardSaid : Prop := Claim7.holds Tryd.pinned (.plain (OpenSpec.ofChange rootNumbersSpec)) rootNumbersCard

/-- THE TIED CARD OF 'millwheellaw06.RootTells'. -/
def rootTellsCard : Claim7 := { stood := { row := rootTellsRow, standIns := [], harness := (true, "108df49522fa33ee1111360cf11f1a525627dd586139ec17100148d800bc6f10"), looks := false }, kinds := [], alts := [], laidByText := true, laidKinds := [.data], laidTests := true, laidLooks := .later }
def RootTellsCardSaid : Prop := Claim7.holds Tryd.pinned (.plain (OpenSpec.ofChange rootTellsSpec)) rootTellsCard

/-- THE TIED CARD OF 'millwheellaw06.RootNone'. -/
def rootNoneCard : Claim7 := { stood := { row := rootNoneRow, standIns := [], harness := (true, "108df49522fa33ee1111360cf11f1a525627dd586139ec17100148d800bc6f10"), looks := false }, kinds := [], alts := [], laidByText := true, laidKinds := [.data], laidTests := true, laidLooks := .later }
def RootNoneCardSaid : Prop := Claim7.holds Tryd.pinned (.plain (OpenSpec.ofChange rootNoneSpec)) rootNoneCard

/-- THE TIED CARD OF 'millwheellaw06.RootSwitch'. -/
def rootSwitchCard : Claim7 := { stood := { row := rootSwitchRow, standIns := [], harness := (true, "108df49522fa33ee1111360cf11f1a525627dd586139ec17100148d800bc6f10"), looks := false }, kinds := [], alts := [], laidByText := true, laidKinds := [.data], laidTests := true, laidLooks := .later }
def RootSwitchCardSaid : Prop := Claim7.holds Tryd.pinned (.plain (OpenSpec.ofChange rootSwitchSpec)) rootSwitchCard

/-- THE TIED CARD OF 'millwheellaw06.RootTurns'. -/
def rootTurnsCard : Claim7 := { stood := { row := rootTurnsRow, standIns := [], harness := (true, "108df49522fa33ee1111360cf11f1a525627dd586139ec17100148d800bc6f10"), looks := false }, kinds := [], alts := [], laidByText := true, laidKinds := [.data], laidTests := true, laidLooks := .later }
def RootTurnsCardSaid : Prop := Claim7.holds Tryd.pinned (.plain (OpenSpec.ofChange rootTurnsSpec)) rootTurnsCard

/-- THE TIED CARD OF 'millwheellaw06.RootSpoilt'. -/
def rootSpoiltCard : Claim7 := { stood := { row := rootSpoiltRow, standIns := [], harness := (true, "108df49522fa33ee1111360cf11f1a525627dd586139ec17100148d800bc6f10"), looks := false }, kinds := [], alts := [], laidByText := true, laidKinds := [.data], laidTests := true, laidLooks := .later }
def RootSpoiltCardSaid : Prop := Claim7.holds Tryd.pinned (.plain (OpenSpec.ofChange rootSpoiltSpec)) rootSpoiltCard

/-- THE TIED CARD OF 'millwheellaw06.RootBack'. -/
def rootBackCard : Claim7 := { stood := { row := rootBackRow, standIns := [], harness := (true, "108df49522fa33ee1111360cf11f1a525627dd586139ec17100148d800bc6f10"), looks := false }, kinds := [], alts := [], laidByText := true, laidKinds := [.data], laidTests := true, laidLooks := .later }
def RootBackCardSaid : Prop := Claim7.holds Tryd.pinned (.plain (OpenSpec.ofChange rootBackSpec)) rootBackCard

/-- THE SECOND FORM's CARD OF 'millwheellaw06.RootNumbers'. -/
def rootNumbersUptoCard : Claim7 := { stood := { row := rootNumbersUptoRow, standIns := [], harness := (true, "108df49522fa33ee1111360cf11f1a525627dd586139ec17100148d800bc6f10"), looks := false }, kinds := [], alts := [], laidByText := true, laidKinds := [.data], laidTests := true, laidLooks := .later }
def RootNumbersUptoCardSaid : Prop := Claim7.holds Tryd.pinned (.plain (OpenSpec.upto rootNumbersSpec)) rootNumbersUptoCard

/-- THE SECOND FORM's CARD OF 'millwheellaw06.RootTells'. -/
def rootTellsUptoCard : Claim7 := { stood := { row := rootTellsUptoRow, standIns := [], harness := (true, "108df49522fa33ee1111360cf11f1a525627dd586139ec17100148d800bc6f10"), looks := false }, kinds := [], alts := [], laidByText := true, laidKinds := [.data], laidTests := true, laidLooks := .later }
def RootTellsUptoCardSaid : Prop := Claim7.holds Tryd.pinned (.plain (OpenSpec.upto rootTellsSpec)) rootTellsUptoCard

/-- THE SECOND FORM's CARD OF 'millwheellaw06.RootNone'. -/
def rootNoneUptoCard : Claim7 := { stood := { row := rootNoneUptoRow, standIns := [], harness := (true, "108df49522fa33ee1111360cf11f1a525627dd586139ec17100148d800bc6f10"), looks := false }, kinds := [], alts := [], laidByText := true, laidKinds := [.data], laidTests := true, laidLooks := .later }
def RootNoneUptoCardSaid : Prop := Claim7.holds Tryd.pinned (.plain (OpenSpec.upto rootNoneSpec)) rootNoneUptoCard

/-- THE SECOND FORM's CARD OF 'millwheellaw06.RootSwitch'. -/
def rootSwitchUptoCard : Claim7 := { stood := { row := rootSwitchUptoRow, standIns := [], harness := (true, "108df49522fa33ee1111360cf11f1a525627dd586139ec17100148d800bc6f10"), looks := false }, kinds := [], alts := [], laidByText := true, laidKinds := [.data], laidTests := true, laidLooks := .later }
def RootSwitchUptoCardSaid : Prop := Claim7.holds Tryd.pinned (.plain (OpenSpec.upto rootSwitchSpec)) rootSwitchUptoCard

/-- THE SECOND FORM's CARD OF 'millwheellaw06.RootTurns'. -/
def rootTurnsUptoCard : Claim7 := { stood := { row := rootTurnsUptoRow, standIns := [], harness := (true, "108df49522fa33ee1111360cf11f1a525627dd586139ec17100148d800bc6f10"), looks := false }, kinds := [], alts := [], laidByText := true, laidKinds := [.data], laidTests := true, laidLooks := .later }
def RootTurnsUptoCardSaid : Prop := Claim7.holds Tryd.pinned (.plain (OpenSpec.upto rootTurnsSpec)) rootTurnsUptoCard

/-- THE SECOND FORM's CARD OF 'millwheellaw06.RootSpoilt'. -/
def rootSpoiltUptoCard : Claim7 := { stood := { row := rootSpoiltUptoRow, standIns := [], harness := (true, "108df49522fa33ee1111360cf11f1a525627dd586139ec17100148d800bc6f10"), looks := false }, kinds := [], alts := [], laidByText := true, laidKinds := [.data], laidTests := true, laidLooks := .later }
def RootSpoiltUptoCardSaid : Prop := Claim7.holds Tryd.pinned (.plain (OpenSpec.upto rootSpoiltSpec)) rootSpoiltUptoCard

/-- THE SECOND FORM's CARD OF 'millwheellaw06.RootBack'. -/
def rootBackUptoCard : Claim7 := { stood := { row := rootBackUptoRow, standIns := [], harness := (true, "108df49522fa33ee1111360cf11f1a525627dd586139ec17100148d800bc6f10"), looks := false }, kinds := [], alts := [], laidByText := true, laidKinds := [.data], laidTests := true, laidLooks := .later }
def RootBackUptoCardSaid : Prop := Claim7.holds Tryd.pinned (.plain (OpenSpec.upto rootBackSpec)) rootBackUptoCard
end Rows
end Go.Proofs.YtffgbjojngnebaaDoor
