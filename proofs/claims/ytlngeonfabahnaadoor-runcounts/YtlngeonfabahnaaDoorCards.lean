/-
  DERIVED. GIVEN WITH THE SEED: THE CARDS: each row of YtlngeonfabahnaaDoorRows.lean that lists a variable, with what it lists TIED to the program's text (the seventh form; the later family's looks); each row that meets fmt, with fmt's text TOLD by the authors' own Lean function (tested against real Go, not proved from fmt's source: count such statements apart). THE CARD IS WHAT COUNTS. Prove the row's statement (the work); the ties are given (YtlngeonfabahnaaDoorTie.lean); close each card by the builder's one call (the guide's Derived/Test/ToyasCard.lean, 'card_holds'). Laid BY PROGRAM, IN A SANDBOX (cutbox-door.mjs). By AI agents, Wed Nov 11 2026. No macro, syntax, notation, axiom, sorry.
-/
import Derived.Test.YtlngeonfabahnaaDoorRows
import GoSem.ClaimSeven
namespace Go.Proofs.YtlngeonfabahnaaDoor
namespace Rows

/-- THE TIED CARD OF 'millwheellaw10.RunTells'. -/
def runTellsCard : Claim7 := { stood := { row := runTellsRow, standIns := [], harness := (true, "2885ce99d3426d21620647108dada92a790032a6be25be699df49971f70db62c"), looks := false }, kinds := [], alts := [], laidByText := true, laidKinds := [.data], laidTests := true, laidLooks := .later }
def RunTellsCardSaid : Prop := Claim7.holds Tryd.pinned (.plain (OpenSpec.ofChange runTellsSpec)) runTellsCard

/-- THE TIED CARD OF 'millwheellaw10.RunGrows'. -/
def runGrowsCard : Claim7 := { stood := { row := runGrowsRow, standIns := [], harness := (true, "2885ce99d3426d21620647108dada92a790032a6be25be699df49971f70db62c"), looks := false }, kinds := [], alts := [], laidByText := true, laidKinds := [.data], laidTests := true, laidLooks := .later }
def RunGrowsCardSaid : Prop := Claim7.holds Tryd.pinned (.plain (OpenSpec.ofChange runGrowsSpec)) runGrowsCard

/-- THE TIED CARD OF 'millwheellaw10.RunFuel'. -/
def runFuelCard : Claim7 := { stood := { row := runFuelRow, standIns := [], harness := (true, "2885ce99d3426d21620647108dada92a790032a6be25be699df49971f70db62c"), looks := false }, kinds := [], alts := [], laidByText := true, laidKinds := [.data], laidTests := true, laidLooks := .later }
def RunFuelCardSaid : Prop := Claim7.holds Tryd.pinned (.plain (OpenSpec.ofChange runFuelSpec)) runFuelCard

/-- THE TIED CARD OF 'millwheellaw10.RunOrder'. -/
def runOrderCard : Claim7 := { stood := { row := runOrderRow, standIns := [], harness := (true, "2885ce99d3426d21620647108dada92a790032a6be25be699df49971f70db62c"), looks := false }, kinds := [], alts := [], laidByText := true, laidKinds := [.data], laidTests := true, laidLooks := .later }
def RunOrderCardSaid : Prop := Claim7.holds Tryd.pinned (.plain (OpenSpec.ofChange runOrderSpec)) runOrderCard

/-- THE TIED CARD OF 'millwheellaw10.RunCounts'. -/
def runCountsCard : Claim7 := { stood := { row := runCountsRow, standIns := [], harness := (true, "2885ce99d3426d21620647108dada92a790032a6be25be699df49971f70db62c"), looks := false }, kinds := [], alts := [], laidByText := true, laidKinds := [.data], laidTests := true, laidLooks := .later }
def RunCountsCardSaid : Prop := Claim7.holds Tryd.pinned (.plain (OpenSpec.ofChange runCountsSpec)) runCountsCard

/-- THE TIED CARD OF 'millwheellaw10.RunWaits'. -/
def runWaitsCard : Claim7 := { stood := { row := runWaitsRow, standIns := [], harness := (true, "2885ce99d3426d21620647108dada92a790032a6be25be699df49971f70db62c"), looks := false }, kinds := [], alts := [], laidByText := true, laidKinds := [.data], laidTests := true, laidLooks := .later }
def RunWaitsCardSaid : Prop := Claim7.holds Tryd.pinned (.plain (OpenSpec.ofChange runWaitsSpec)) runWaitsCard

/-- THE TIED CARD OF 'millwheellaw10.RunSigns'. -/
def runSignsCard : Claim7 := { stood := { row := runSignsRow, standIns := [], harness := (true, "2885ce99d3426d21620647108dada92a790032a6be25be699df49971f70db62c"), looks := false }, kinds := [], alts := [], laidByText := true, laidKinds := [.data], laidTests := true, laidLooks := .later }
def RunSignsCardSaid : Prop := Claim7.holds Tryd.pinned (.plain (OpenSpec.ofChange runSignsSpec)) runSignsCard

/-- THE SECOND FORM's CARD OF 'millwheellaw10.RunTells'. -/
def runTellsUptoCard : Claim7 := { stood := { row := runTellsUptoRow, standIns := [], harness := (true, "2885ce99d3426d21620647108dada92a790032a6be25be699df49971f70db62c"), looks := false }, kinds := [], alts := [], laidByText := true, laidKinds := [.data], laidTests := true, laidLooks := .later }
def RunTellsUptoCardSaid : Prop := Claim7.holds Tryd.pinned (.plain (OpenSpec.upto runTellsSpec)) runTellsUptoCard

/-- THE SECOND FORM's CARD OF 'millwheellaw10.RunGrows'. -/
def runGrowsUptoCard : Claim7 := { stood := { row := runGrowsUptoRow, standIns := [], harness := (true, "2885ce99d3426d21620647108dada92a790032a6be25be699df49971f70db62c"), looks := false }, kinds := [], alts := [], laidByText := true, laidKinds := [.data], laidTests := true, laidLooks := .later }
def RunGrowsUptoCardSaid : Prop := Claim7.holds Tryd.pinned (.plain (OpenSpec.upto runGrowsSpec)) runGrowsUptoCard

/-- THE SECOND FORM's CARD OF 'millwheellaw10.RunFuel'. -/
def runFuelUptoCard : Claim7 := { stood := { row := runFuelUptoRow, standIns := [], harness := (true, "2885ce99d3426d21620647108dada92a790032a6be25be699df49971f70db62c"), looks := false }, kinds := [], alts := [], laidByText := true, laidKinds := [.data], laidTests := true, laidLooks := .later }
def RunFuelUptoCardSaid : Prop := Claim7.holds Tryd.pinned (.plain (OpenSpec.upto runFuelSpec)) runFuelUptoCard

/-- THE SECOND FORM's CARD OF 'millwheellaw10.RunOrder'. -/
def runOrderUptoCard : Claim7 := { stood := { row := runOrderUptoRow, standIns := [], harness := (true, "2885ce99d3426d21620647108dada92a790032a6be25be699df49971f70db62c"), looks := false }, kinds := [], alts := [], laidByText := true, laidKinds := [.data], laidTests := true, laidLooks := .later }
def RunOrderUptoCardSaid : Prop := Claim7.holds Tryd.pinned (.plain (OpenSpec.upto runOrderSpec)) runOrderUptoCard

/-- THE SECOND FORM's CARD OF 'millwheellaw10.RunCounts'. -/
def runCountsUptoCard : Claim7 := { stood := { row := runCountsUptoRow, standIns := [], harness := (true, "2885ce99d3426d21620647108dada92a790032a6be25be699df49971f70db62c"), looks := false }, kinds := [], alts := [], laidByText := true, laidKinds := [.data], laidTests := true, laidLooks := .later }
def RunCountsUptoCardSaid : Prop := Claim7.holds Tryd.pinned (.plain (OpenSpec.upto runCountsSpec)) runCountsUptoCard

/-- THE SECOND FORM's CARD OF 'millwheellaw10.RunWaits'. -/
def runWaitsUptoCard : Claim7 := { stood := { row := runWaitsUptoRow, standIns := [], harness := (true, "2885ce99d3426d21620647108dada92a790032a6be25be699df49971f70db62c"), looks := false }, kinds := [], alts := [], laidByText := true, laidKinds := [.data], laidTests := true, laidLooks := .later }
def RunWaitsUptoCardSaid : Prop := Claim7.holds Tryd.pinned (.plain (OpenSpec.upto runWaitsSpec)) runWaitsUptoCard

/-- THE SECOND FORM's CARD OF 'millwheellaw10.RunSigns'. -/
def runSignsUptoCard : Claim7 := { stood := { row := runSignsUptoRow, standIns := [], harness := (true, "2885ce99d3426d21620647108dada92a790032a6be25be699df49971f70db62c"), looks := false }, kinds := [], alts := [], laidByText := true, laidKinds := [.data], laidTests := true, laidLooks := .later }
def RunSignsUptoCardSaid : Prop := Claim7.holds Tryd.pinned (.plain (OpenSpec.upto runSignsSpec)) runSignsUptoCard
end Rows
end Go.Proofs.YtlngeonfabahnaaDoor
