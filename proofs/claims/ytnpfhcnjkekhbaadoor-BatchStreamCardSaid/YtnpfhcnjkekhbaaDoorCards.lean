/-
  DERIVED. GIVEN WITH THE SEED: THE CARDS: each row of YtnpfhcnjkekhbaaDoorRows.lean that lists a variable, with what it lists TIED to the program's text (the seventh form; the later family's looks); each row that meets fmt, with fmt's text TOLD by the authors' own Lean function (tested against real Go, not proved from fmt's source: count such statements apart). THE CARD IS WHAT COUNTS. Prove the row's statement (the work); the ties are given (YtnpfhcnjkekhbaaDoorTie.lean); close each card by the builder's one call (the guide's Derived/Test/ToyasCard.lean, 'card_holds'). Laid BY PROGRAM, IN A SANDBOX (cutbox-door.mjs). By AI agents, Wed Nov 11 2026. No macro, syntax, notation, axiom, sorry.
-/
import Derived.Test.YtnpfhcnjkekhbaaDoorRows
import GoSem.ClaimSeven
namespace Go.Proofs.YtnpfhcnjkekhbaaDoor
namespace Rows

/-- THE TIED CARD OF 'latecomerlaw09.BatchStream'. -/
def batchStreamCard : Claim7 := { stood := { row := batchStreamRow, standIns := [], harness := (true, "db45774b1dbb8efaa5f8bc45bee4638d82677af0800072307c3928bbcf58db3f"), looks := false }, kinds := [], alts := [], laidByText := true, laidKinds := [.data, .data], laidTests := true, laidLooks := .later }
def BatchStreamCardSaid : Prop := Claim7.holds Tryd.pinned (.plain (OpenSpec.ofChange batchStreamSpec)) batchStreamCard

/-- THE TIED CARD OF 'latecomerlaw09.BatchLows'. -/
def batchLowsCard : Claim7 := { stood := { row := batchLowsRow, standIns := [], harness := (true, "db45774b1dbb8efaa5f8bc45bee4638d82677af0800072307c3928bbcf58db3f"), looks := false }, kinds := [], alts := [], laidByText := true, laidKinds := [.data, .data], laidTests := true, laidLooks := .later }
def BatchLowsCardSaid : Prop := Claim7.holds Tryd.pinned (.plain (OpenSpec.ofChange batchLowsSpec)) batchLowsCard

/-- THE SECOND FORM's CARD OF 'latecomerlaw09.BatchStream'. -/
def batchStreamUptoCard : Claim7 := { stood := { row := batchStreamUptoRow, standIns := [], harness := (true, "db45774b1dbb8efaa5f8bc45bee4638d82677af0800072307c3928bbcf58db3f"), looks := false }, kinds := [], alts := [], laidByText := true, laidKinds := [.data, .data], laidTests := true, laidLooks := .later }
def BatchStreamUptoCardSaid : Prop := Claim7.holds Tryd.pinned (.plain (OpenSpec.upto batchStreamSpec)) batchStreamUptoCard

/-- THE SECOND FORM's CARD OF 'latecomerlaw09.BatchLows'. -/
def batchLowsUptoCard : Claim7 := { stood := { row := batchLowsUptoRow, standIns := [], harness := (true, "db45774b1dbb8efaa5f8bc45bee4638d82677af0800072307c3928bbcf58db3f"), looks := false }, kinds := [], alts := [], laidByText := true, laidKinds := [.data, .data], laidTests := true, laidLooks := .later }
def BatchLowsUptoCardSaid : Prop := Claim7.holds Tryd.pinned (.plain (OpenSpec.upto batchLowsSpec)) batchLowsUptoCard
end Rows
end Go.Proofs.YtnpfhcnjkekhbaaDoor
