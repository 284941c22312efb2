/-
  DERIVED. GIVEN WITH THE SEED: THE CARDS: each row of YtnpfhcnjkekhbaaGreatDoorRows.lean that lists a variable, with what it lists TIED to the program's text (the seventh form; the later family's looks); each row that meets fmt, with fmt's text TOLD by the authors' own Lean function (tested against real Go, not proved from fmt's source: count such statements apart). THE CARD IS WHAT COUNTS. Prove the row's statement (the work); the ties are given (YtnpfhcnjkekhbaaGreatDoorTie.lean); close each card by the builder's one call (the guide's Derived/Test/ToyasCard.lean, 'card_holds'). Laid BY PROGRAM, IN A SANDBOX (cutbox-door.mjs). By AI agents, Wed Nov 11 2026. No macro, syntax, notation, axiom, sorry.
-/
import Derived.Test.YtnpfhcnjkekhbaaGreatDoorRows
import GoSem.ClaimSeven
namespace Go.Proofs.YtnpfhcnjkekhbaaGreatDoor
namespace Rows

/-- THE TIED CARD OF 'latecomerlaw09.BatchMatchesReference'. -/
def batchMatchesReferenceCard : Claim7 := { stood := { row := batchMatchesReferenceRow, standIns := [], harness := (true, "5fe489caa8a2e0d412e7e92a8582558631aeb15187a8161cea8e2911b32f230f"), looks := false }, kinds := [], alts := [], laidByText := true, laidKinds := [.data, .data], laidTests := true, laidLooks := .later }
def BatchMatchesReferenceCardSaid : Prop := Claim7.holds Tryz.pinned (.plain (OpenSpec.ofChange batchMatchesReferenceSpec)) batchMatchesReferenceCard

/-- THE TIED CARD OF 'latecomerlaw09.BatchSplitsMatchReference'. -/
def batchSplitsMatchReferenceCard : Claim7 := { stood := { row := batchSplitsMatchReferenceRow, standIns := [], harness := (true, "5fe489caa8a2e0d412e7e92a8582558631aeb15187a8161cea8e2911b32f230f"), looks := false }, kinds := [], alts := [], laidByText := true, laidKinds := [.data, .data], laidTests := true, laidLooks := .later }
def BatchSplitsMatchReferenceCardSaid : Prop := Claim7.holds Tryz.pinned (.plain (OpenSpec.ofChange batchSplitsMatchReferenceSpec)) batchSplitsMatchReferenceCard

/-- THE TIED CARD OF 'latecomerlaw09.BatchCode'. -/
def batchCodeCard : Claim7 := { stood := { row := batchCodeRow, standIns := [], harness := (true, "5fe489caa8a2e0d412e7e92a8582558631aeb15187a8161cea8e2911b32f230f"), looks := false }, kinds := [], alts := [], laidByText := true, laidKinds := [.data, .data], laidTests := true, laidLooks := .later }
def BatchCodeCardSaid : Prop := Claim7.holds Tryz.pinned (.plain (OpenSpec.ofChange batchCodeSpec)) batchCodeCard

/-- THE TIED CARD OF 'latecomerlaw09.BatchHead'. -/
def batchHeadCard : Claim7 := { stood := { row := batchHeadRow, standIns := [], harness := (true, "5fe489caa8a2e0d412e7e92a8582558631aeb15187a8161cea8e2911b32f230f"), looks := false }, kinds := [], alts := [], laidByText := true, laidKinds := [.data, .data], laidTests := true, laidLooks := .later }
def BatchHeadCardSaid : Prop := Claim7.holds Tryz.pinned (.plain (OpenSpec.ofChange batchHeadSpec)) batchHeadCard

/-- THE SECOND FORM's CARD OF 'latecomerlaw09.BatchMatchesReference'. -/
def batchMatchesReferenceUptoCard : Claim7 := { stood := { row := batchMatchesReferenceUptoRow, standIns := [], harness := (true, "5fe489caa8a2e0d412e7e92a8582558631aeb15187a8161cea8e2911b32f230f"), looks := false }, kinds := [], alts := [], laidByText := true, laidKinds := [.data, .data], laidTests := true, laidLooks := .later }
def BatchMatchesReferenceUptoCardSaid : Prop := Claim7.holds Tryz.pinned (.plain (OpenSpec.upto batchMatchesReferenceSpec)) batchMatchesReferenceUptoCard

/-- THE SECOND FORM's CARD OF 'latecomerlaw09.BatchSplitsMatchReference'. -/
def batchSplitsMatchReferenceUptoCard : Claim7 := { stood := { row := batchSplitsMatchReferenceUptoRow, standIns := [], harness := (true, "5fe489caa8a2e0d412e7e92a8582558631aeb15187a8161cea8e2911b32f230f"), looks := false }, kinds := [], alts := [], laidByText := true, laidKinds := [.data, .data], laidTests := true, laidLooks := .later }
def BatchSplitsMatchReferenceUptoCardSaid : Prop := Claim7.holds Tryz.pinned (.plain (OpenSpec.upto batchSplitsMatchReferenceSpec)) batchSplitsMatchReferenceUptoCard

/-- THE SECOND FORM's CARD OF 'latecomerlaw09.BatchCode'. -/
def batchCodeUptoCard : Claim7 := { stood := { row := batchCodeUptoRow, standIns := [], harness := (true, "5fe489caa8a2e0d412e7e92a8582558631aeb15187a8161cea8e2911b32f230f"), looks := false }, kinds := [], alts := [], laidByText := true, laidKinds := [.data, .data], laidTests := true, laidLooks := .later }
def BatchCodeUptoCardSaid : Prop := Claim7.holds Tryz.pinned (.plain (OpenSpec.upto batchCodeSpec)) batchCodeUptoCard

/-- THE SECOND FORM's CARD OF 'latecomerlaw09.BatchHead'. -/
def batchHeadUptoCard : Claim7 := { stood := { row := batchHeadUptoRow, standIns := [], harness := (true, "5fe489caa8a2e0d412e7e92a8582558631aeb15187a8161cea8e2911b32f230f"), looks := false }, kinds := [], alts := [], laidByText := true, laidKinds := [.data, .data], laidTests := true, laidLooks := .later }
def BatchHeadUptoCardSaid : Prop := Claim7.holds Tryz.pinned (.plain (OpenSpec.upto batchHeadSpec)) batchHeadUptoCard
end Rows
end Go.Proofs.YtnpfhcnjkekhbaaGreatDoor
