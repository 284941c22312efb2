/-
  DERIVED. GIVEN WITH THE SEED: THE CARDS: each row of YtamefmojocegkaaDoorRows.lean that lists a variable, with what it lists TIED to the program's text (the seventh form; the later family's looks); each row that meets fmt, with fmt's text TOLD by the authors' own Lean function (tested against real Go, not proved from fmt's source: count such statements apart). THE CARD IS WHAT COUNTS. Prove the row's statement (the work); the ties are given (YtamefmojocegkaaDoorTie.lean); close each card by the builder's one call (the guide's Derived/Test/ToyasCard.lean, 'card_holds'). Laid BY PROGRAM, IN A SANDBOX (cutbox-door.mjs). By AI agents, Wed Nov 11 2026. No macro, syntax, notation, axiom, sorry.
-/
import Derived.Test.YtamefmojocegkaaDoorRows
import GoSem.ClaimSeven
namespace Go.Proofs.YtamefmojocegkaaDoor
namespace Rows

/-- THE TIED CARD OF 'latecomerlaw08.ClockMatchesReference'. -/
def clockMatchesReferenceCard : Claim7 := { stood := { row := clockMatchesReferenceRow, standIns := [], harness := (true, "e2b10f2a506968f456cc416474c2989faa7a9638b7bf3b21e661b06c7977a6cb"), looks := false }, kinds := [], alts := [], laidByText := true, laidKinds := [.data], laidTests := true, laidLooks := .later }
def ClockMatchesReferenceCardSaid : Prop := Claim7.holds Tryd.pinned (.plain (OpenSpec.ofChange clockMatchesReferenceSpec)) clockMatchesReferenceCard

/-- THE TIED CARD OF 'latecomerlaw08.ClockReadingsMatchReference'. -/
def clockReadingsMatchReferenceCard : Claim7 := { stood := { row := clockReadingsMatchReferenceRow, standIns := [], harness := (true, "e2b10f2a506968f456cc416474c2989faa7a9638b7bf3b21e661b06c7977a6cb"), looks := false }, kinds := [], alts := [], laidByText := true, laidKinds := [.data], laidTests := true, laidLooks := .later }
def ClockReadingsMatchReferenceCardSaid : Prop := Claim7.holds Tryd.pinned (.plain (OpenSpec.ofChange clockReadingsMatchReferenceSpec)) clockReadingsMatchReferenceCard

/-- THE TIED CARD OF 'latecomerlaw08.ClockExact'. -/
def clockExactCard : Claim7 := { stood := { row := clockExactRow, standIns := [], harness := (true, "e2b10f2a506968f456cc416474c2989faa7a9638b7bf3b21e661b06c7977a6cb"), looks := false }, kinds := [], alts := [], laidByText := true, laidKinds := [.data], laidTests := true, laidLooks := .later }
def ClockExactCardSaid : Prop := Claim7.holds Tryd.pinned (.plain (OpenSpec.ofChange clockExactSpec)) clockExactCard

/-- THE TIED CARD OF 'latecomerlaw08.ClockReal'. -/
def clockRealCard : Claim7 := { stood := { row := clockRealRow, standIns := [], harness := (true, "e2b10f2a506968f456cc416474c2989faa7a9638b7bf3b21e661b06c7977a6cb"), looks := false }, kinds := [], alts := [], laidByText := true, laidKinds := [.data], laidTests := true, laidLooks := .later }
def ClockRealCardSaid : Prop := Claim7.holds Tryd.pinned (.plain (OpenSpec.ofChange clockRealSpec)) clockRealCard

/-- THE TIED CARD OF 'latecomerlaw08.ClockFound'. -/
def clockFoundCard : Claim7 := { stood := { row := clockFoundRow, standIns := [], harness := (true, "e2b10f2a506968f456cc416474c2989faa7a9638b7bf3b21e661b06c7977a6cb"), looks := false }, kinds := [], alts := [], laidByText := true, laidKinds := [.data], laidTests := true, laidLooks := .later }
def ClockFoundCardSaid : Prop := Claim7.holds Tryd.pinned (.plain (OpenSpec.ofChange clockFoundSpec)) clockFoundCard

/-- THE TIED CARD OF 'latecomerlaw08.ClockShifted'. -/
def clockShiftedCard : Claim7 := { stood := { row := clockShiftedRow, standIns := [], harness := (true, "e2b10f2a506968f456cc416474c2989faa7a9638b7bf3b21e661b06c7977a6cb"), looks := false }, kinds := [], alts := [], laidByText := true, laidKinds := [.data], laidTests := true, laidLooks := .later }
def ClockShiftedCardSaid : Prop := Claim7.holds Tryd.pinned (.plain (OpenSpec.ofChange clockShiftedSpec)) clockShiftedCard

/-- THE TIED CARD OF 'latecomerlaw08.ClockTicks'. -/
def clockTicksCard : Claim7 := { stood := { row := clockTicksRow, standIns := [], harness := (true, "e2b10f2a506968f456cc416474c2989faa7a9638b7bf3b21e661b06c7977a6cb"), looks := false }, kinds := [], alts := [], laidByText := true, laidKinds := [.data], laidTests := true, laidLooks := .later }
def ClockTicksCardSaid : Prop := Claim7.holds Tryd.pinned (.plain (OpenSpec.ofChange clockTicksSpec)) clockTicksCard

/-- THE SECOND FORM's CARD OF 'latecomerlaw08.ClockMatchesReference'. -/
def clockMatchesReferenceUptoCard : Claim7 := { stood := { row := clockMatchesReferenceUptoRow, standIns := [], harness := (true, "e2b10f2a506968f456cc416474c2989faa7a9638b7bf3b21e661b06c7977a6cb"), looks := false }, kinds := [], alts := [], laidByText := true, laidKinds := [.data], laidTests := true, laidLooks := .later }
def ClockMatchesReferenceUptoCardSaid : Prop := Claim7.holds Tryd.pinned (.plain (OpenSpec.upto clockMatchesReferenceSpec)) clockMatchesReferenceUptoCard

/-- THE SECOND FORM's CARD OF 'latecomerlaw08.ClockReadingsMatchReference'. -/
def clockReadingsMatchReferenceUptoCard : Claim7 := { stood := { row := clockReadingsMatchReferenceUptoRow, standIns := [], harness := (true, "e2b10f2a506968f456cc416474c2989faa7a9638b7bf3b21e661b06c7977a6cb"), looks := false }, kinds := [], alts := [], laidByText := true, laidKinds := [.data], laidTests := true, laidLooks := .later }
def ClockReadingsMatchReferenceUptoCardSaid : Prop := Claim7.holds Tryd.pinned (.plain (OpenSpec.upto clockReadingsMatchReferenceSpec)) clockReadingsMatchReferenceUptoCard

/-- THE SECOND FORM's CARD OF 'latecomerlaw08.ClockExact'. -/
def clockExactUptoCard : Claim7 := { stood := { row := clockExactUptoRow, standIns := [], harness := (true, "e2b10f2a506968f456cc416474c2989faa7a9638b7bf3b21e661b06c7977a6cb"), looks := false }, kinds := [], alts := [], laidByText := true, laidKinds := [.data], laidTests := true, laidLooks := .later }
def ClockExactUptoCardSaid : Prop := Claim7.holds Tryd.pinned (.plain (OpenSpec.upto clockExactSpec)) clockExactUptoCard

/-- THE SECOND FORM's CARD OF 'latecomerlaw08.ClockReal'. -/
def clockRealUptoCard : Claim7 := { stood := { row := clockRealUptoRow, standIns := [], harness := (true, "e2b10f2a506968f456cc416474c2989faa7a9638b7bf3b21e661b06c7977a6cb"), looks := false }, kinds := [], alts := [], laidByText := true, laidKinds := [.data], laidTests := true, laidLooks := .later }
def ClockRealUptoCardSaid : Prop := Claim7.holds Tryd.pinned (.plain (OpenSpec.upto clockRealSpec)) clockRealUptoCard

/-- THE SECOND FORM's CARD OF 'latecomerlaw08.ClockFound'. -/
def clockFoundUptoCard : Claim7 := { stood := { row := clockFoundUptoRow, standIns := [], harness := (true, "e2b10f2a506968f456cc416474c2989faa7a9638b7bf3b21e661b06c7977a6cb"), looks := false }, kinds := [], alts := [], laidByText := true, laidKinds := [.data], laidTests := true, laidLooks := .later }
def ClockFoundUptoCardSaid : Prop := Claim7.holds Tryd.pinned (.plain (OpenSpec.upto clockFoundSpec)) clockFoundUptoCard

/-- THE SECOND FORM's CARD OF 'latecomerlaw08.ClockShifted'. -/
def clockShiftedUptoCard : Claim7 := { stood := { row := clockShiftedUptoRow, standIns := [], harness := (true, "e2b10f2a506968f456cc416474c2989faa7a9638b7bf3b21e661b06c7977a6cb"), looks := false }, kinds := [], alts := [], laidByText := true, laidKinds := [.data], laidTests := true, laidLooks := .later }
def ClockShiftedUptoCardSaid : Prop := Claim7.holds Tryd.pinned (.plain (OpenSpec.upto clockShiftedSpec)) clockShiftedUptoCard

/-- THE SECOND FORM's CARD OF 'latecomerlaw08.ClockTicks'. -/
def clockTicksUptoCard : Claim7 := { stood := { row := clockTicksUptoRow, standIns := [], harness := (true, "e2b10f2a506968f456cc416474c2989faa7a9638b7bf3b21e661b06c7977a6cb"), looks := false }, kinds := [], alts := [], laidByText := true, laidKinds := [.data], laidTests := true, laidLooks := .later }
def ClockTicksUptoCardSaid : Prop := Claim7.holds Tryd.pinned (.plain (OpenSpec.upto clockTicksSpec)) clockTicksUptoCard
end Rows
end Go.Proofs.YtamefmojocegkaaDoor
