/-
  NARROWER THAN 'FOR EVERY INPUT', by the rows' own cells (each row's printed sentence says how): ClockMatchesReference: laid · ClockReadingsMatchReference: laid · ClockExact: laid · ClockReal: laid · ClockFound: laid · ClockShifted: laid · ClockTicks: laid.
  DERIVED. THE GIVEN ROWS OF THIS SEAT. 7 by the template 'for every input the law returns true; each argument reads behind the call as it read before'; 0 by the template 'total and deterministic' (their statements: YtamefmojocegkaaDoorTotals.lean).
  GIVEN WITH THE SEED: the statements are not yours to turn. If you find one false, say at which input.
  Laid BY PROGRAM, IN A SANDBOX (cutbox-rows.mjs): the forced cells as the released guide's own fill.sh prints them over the translation b751b717084c78ff… (all of the seat's roots in one cut). By AI agents, Wed Nov 11 2026. No macro, syntax, notation, axiom, sorry.
-/
import Derived.Test.YtamefmojocegkaaDoorChecked
import GoSem.Claim
import GoSem.ClaimJoined
import GoSem.ClaimMapViews
import Derived.JoinedTies
import Derived.KernelRfl
namespace Go.Proofs.YtamefmojocegkaaDoor
/- THE CELL 'sum', in the pinned program and in every row, IS THE sha256 OF THE DUMP (.gsa) THAT YtamefmojocegkaaDoorProg.lean LOADS. Nothing in Lean hashes anything: it is a label: what it is worth is what the hold of that sum in a sandbox is worth. -/
noncomputable def Tryd.pinned : Pinned := { name := "ytamefmojocegkaadoor", sum := "b751b717084c78ff94c0f8689b8052a4e4f439f213c3a560ad4f5eee521e3cf2", checked := Tryd.checked }
namespace Rows
def none {H : Type} : Left H := { results := [], args := [] }

/- WHAT THE LISTED PACKAGE-LEVEL VARIABLES READ AS WHEN THE CALL BEGINS. Each datum BY PROGRAM (the guide's laid-datum.mjs) off the statement by which the dump's own 'gosem.cut.vars' lays the variable. In a bare row this is a premise. The card (YtamefmojocegkaaDoorCards.lean) ties it to the program's text. -/
def laid_latecomer_clock_linkedKinds {H : Type} : DataW H := .agg [.agg [.lit (.int .i64 2), .lit (.int .i64 0), .lit (.int .i64 0)], .agg [.lit (.int .i64 3), .lit (.int .i64 99), .lit (.int .i64 0)], .agg [.lit (.int .i64 4), .lit (.int .i64 99), .lit (.int .i64 0)], .agg [.lit (.int .i64 5), .lit (.int .i64 99), .lit (.int .i64 99)], .agg [.lit (.int .i64 6), .lit (.int .i64 99), .lit (.int .i64 99)], .agg [.lit (.int .i64 7), .lit (.int .i64 9), .lit (.int .i64 0)]]

/-- 'latecomerlaw08.ClockMatchesReference': WHATEVER THE INPUT: true; the input reads as it did. -/
def clockMatchesReferenceSpec : ChangeSpec := { name := "clockMatchesReference", fn := fun _ => fun
  | [d1, d2, d3, d4, d5, d6, d7] => { results := [.lit (.bool true)], args := [d1, d2, d3, d4, d5, d6, d7] }
  | _ => none }
def clockMatchesReferenceRow : OpenClaim := { program := "ytamefmojocegkaadoor", sum := "b751b717084c78ff94c0f8689b8052a4e4f439f213c3a560ad4f5eee521e3cf2", func := "latecomer/latecomerlaw08.ClockMatchesReference", spec := "clockMatchesReference", unfollowed := true, recurses := true, named := ["latecomer/clock.linkedKinds"], apart := false, laid := [("latecomer/clock.linkedKinds", laid_latecomer_clock_linkedKinds)] }
def ClockMatchesReferenceSaid : Prop := clockMatchesReferenceRow.holds Tryd.pinned (OpenSpec.ofChange clockMatchesReferenceSpec)

/-- ITS FALSE NEIGHBOUR: 'it returns false'. Refute it at one input. -/
def clockMatchesReferenceWrong : ChangeSpec := { name := "clockMatchesReference", fn := fun _ => fun
  | [d1, d2, d3, d4, d5, d6, d7] => { results := [.lit (.bool false)], args := [d1, d2, d3, d4, d5, d6, d7] }
  | _ => none }
def ClockMatchesReferenceWrongFalsely : Prop := clockMatchesReferenceRow.holds Tryd.pinned (OpenSpec.ofChange clockMatchesReferenceWrong)

/-- 'latecomerlaw08.ClockReadingsMatchReference': WHATEVER THE INPUT: true; the input reads as it did. -/
def clockReadingsMatchReferenceSpec : ChangeSpec := { name := "clockReadingsMatchReference", fn := fun _ => fun
  | [d1, d2, d3, d4, d5, d6] => { results := [.lit (.bool true)], args := [d1, d2, d3, d4, d5, d6] }
  | _ => none }
def clockReadingsMatchReferenceRow : OpenClaim := { program := "ytamefmojocegkaadoor", sum := "b751b717084c78ff94c0f8689b8052a4e4f439f213c3a560ad4f5eee521e3cf2", func := "latecomer/latecomerlaw08.ClockReadingsMatchReference", spec := "clockReadingsMatchReference", unfollowed := true, recurses := true, named := ["latecomer/clock.linkedKinds"], apart := false, laid := [("latecomer/clock.linkedKinds", laid_latecomer_clock_linkedKinds)] }
def ClockReadingsMatchReferenceSaid : Prop := clockReadingsMatchReferenceRow.holds Tryd.pinned (OpenSpec.ofChange clockReadingsMatchReferenceSpec)

/-- ITS FALSE NEIGHBOUR: 'it returns false'. Refute it at one input. -/
def clockReadingsMatchReferenceWrong : ChangeSpec := { name := "clockReadingsMatchReference", fn := fun _ => fun
  | [d1, d2, d3, d4, d5, d6] => { results := [.lit (.bool false)], args := [d1, d2, d3, d4, d5, d6] }
  | _ => none }
def ClockReadingsMatchReferenceWrongFalsely : Prop := clockReadingsMatchReferenceRow.holds Tryd.pinned (OpenSpec.ofChange clockReadingsMatchReferenceWrong)

/-- 'latecomerlaw08.ClockExact': WHATEVER THE INPUT: true; the input reads as it did. -/
def clockExactSpec : ChangeSpec := { name := "clockExact", fn := fun _ => fun
  | [d1, d2, d3, d4, d5] => { results := [.lit (.bool true)], args := [d1, d2, d3, d4, d5] }
  | _ => none }
def clockExactRow : OpenClaim := { program := "ytamefmojocegkaadoor", sum := "b751b717084c78ff94c0f8689b8052a4e4f439f213c3a560ad4f5eee521e3cf2", func := "latecomer/latecomerlaw08.ClockExact", spec := "clockExact", unfollowed := true, recurses := true, named := ["latecomer/clock.linkedKinds"], apart := false, laid := [("latecomer/clock.linkedKinds", laid_latecomer_clock_linkedKinds)] }
def ClockExactSaid : Prop := clockExactRow.holds Tryd.pinned (OpenSpec.ofChange clockExactSpec)

/-- ITS FALSE NEIGHBOUR: 'it returns false'. Refute it at one input. -/
def clockExactWrong : ChangeSpec := { name := "clockExact", fn := fun _ => fun
  | [d1, d2, d3, d4, d5] => { results := [.lit (.bool false)], args := [d1, d2, d3, d4, d5] }
  | _ => none }
def ClockExactWrongFalsely : Prop := clockExactRow.holds Tryd.pinned (OpenSpec.ofChange clockExactWrong)

/-- 'latecomerlaw08.ClockReal': WHATEVER THE INPUT: true; the input reads as it did. -/
def clockRealSpec : ChangeSpec := { name := "clockReal", fn := fun _ => fun
  | [d1, d2, d3, d4] => { results := [.lit (.bool true)], args := [d1, d2, d3, d4] }
  | _ => none }
def clockRealRow : OpenClaim := { program := "ytamefmojocegkaadoor", sum := "b751b717084c78ff94c0f8689b8052a4e4f439f213c3a560ad4f5eee521e3cf2", func := "latecomer/latecomerlaw08.ClockReal", spec := "clockReal", unfollowed := true, recurses := true, named := ["latecomer/clock.linkedKinds"], apart := false, laid := [("latecomer/clock.linkedKinds", laid_latecomer_clock_linkedKinds)] }
def ClockRealSaid : Prop := clockRealRow.holds Tryd.pinned (OpenSpec.ofChange clockRealSpec)

/-- ITS FALSE NEIGHBOUR: 'it returns false'. Refute it at one input. -/
def clockRealWrong : ChangeSpec := { name := "clockReal", fn := fun _ => fun
  | [d1, d2, d3, d4] => { results := [.lit (.bool false)], args := [d1, d2, d3, d4] }
  | _ => none }
def ClockRealWrongFalsely : Prop := clockRealRow.holds Tryd.pinned (OpenSpec.ofChange clockRealWrong)

/-- 'latecomerlaw08.ClockFound': WHATEVER THE INPUT: true; the input reads as it did. -/
def clockFoundSpec : ChangeSpec := { name := "clockFound", fn := fun _ => fun
  | [d1, d2, d3, d4, d5] => { results := [.lit (.bool true)], args := [d1, d2, d3, d4, d5] }
  | _ => none }
def clockFoundRow : OpenClaim := { program := "ytamefmojocegkaadoor", sum := "b751b717084c78ff94c0f8689b8052a4e4f439f213c3a560ad4f5eee521e3cf2", func := "latecomer/latecomerlaw08.ClockFound", spec := "clockFound", unfollowed := true, recurses := true, named := ["latecomer/clock.linkedKinds"], apart := false, laid := [("latecomer/clock.linkedKinds", laid_latecomer_clock_linkedKinds)] }
def ClockFoundSaid : Prop := clockFoundRow.holds Tryd.pinned (OpenSpec.ofChange clockFoundSpec)

/-- ITS FALSE NEIGHBOUR: 'it returns false'. Refute it at one input. -/
def clockFoundWrong : ChangeSpec := { name := "clockFound", fn := fun _ => fun
  | [d1, d2, d3, d4, d5] => { results := [.lit (.bool false)], args := [d1, d2, d3, d4, d5] }
  | _ => none }
def ClockFoundWrongFalsely : Prop := clockFoundRow.holds Tryd.pinned (OpenSpec.ofChange clockFoundWrong)

/-- 'latecomerlaw08.ClockShifted': WHATEVER THE INPUT: true; the input reads as it did. -/
def clockShiftedSpec : ChangeSpec := { name := "clockShifted", fn := fun _ => fun
  | [d1, d2, d3, d4, d5, d6, d7, d8] => { results := [.lit (.bool true)], args := [d1, d2, d3, d4, d5, d6, d7, d8] }
  | _ => none }
def clockShiftedRow : OpenClaim := { program := "ytamefmojocegkaadoor", sum := "b751b717084c78ff94c0f8689b8052a4e4f439f213c3a560ad4f5eee521e3cf2", func := "latecomer/latecomerlaw08.ClockShifted", spec := "clockShifted", unfollowed := true, recurses := true, named := ["latecomer/clock.linkedKinds"], apart := false, laid := [("latecomer/clock.linkedKinds", laid_latecomer_clock_linkedKinds)] }
def ClockShiftedSaid : Prop := clockShiftedRow.holds Tryd.pinned (OpenSpec.ofChange clockShiftedSpec)

/-- ITS FALSE NEIGHBOUR: 'it returns false'. Refute it at one input. -/
def clockShiftedWrong : ChangeSpec := { name := "clockShifted", fn := fun _ => fun
  | [d1, d2, d3, d4, d5, d6, d7, d8] => { results := [.lit (.bool false)], args := [d1, d2, d3, d4, d5, d6, d7, d8] }
  | _ => none }
def ClockShiftedWrongFalsely : Prop := clockShiftedRow.holds Tryd.pinned (OpenSpec.ofChange clockShiftedWrong)

/-- 'latecomerlaw08.ClockTicks': WHATEVER THE INPUT: true; the input reads as it did. -/
def clockTicksSpec : ChangeSpec := { name := "clockTicks", fn := fun _ => fun
  | [d1, d2, d3, d4] => { results := [.lit (.bool true)], args := [d1, d2, d3, d4] }
  | _ => none }
def clockTicksRow : OpenClaim := { program := "ytamefmojocegkaadoor", sum := "b751b717084c78ff94c0f8689b8052a4e4f439f213c3a560ad4f5eee521e3cf2", func := "latecomer/latecomerlaw08.ClockTicks", spec := "clockTicks", unfollowed := true, recurses := true, named := ["latecomer/clock.linkedKinds"], apart := false, laid := [("latecomer/clock.linkedKinds", laid_latecomer_clock_linkedKinds)] }
def ClockTicksSaid : Prop := clockTicksRow.holds Tryd.pinned (OpenSpec.ofChange clockTicksSpec)

/-- ITS FALSE NEIGHBOUR: 'it returns false'. Refute it at one input. -/
def clockTicksWrong : ChangeSpec := { name := "clockTicks", fn := fun _ => fun
  | [d1, d2, d3, d4] => { results := [.lit (.bool false)], args := [d1, d2, d3, d4] }
  | _ => none }
def ClockTicksWrongFalsely : Prop := clockTicksRow.holds Tryd.pinned (OpenSpec.ofChange clockTicksWrong)

/- THE SECOND FORM. 'bulk': how many values and letters a reading holds, each counted each time it is reached (what is shared counts as often as it is met; a slice's spare places count too). A statement '..UptoSaid' is the law's where the arguments, and the package variables that the reading takes, are together of bulk at most 1048576: NARROWER than '..Said'. Prove '..Said' where nothing that the law and all that it calls make is longer than what came in: it says more and counts as full. Else prove '..UptoSaid'. A law counts once. -/
mutual
def uptoBulk {H : Type} : DataW H → Nat
  | .lit (.string bytes) => bytes.length + 1
  | .lit _ => 1
  | .nil => 1
  | .ptr d => uptoBulk d + 1
  | .slice elems spare => uptoBulkAll elems + uptoBulkAll spare + 1
  | .agg parts => uptoBulkAll parts + 1
  | .iface _ d => uptoBulk d + 1
  | .map entries => uptoBulkEntries entries + 1
  | .held _ => 1
def uptoBulkAll {H : Type} : List (DataW H) → Nat
  | [] => 0
  | d :: r => uptoBulk d + uptoBulkAll r
def uptoBulkEntries {H : Type} : List (Lit × DataW H) → Nat
  | [] => 0
  | x :: r => uptoBulkEntry x + uptoBulkEntries r
def uptoBulkEntry {H : Type} : Lit × DataW H → Nat
  | (.string bytes, d) => bytes.length + uptoBulk d + 1
  | (_, d) => uptoBulk d + 1
 end
def uptoSmall : (H : Type) → List (DataW H) → Bool := fun _ ds => decide (uptoBulkAll ds ≤ 1048576)
def OpenSpec.upto (s : _root_.Go.ChangeSpec) : _root_.Go.OpenSpec := { _root_.Go.OpenSpec.ofChange s with cond := some uptoSmall }

/-- 'latecomerlaw08.ClockMatchesReference', WHERE WHAT IT READS IS OF BULK AT MOST 1048576: true; the input reads as it did. -/
def clockMatchesReferenceUptoRow : OpenClaim := { program := "ytamefmojocegkaadoor", sum := "b751b717084c78ff94c0f8689b8052a4e4f439f213c3a560ad4f5eee521e3cf2", func := "latecomer/latecomerlaw08.ClockMatchesReference", spec := "clockMatchesReference", unfollowed := true, recurses := true, named := ["latecomer/clock.linkedKinds"], apart := false, laid := [("latecomer/clock.linkedKinds", laid_latecomer_clock_linkedKinds)], narrowed := true }
def ClockMatchesReferenceUptoSaid : Prop := clockMatchesReferenceUptoRow.holds Tryd.pinned (OpenSpec.upto clockMatchesReferenceSpec)

/-- 'latecomerlaw08.ClockReadingsMatchReference', WHERE WHAT IT READS IS OF BULK AT MOST 1048576: true; the input reads as it did. -/
def clockReadingsMatchReferenceUptoRow : OpenClaim := { program := "ytamefmojocegkaadoor", sum := "b751b717084c78ff94c0f8689b8052a4e4f439f213c3a560ad4f5eee521e3cf2", func := "latecomer/latecomerlaw08.ClockReadingsMatchReference", spec := "clockReadingsMatchReference", unfollowed := true, recurses := true, named := ["latecomer/clock.linkedKinds"], apart := false, laid := [("latecomer/clock.linkedKinds", laid_latecomer_clock_linkedKinds)], narrowed := true }
def ClockReadingsMatchReferenceUptoSaid : Prop := clockReadingsMatchReferenceUptoRow.holds Tryd.pinned (OpenSpec.upto clockReadingsMatchReferenceSpec)

/-- 'latecomerlaw08.ClockExact', WHERE WHAT IT READS IS OF BULK AT MOST 1048576: true; the input reads as it did. -/
def clockExactUptoRow : OpenClaim := { program := "ytamefmojocegkaadoor", sum := "b751b717084c78ff94c0f8689b8052a4e4f439f213c3a560ad4f5eee521e3cf2", func := "latecomer/latecomerlaw08.ClockExact", spec := "clockExact", unfollowed := true, recurses := true, named := ["latecomer/clock.linkedKinds"], apart := false, laid := [("latecomer/clock.linkedKinds", laid_latecomer_clock_linkedKinds)], narrowed := true }
def ClockExactUptoSaid : Prop := clockExactUptoRow.holds Tryd.pinned (OpenSpec.upto clockExactSpec)

/-- 'latecomerlaw08.ClockReal', WHERE WHAT IT READS IS OF BULK AT MOST 1048576: true; the input reads as it did. -/
def clockRealUptoRow : OpenClaim := { program := "ytamefmojocegkaadoor", sum := "b751b717084c78ff94c0f8689b8052a4e4f439f213c3a560ad4f5eee521e3cf2", func := "latecomer/latecomerlaw08.ClockReal", spec := "clockReal", unfollowed := true, recurses := true, named := ["latecomer/clock.linkedKinds"], apart := false, laid := [("latecomer/clock.linkedKinds", laid_latecomer_clock_linkedKinds)], narrowed := true }
def ClockRealUptoSaid : Prop := clockRealUptoRow.holds Tryd.pinned (OpenSpec.upto clockRealSpec)

/-- 'latecomerlaw08.ClockFound', WHERE WHAT IT READS IS OF BULK AT MOST 1048576: true; the input reads as it did. -/
def clockFoundUptoRow : OpenClaim := { program := "ytamefmojocegkaadoor", sum := "b751b717084c78ff94c0f8689b8052a4e4f439f213c3a560ad4f5eee521e3cf2", func := "latecomer/latecomerlaw08.ClockFound", spec := "clockFound", unfollowed := true, recurses := true, named := ["latecomer/clock.linkedKinds"], apart := false, laid := [("latecomer/clock.linkedKinds", laid_latecomer_clock_linkedKinds)], narrowed := true }
def ClockFoundUptoSaid : Prop := clockFoundUptoRow.holds Tryd.pinned (OpenSpec.upto clockFoundSpec)

/-- 'latecomerlaw08.ClockShifted', WHERE WHAT IT READS IS OF BULK AT MOST 1048576: true; the input reads as it did. -/
def clockShiftedUptoRow : OpenClaim := { program := "ytamefmojocegkaadoor", sum := "b751b717084c78ff94c0f8689b8052a4e4f439f213c3a560ad4f5eee521e3cf2", func := "latecomer/latecomerlaw08.ClockShifted", spec := "clockShifted", unfollowed := true, recurses := true, named := ["latecomer/clock.linkedKinds"], apart := false, laid := [("latecomer/clock.linkedKinds", laid_latecomer_clock_linkedKinds)], narrowed := true }
def ClockShiftedUptoSaid : Prop := clockShiftedUptoRow.holds Tryd.pinned (OpenSpec.upto clockShiftedSpec)

/-- 'latecomerlaw08.ClockTicks', WHERE WHAT IT READS IS OF BULK AT MOST 1048576: true; the input reads as it did. -/
def clockTicksUptoRow : OpenClaim := { program := "ytamefmojocegkaadoor", sum := "b751b717084c78ff94c0f8689b8052a4e4f439f213c3a560ad4f5eee521e3cf2", func := "latecomer/latecomerlaw08.ClockTicks", spec := "clockTicks", unfollowed := true, recurses := true, named := ["latecomer/clock.linkedKinds"], apart := false, laid := [("latecomer/clock.linkedKinds", laid_latecomer_clock_linkedKinds)], narrowed := true }
def ClockTicksUptoSaid : Prop := clockTicksUptoRow.holds Tryd.pinned (OpenSpec.upto clockTicksSpec)

end Rows
end Go.Proofs.YtamefmojocegkaaDoor
