/-
  NARROWER THAN 'FOR EVERY INPUT', by the rows' own cells (each row's printed sentence says how): UnitMatchesReference: laid · UnitTextMatchesReference: laid · UnitField: laid · UnitDimensions: laid · UnitOrder: laid · UnitRoundTrip: laid · UnitReadAgain: laid.
  DERIVED. THE GIVEN ROWS OF THIS SEAT. 7 by the template 'for every input the law returns true; each argument reads behind the call as it read before'; 0 by the template 'total and deterministic' (their statements: YtcglcgphgahnpaaGreatDoorTotals.lean).
  GIVEN WITH THE SEED: the statements are not yours to turn. If you find one false, say at which input.
  Laid BY PROGRAM, IN A SANDBOX (cutbox-rows.mjs): the forced cells as the released guide's own fill.sh prints them over the translation ce2f5db64b373475… (all of the seat's roots in one cut). By AI agents, Wed Nov 11 2026. No macro, syntax, notation, axiom, sorry.
-/
import Derived.Test.YtcglcgphgahnpaaGreatDoorChecked
import GoSem.Claim
import GoSem.ClaimJoined
import GoSem.ClaimMapViews
import Derived.JoinedTies
import Derived.KernelRfl
namespace Go.Proofs.YtcglcgphgahnpaaGreatDoor
/- THE CELL 'sum', in the pinned program and in every row, IS THE sha256 OF THE DUMP (.gsa) THAT YtcglcgphgahnpaaGreatDoorProg.lean LOADS. Nothing in Lean hashes anything: it is a label: what it is worth is what the hold of that sum in a sandbox is worth. -/
noncomputable def Tryz.pinned : Pinned := { name := "ytcglcgphgahnpaagreatdoor", sum := "ce2f5db64b37347586a8de49150624f7f125de1ad9fefe514c7155ee856a7dd6", checked := Tryz.checked }
namespace Rows
def none {H : Type} : Left H := { results := [], args := [] }

/- WHAT THE LISTED PACKAGE-LEVEL VARIABLES READ AS WHEN THE CALL BEGINS. Each datum BY PROGRAM (the guide's laid-datum.mjs) off the statement by which the dump's own 'gosem.cut.vars' lays the variable. In a bare row this is a premise. The card (YtcglcgphgahnpaaGreatDoorCards.lean) ties it to the program's text. -/
def laid_math_bits_deBruijn32tab {H : Type} : DataW H := .agg [.lit (.int .u8 0), .lit (.int .u8 1), .lit (.int .u8 28), .lit (.int .u8 2), .lit (.int .u8 29), .lit (.int .u8 14), .lit (.int .u8 24), .lit (.int .u8 3), .lit (.int .u8 30), .lit (.int .u8 22), .lit (.int .u8 20), .lit (.int .u8 15), .lit (.int .u8 25), .lit (.int .u8 17), .lit (.int .u8 4), .lit (.int .u8 8), .lit (.int .u8 31), .lit (.int .u8 27), .lit (.int .u8 13), .lit (.int .u8 23), .lit (.int .u8 21), .lit (.int .u8 19), .lit (.int .u8 16), .lit (.int .u8 7), .lit (.int .u8 26), .lit (.int .u8 12), .lit (.int .u8 18), .lit (.int .u8 6), .lit (.int .u8 11), .lit (.int .u8 5), .lit (.int .u8 10), .lit (.int .u8 9)]
def laid_math_bits_deBruijn64tab {H : Type} : DataW H := .agg [.lit (.int .u8 0), .lit (.int .u8 1), .lit (.int .u8 56), .lit (.int .u8 2), .lit (.int .u8 57), .lit (.int .u8 49), .lit (.int .u8 28), .lit (.int .u8 3), .lit (.int .u8 61), .lit (.int .u8 58), .lit (.int .u8 42), .lit (.int .u8 50), .lit (.int .u8 38), .lit (.int .u8 29), .lit (.int .u8 17), .lit (.int .u8 4), .lit (.int .u8 62), .lit (.int .u8 47), .lit (.int .u8 59), .lit (.int .u8 36), .lit (.int .u8 45), .lit (.int .u8 43), .lit (.int .u8 51), .lit (.int .u8 22), .lit (.int .u8 53), .lit (.int .u8 39), .lit (.int .u8 33), .lit (.int .u8 30), .lit (.int .u8 24), .lit (.int .u8 18), .lit (.int .u8 12), .lit (.int .u8 5), .lit (.int .u8 63), .lit (.int .u8 55), .lit (.int .u8 48), .lit (.int .u8 27), .lit (.int .u8 60), .lit (.int .u8 41), .lit (.int .u8 37), .lit (.int .u8 16), .lit (.int .u8 46), .lit (.int .u8 35), .lit (.int .u8 44), .lit (.int .u8 21), .lit (.int .u8 52), .lit (.int .u8 32), .lit (.int .u8 23), .lit (.int .u8 11), .lit (.int .u8 54), .lit (.int .u8 26), .lit (.int .u8 40), .lit (.int .u8 15), .lit (.int .u8 34), .lit (.int .u8 20), .lit (.int .u8 31), .lit (.int .u8 10), .lit (.int .u8 25), .lit (.int .u8 14), .lit (.int .u8 19), .lit (.int .u8 9), .lit (.int .u8 13), .lit (.int .u8 8), .lit (.int .u8 7), .lit (.int .u8 6)]
def laid_internal_strconv_uint64pow10 {H : Type} : DataW H := .agg [.lit (.int .u64 1), .lit (.int .u64 10), .lit (.int .u64 100), .lit (.int .u64 1000), .lit (.int .u64 10000), .lit (.int .u64 100000), .lit (.int .u64 1000000), .lit (.int .u64 10000000), .lit (.int .u64 100000000), .lit (.int .u64 1000000000), .lit (.int .u64 10000000000), .lit (.int .u64 100000000000), .lit (.int .u64 1000000000000), .lit (.int .u64 10000000000000), .lit (.int .u64 100000000000000), .lit (.int .u64 1000000000000000), .lit (.int .u64 10000000000000000), .lit (.int .u64 100000000000000000), .lit (.int .u64 1000000000000000000), .lit (.int .u64 10000000000000000000)]
def laid_latecomer_unit_words {H : Type} : DataW H := .agg [.lit (.string [117, 115]), .lit (.string [98, 121, 116, 101]), .lit (.string [99, 101, 110, 116]), .lit (.string [111, 110, 101])]

/-- 'latecomerlaw05.UnitMatchesReference': WHATEVER THE INPUT: true; the input reads as it did. -/
def unitMatchesReferenceSpec : ChangeSpec := { name := "unitMatchesReference", fn := fun _ => fun
  | [d1, d2, d3, d4] => { results := [.lit (.bool true)], args := [d1, d2, d3, d4] }
  | _ => none }
def unitMatchesReferenceRow : OpenClaim := { program := "ytcglcgphgahnpaagreatdoor", sum := "ce2f5db64b37347586a8de49150624f7f125de1ad9fefe514c7155ee856a7dd6", func := "latecomer/latecomerlaw05.UnitMatchesReference", spec := "unitMatchesReference", inPlace := ["internal/bytealg.IndexByteString", "internal/bytealg.IndexString"], unfollowed := true, recurses := true, named := ["internal/strconv.uint64pow10", "math/bits.deBruijn32tab", "math/bits.deBruijn64tab", "latecomer/unit.words", "internal/bytealg.MaxLen"], apart := false, laid := [("math/bits.deBruijn32tab", laid_math_bits_deBruijn32tab), ("math/bits.deBruijn64tab", laid_math_bits_deBruijn64tab), ("internal/strconv.uint64pow10", laid_internal_strconv_uint64pow10), ("latecomer/unit.words", laid_latecomer_unit_words)] }
def UnitMatchesReferenceSaid : Prop := unitMatchesReferenceRow.holds Tryz.pinned (OpenSpec.ofChange unitMatchesReferenceSpec)

/-- ITS FALSE NEIGHBOUR: 'it returns false'. Refute it at one input. -/
def unitMatchesReferenceWrong : ChangeSpec := { name := "unitMatchesReference", fn := fun _ => fun
  | [d1, d2, d3, d4] => { results := [.lit (.bool false)], args := [d1, d2, d3, d4] }
  | _ => none }
def UnitMatchesReferenceWrongFalsely : Prop := unitMatchesReferenceRow.holds Tryz.pinned (OpenSpec.ofChange unitMatchesReferenceWrong)

/-- 'latecomerlaw05.UnitTextMatchesReference': WHATEVER THE INPUT: true; the input reads as it did. -/
def unitTextMatchesReferenceSpec : ChangeSpec := { name := "unitTextMatchesReference", fn := fun _ => fun
  | [d1, d2, d3, d4, d5] => { results := [.lit (.bool true)], args := [d1, d2, d3, d4, d5] }
  | _ => none }
def unitTextMatchesReferenceRow : OpenClaim := { program := "ytcglcgphgahnpaagreatdoor", sum := "ce2f5db64b37347586a8de49150624f7f125de1ad9fefe514c7155ee856a7dd6", func := "latecomer/latecomerlaw05.UnitTextMatchesReference", spec := "unitTextMatchesReference", inPlace := ["internal/bytealg.IndexByteString", "internal/bytealg.IndexString"], unfollowed := true, recurses := true, named := ["internal/strconv.uint64pow10", "math/bits.deBruijn32tab", "math/bits.deBruijn64tab", "latecomer/unit.words", "internal/bytealg.MaxLen"], apart := false, laid := [("math/bits.deBruijn32tab", laid_math_bits_deBruijn32tab), ("math/bits.deBruijn64tab", laid_math_bits_deBruijn64tab), ("internal/strconv.uint64pow10", laid_internal_strconv_uint64pow10), ("latecomer/unit.words", laid_latecomer_unit_words)] }
def UnitTextMatchesReferenceSaid : Prop := unitTextMatchesReferenceRow.holds Tryz.pinned (OpenSpec.ofChange unitTextMatchesReferenceSpec)

/-- ITS FALSE NEIGHBOUR: 'it returns false'. Refute it at one input. -/
def unitTextMatchesReferenceWrong : ChangeSpec := { name := "unitTextMatchesReference", fn := fun _ => fun
  | [d1, d2, d3, d4, d5] => { results := [.lit (.bool false)], args := [d1, d2, d3, d4, d5] }
  | _ => none }
def UnitTextMatchesReferenceWrongFalsely : Prop := unitTextMatchesReferenceRow.holds Tryz.pinned (OpenSpec.ofChange unitTextMatchesReferenceWrong)

/-- 'latecomerlaw05.UnitField': WHATEVER THE INPUT: true; the input reads as it did. -/
def unitFieldSpec : ChangeSpec := { name := "unitField", fn := fun _ => fun
  | [d1, d2, d3] => { results := [.lit (.bool true)], args := [d1, d2, d3] }
  | _ => none }
def unitFieldRow : OpenClaim := { program := "ytcglcgphgahnpaagreatdoor", sum := "ce2f5db64b37347586a8de49150624f7f125de1ad9fefe514c7155ee856a7dd6", func := "latecomer/latecomerlaw05.UnitField", spec := "unitField", inPlace := ["internal/bytealg.IndexByteString", "internal/bytealg.IndexString"], unfollowed := true, recurses := true, named := ["internal/strconv.uint64pow10", "math/bits.deBruijn32tab", "math/bits.deBruijn64tab", "latecomer/unit.words", "internal/bytealg.MaxLen"], apart := false, laid := [("math/bits.deBruijn32tab", laid_math_bits_deBruijn32tab), ("math/bits.deBruijn64tab", laid_math_bits_deBruijn64tab), ("internal/strconv.uint64pow10", laid_internal_strconv_uint64pow10), ("latecomer/unit.words", laid_latecomer_unit_words)] }
def UnitFieldSaid : Prop := unitFieldRow.holds Tryz.pinned (OpenSpec.ofChange unitFieldSpec)

/-- ITS FALSE NEIGHBOUR: 'it returns false'. Refute it at one input. -/
def unitFieldWrong : ChangeSpec := { name := "unitField", fn := fun _ => fun
  | [d1, d2, d3] => { results := [.lit (.bool false)], args := [d1, d2, d3] }
  | _ => none }
def UnitFieldWrongFalsely : Prop := unitFieldRow.holds Tryz.pinned (OpenSpec.ofChange unitFieldWrong)

/-- 'latecomerlaw05.UnitDimensions': WHATEVER THE INPUT: true; the input reads as it did. -/
def unitDimensionsSpec : ChangeSpec := { name := "unitDimensions", fn := fun _ => fun
  | [d1, d2, d3] => { results := [.lit (.bool true)], args := [d1, d2, d3] }
  | _ => none }
def unitDimensionsRow : OpenClaim := { program := "ytcglcgphgahnpaagreatdoor", sum := "ce2f5db64b37347586a8de49150624f7f125de1ad9fefe514c7155ee856a7dd6", func := "latecomer/latecomerlaw05.UnitDimensions", spec := "unitDimensions", inPlace := ["internal/bytealg.IndexByteString", "internal/bytealg.IndexString"], unfollowed := true, recurses := true, named := ["internal/strconv.uint64pow10", "math/bits.deBruijn32tab", "math/bits.deBruijn64tab", "latecomer/unit.words", "internal/bytealg.MaxLen"], apart := false, laid := [("math/bits.deBruijn32tab", laid_math_bits_deBruijn32tab), ("math/bits.deBruijn64tab", laid_math_bits_deBruijn64tab), ("internal/strconv.uint64pow10", laid_internal_strconv_uint64pow10), ("latecomer/unit.words", laid_latecomer_unit_words)] }
def UnitDimensionsSaid : Prop := unitDimensionsRow.holds Tryz.pinned (OpenSpec.ofChange unitDimensionsSpec)

/-- ITS FALSE NEIGHBOUR: 'it returns false'. Refute it at one input. -/
def unitDimensionsWrong : ChangeSpec := { name := "unitDimensions", fn := fun _ => fun
  | [d1, d2, d3] => { results := [.lit (.bool false)], args := [d1, d2, d3] }
  | _ => none }
def UnitDimensionsWrongFalsely : Prop := unitDimensionsRow.holds Tryz.pinned (OpenSpec.ofChange unitDimensionsWrong)

/-- 'latecomerlaw05.UnitOrder': WHATEVER THE INPUT: true; the input reads as it did. -/
def unitOrderSpec : ChangeSpec := { name := "unitOrder", fn := fun _ => fun
  | [d1, d2, d3] => { results := [.lit (.bool true)], args := [d1, d2, d3] }
  | _ => none }
def unitOrderRow : OpenClaim := { program := "ytcglcgphgahnpaagreatdoor", sum := "ce2f5db64b37347586a8de49150624f7f125de1ad9fefe514c7155ee856a7dd6", func := "latecomer/latecomerlaw05.UnitOrder", spec := "unitOrder", inPlace := ["internal/bytealg.IndexByteString", "internal/bytealg.IndexString"], unfollowed := true, recurses := true, named := ["internal/strconv.uint64pow10", "math/bits.deBruijn32tab", "math/bits.deBruijn64tab", "latecomer/unit.words", "internal/bytealg.MaxLen"], apart := false, laid := [("math/bits.deBruijn32tab", laid_math_bits_deBruijn32tab), ("math/bits.deBruijn64tab", laid_math_bits_deBruijn64tab), ("internal/strconv.uint64pow10", laid_internal_strconv_uint64pow10), ("latecomer/unit.words", laid_latecomer_unit_words)] }
def UnitOrderSaid : Prop := unitOrderRow.holds Tryz.pinned (OpenSpec.ofChange unitOrderSpec)

/-- ITS FALSE NEIGHBOUR: 'it returns false'. Refute it at one input. -/
def unitOrderWrong : ChangeSpec := { name := "unitOrder", fn := fun _ => fun
  | [d1, d2, d3] => { results := [.lit (.bool false)], args := [d1, d2, d3] }
  | _ => none }
def UnitOrderWrongFalsely : Prop := unitOrderRow.holds Tryz.pinned (OpenSpec.ofChange unitOrderWrong)

/-- 'latecomerlaw05.UnitRoundTrip': WHATEVER THE INPUT: true; the input reads as it did. -/
def unitRoundTripSpec : ChangeSpec := { name := "unitRoundTrip", fn := fun _ => fun
  | [d1, d2, d3, d4] => { results := [.lit (.bool true)], args := [d1, d2, d3, d4] }
  | _ => none }
def unitRoundTripRow : OpenClaim := { program := "ytcglcgphgahnpaagreatdoor", sum := "ce2f5db64b37347586a8de49150624f7f125de1ad9fefe514c7155ee856a7dd6", func := "latecomer/latecomerlaw05.UnitRoundTrip", spec := "unitRoundTrip", inPlace := ["internal/bytealg.IndexByteString", "internal/bytealg.IndexString"], unfollowed := true, recurses := true, named := ["internal/strconv.uint64pow10", "math/bits.deBruijn32tab", "math/bits.deBruijn64tab", "latecomer/unit.words", "internal/bytealg.MaxLen"], apart := false, laid := [("math/bits.deBruijn32tab", laid_math_bits_deBruijn32tab), ("math/bits.deBruijn64tab", laid_math_bits_deBruijn64tab), ("internal/strconv.uint64pow10", laid_internal_strconv_uint64pow10), ("latecomer/unit.words", laid_latecomer_unit_words)] }
def UnitRoundTripSaid : Prop := unitRoundTripRow.holds Tryz.pinned (OpenSpec.ofChange unitRoundTripSpec)

/-- ITS FALSE NEIGHBOUR: 'it returns false'. Refute it at one input. -/
def unitRoundTripWrong : ChangeSpec := { name := "unitRoundTrip", fn := fun _ => fun
  | [d1, d2, d3, d4] => { results := [.lit (.bool false)], args := [d1, d2, d3, d4] }
  | _ => none }
def UnitRoundTripWrongFalsely : Prop := unitRoundTripRow.holds Tryz.pinned (OpenSpec.ofChange unitRoundTripWrong)

/-- 'latecomerlaw05.UnitReadAgain': WHATEVER THE INPUT: true; the input reads as it did. -/
def unitReadAgainSpec : ChangeSpec := { name := "unitReadAgain", fn := fun _ => fun
  | [d1, d2, d3, d4] => { results := [.lit (.bool true)], args := [d1, d2, d3, d4] }
  | _ => none }
def unitReadAgainRow : OpenClaim := { program := "ytcglcgphgahnpaagreatdoor", sum := "ce2f5db64b37347586a8de49150624f7f125de1ad9fefe514c7155ee856a7dd6", func := "latecomer/latecomerlaw05.UnitReadAgain", spec := "unitReadAgain", inPlace := ["internal/bytealg.IndexByteString", "internal/bytealg.IndexString"], unfollowed := true, recurses := true, named := ["internal/strconv.uint64pow10", "math/bits.deBruijn32tab", "math/bits.deBruijn64tab", "latecomer/unit.words", "internal/bytealg.MaxLen"], apart := false, laid := [("math/bits.deBruijn32tab", laid_math_bits_deBruijn32tab), ("math/bits.deBruijn64tab", laid_math_bits_deBruijn64tab), ("internal/strconv.uint64pow10", laid_internal_strconv_uint64pow10), ("latecomer/unit.words", laid_latecomer_unit_words)] }
def UnitReadAgainSaid : Prop := unitReadAgainRow.holds Tryz.pinned (OpenSpec.ofChange unitReadAgainSpec)

/-- ITS FALSE NEIGHBOUR: 'it returns false'. Refute it at one input. -/
def unitReadAgainWrong : ChangeSpec := { name := "unitReadAgain", fn := fun _ => fun
  | [d1, d2, d3, d4] => { results := [.lit (.bool false)], args := [d1, d2, d3, d4] }
  | _ => none }
def UnitReadAgainWrongFalsely : Prop := unitReadAgainRow.holds Tryz.pinned (OpenSpec.ofChange unitReadAgainWrong)

/- THE SECOND FORM. 'bulk': how many values and letters a reading holds, each counted each time it is reached (what is shared counts as often as it is met; a slice's spare places count too). A statement '..UptoSaid' is the law's where the arguments, and the package variables that the reading takes, are together of bulk at most 1048576: NARROWER than '..Said'. Prove '..Said' where nothing that the law and all that it calls make is longer than what came in: it says more and counts as full. Else prove '..UptoSaid'. A law counts once. -/
mutual
def uptoBulk {H : Type} : DataW H → Nat
  | .lit (.string bytes) => bytes.length + 1
  | .lit _ => 1
  | .nil => 1
  | .ptr d => uptoBulk d + 1
  | .slice elems spare => uptoBulkAll elems + uptoBulkAll spare + 1
  | .agg parts => uptoBulkAll parts + 1
  | .iface _ d => uptoBulk d + 1
  | .map entries => uptoBulkEntries entries + 1
  | .held _ => 1
def uptoBulkAll {H : Type} : List (DataW H) → Nat
  | [] => 0
  | d :: r => uptoBulk d + uptoBulkAll r
def uptoBulkEntries {H : Type} : List (Lit × DataW H) → Nat
  | [] => 0
  | x :: r => uptoBulkEntry x + uptoBulkEntries r
def uptoBulkEntry {H : Type} : Lit × DataW H → Nat
  | (.string bytes, d) => bytes.length + uptoBulk d + 1
  | (_, d) => uptoBulk d + 1
 end
def uptoSmall : (H : Type) → List (DataW H) → Bool := fun _ ds => decide (uptoBulkAll ds ≤ 1048576)
def OpenSpec.upto (s : _root_.Go.ChangeSpec) : _root_.Go.OpenSpec := { _root_.Go.OpenSpec.ofChange s with cond := some uptoSmall }

/-- 'latecomerlaw05.UnitMatchesReference', WHERE WHAT IT READS IS OF BULK AT MOST 1048576: true; the input reads as it did. -/
def unitMatchesReferenceUptoRow : OpenClaim := { program := "ytcglcgphgahnpaagreatdoor", sum := "ce2f5db64b37347586a8de49150624f7f125de1ad9fefe514c7155ee856a7dd6", func := "latecomer/latecomerlaw05.UnitMatchesReference", spec := "unitMatchesReference", inPlace := ["internal/bytealg.IndexByteString", "internal/bytealg.IndexString"], unfollowed := true, recurses := true, named := ["internal/strconv.uint64pow10", "math/bits.deBruijn32tab", "math/bits.deBruijn64tab", "latecomer/unit.words", "internal/bytealg.MaxLen"], apart := false, laid := [("math/bits.deBruijn32tab", laid_math_bits_deBruijn32tab), ("math/bits.deBruijn64tab", laid_math_bits_deBruijn64tab), ("internal/strconv.uint64pow10", laid_internal_strconv_uint64pow10), ("latecomer/unit.words", laid_latecomer_unit_words)], narrowed := true }
def UnitMatchesReferenceUptoSaid : Prop := unitMatchesReferenceUptoRow.holds Tryz.pinned (OpenSpec.upto unitMatchesReferenceSpec)

/-- 'latecomerlaw05.UnitTextMatchesReference', WHERE WHAT IT READS IS OF BULK AT MOST 1048576: true; the input reads as it did. -/
def unitTextMatchesReferenceUptoRow : OpenClaim := { program := "ytcglcgphgahnpaagreatdoor", sum := "ce2f5db64b37347586a8de49150624f7f125de1ad9fefe514c7155ee856a7dd6", func := "latecomer/latecomerlaw05.UnitTextMatchesReference", spec := "unitTextMatchesReference", inPlace := ["internal/bytealg.IndexByteString", "internal/bytealg.IndexString"], unfollowed := true, recurses := true, named := ["internal/strconv.uint64pow10", "math/bits.deBruijn32tab", "math/bits.deBruijn64tab", "latecomer/unit.words", "internal/bytealg.MaxLen"], apart := false, laid := [("math/bits.deBruijn32tab", laid_math_bits_deBruijn32tab), ("math/bits.deBruijn64tab", laid_math_bits_deBruijn64tab), ("internal/strconv.uint64pow10", laid_internal_strconv_uint64pow10), ("latecomer/unit.words", laid_latecomer_unit_words)], narrowed := true }
def UnitTextMatchesReferenceUptoSaid : Prop := unitTextMatchesReferenceUptoRow.holds Tryz.pinned (OpenSpec.upto unitTextMatchesReferenceSpec)

/-- 'latecomerlaw05.UnitField', WHERE WHAT IT READS IS OF BULK AT MOST 1048576: true; the input reads as it did. -/
def unitFieldUptoRow : OpenClaim := { program := "ytcglcgphgahnpaagreatdoor", sum := "ce2f5db64b37347586a8de49150624f7f125de1ad9fefe514c7155ee856a7dd6", func := "latecomer/latecomerlaw05.UnitField", spec := "unitField", inPlace := ["internal/bytealg.IndexByteString", "internal/bytealg.IndexString"], unfollowed := true, recurses := true, named := ["internal/strconv.uint64pow10", "math/bits.deBruijn32tab", "math/bits.deBruijn64tab", "latecomer/unit.words", "internal/bytealg.MaxLen"], apart := false, laid := [("math/bits.deBruijn32tab", laid_math_bits_deBruijn32tab), ("math/bits.deBruijn64tab", laid_math_bits_deBruijn64tab), ("internal/strconv.uint64pow10", laid_internal_strconv_uint64pow10), ("latecomer/unit.words", laid_latecomer_unit_words)], narrowed := true }
def UnitFieldUptoSaid : Prop := unitFieldUptoRow.holds Tryz.pinned (OpenSpec.upto unitFieldSpec)

/-- 'latecomerlaw05.UnitDimensions', WHERE WHAT IT READS IS OF BULK AT MOST 1048576: true; the input reads as it did. -/
def unitDimensionsUptoRow : OpenClaim := { program := "ytcglcgphgahnpaagreatdoor", sum := "ce2f5db64b37347586a8de49150624f7f125de1ad9fefe514c7155ee856a7dd6", func := "latecomer/latecomerlaw05.UnitDimensions", spec := "unitDimensions", inPlace := ["internal/bytealg.IndexByteString", "internal/bytealg.IndexString"], unfollowed := true, recurses := true, named := ["internal/strconv.uint64pow10", "math/bits.deBruijn32tab", "math/bits.deBruijn64tab", "latecomer/unit.words", "internal/bytealg.MaxLen"], apart := false, laid := [("math/bits.deBruijn32tab", laid_math_bits_deBruijn32tab), ("math/bits.deBruijn64tab", laid_math_bits_deBruijn64tab), ("internal/strconv.uint64pow10", laid_internal_strconv_uint64pow10), ("latecomer/unit.words", laid_latecomer_unit_words)], narrowed := true }
def UnitDimensionsUptoSaid : Prop := unitDimensionsUptoRow.holds Tryz.pinned (OpenSpec.upto unitDimensionsSpec)

/-- 'latecomerlaw05.UnitOrder', WHERE WHAT IT READS IS OF BULK AT MOST 1048576: true; the input reads as it did. -/
def unitOrderUptoRow : OpenClaim := { program := "ytcglcgphgahnpaagreatdoor", sum := "ce2f5db64b37347586a8de49150624f7f125de1ad9fefe514c7155ee856a7dd6", func := "latecomer/latecomerlaw05.UnitOrder", spec := "unitOrder", inPlace := ["internal/bytealg.IndexByteString", "internal/bytealg.IndexString"], unfollowed := true, recurses := true, named := ["internal/strconv.uint64pow10", "math/bits.deBruijn32tab", "math/bits.deBruijn64tab", "latecomer/unit.words", "internal/bytealg.MaxLen"], apart := false, laid := [("math/bits.deBruijn32tab", laid_math_bits_deBruijn32tab), ("math/bits.deBruijn64tab", laid_math_bits_deBruijn64tab), ("internal/strconv.uint64pow10", laid_internal_strconv_uint64pow10), ("latecomer/unit.words", laid_latecomer_unit_words)], narrowed := true }
def UnitOrderUptoSaid : Prop := unitOrderUptoRow.holds Tryz.pinned (OpenSpec.upto unitOrderSpec)

/-- 'latecomerlaw05.UnitRoundTrip', WHERE WHAT IT READS IS OF BULK AT MOST 1048576: true; the input reads as it did. -/
def unitRoundTripUptoRow : OpenClaim := { program := "ytcglcgphgahnpaagreatdoor", sum := "ce2f5db64b37347586a8de49150624f7f125de1ad9fefe514c7155ee856a7dd6", func := "latecomer/latecomerlaw05.UnitRoundTrip", spec := "unitRoundTrip", inPlace := ["internal/bytealg.IndexByteString", "internal/bytealg.IndexString"], unfollowed := true, recurses := true, named := ["internal/strconv.uint64pow10", "math/bits.deBruijn32tab", "math/bits.deBruijn64tab", "latecomer/unit.words", "internal/bytealg.MaxLen"], apart := false, laid := [("math/bits.deBruijn32tab", laid_math_bits_deBruijn32tab), ("math/bits.deBruijn64tab", laid_math_bits_deBruijn64tab), ("internal/strconv.uint64pow10", laid_internal_strconv_uint64pow10), ("latecomer/unit.words", laid_latecomer_unit_words)], narrowed := true }
def UnitRoundTripUptoSaid : Prop := unitRoundTripUptoRow.holds Tryz.pinned (OpenSpec.upto unitRoundTripSpec)

/-- 'latecomerlaw05.UnitReadAgain', WHERE WHAT IT READS IS OF BULK AT MOST 1048576: true; the input reads as it did. -/
def unitReadAgainUptoRow : OpenClaim := { program := "ytcglcgphgahnpaagreatdoor", sum := "ce2f5db64b37347586a8de49150624f7f125de1ad9fefe514c7155ee856a7dd6", func := "latecomer/latecomerlaw05.UnitReadAgain", spec := "unitReadAgain", inPlace := ["internal/bytealg.IndexByteString", "internal/bytealg.IndexString"], unfollowed := true, recurses := true, named := ["internal/strconv.uint64pow10", "math/bits.deBruijn32tab", "math/bits.deBruijn64tab", "latecomer/unit.words", "internal/bytealg.MaxLen"], apart := false, laid := [("math/bits.deBruijn32tab", laid_math_bits_deBruijn32tab), ("math/bits.deBruijn64tab", laid_math_bits_deBruijn64tab), ("internal/strconv.uint64pow10", laid_internal_strconv_uint64pow10), ("latecomer/unit.words", laid_latecomer_unit_words)], narrowed := true }
def UnitReadAgainUptoSaid : Prop := unitReadAgainUptoRow.holds Tryz.pinned (OpenSpec.upto unitReadAgainSpec)

end Rows
end Go.Proofs.YtcglcgphgahnpaaGreatDoor
