/-
  The package-level variables of layer 3's rows: what the rows list of them, read as the calls need it; worlds for the witnesses.
-/
import Derived.Test.YtildgpahacaglaaGreatDoorCards
import Derived.Test.YtildgpahacaglaaGreatDoorTie
import Derived.Test.YtildgpahacaglaaGreatDoorGint
import Derived.ProofKit
import Derived.OpenShut
import Derived.ShutString
import Derived.Deep.DeepHandedRow
import Derived.Lib.LaidTab
import Derived.Stop.LaidErr
import Derived.Lay
namespace Go.Proofs.YtildgpahacaglaaGreatDoor
open Go.ChangeShapes Go.WideShapes Go.ChangeAt Go.RowKit

theorem own : ownKnob Tryz.prog.godebug = none := by kernel_rfl
theorem gPow : Tryz.prog.globalNamed "internal/strconv.uint64pow10" = some 2 := by kernel_rfl
theorem gPowType : (Tryz.prog.globals[(2 : Nat)]?).map (·.type) = some 121 := by kernel_rfl
theorem cells20 : Tryz.prog.cellsOf 121 = 20 := by kernel_rfl
theorem cells1 : Tryz.prog.cellsOf 101 = 1 := by kernel_rfl
theorem gErr : Tryz.prog.globalNamed "strconv.ErrRange" = some 1 := by kernel_rfl
theorem gErrType : (Tryz.prog.globals[(1 : Nat)]?).map (·.type) = some 62 := by kernel_rfl
def laid3 : List (String × DataW Unit) := [("math/bits.deBruijn32tab", Rows.laid_math_bits_deBruijn32tab), ("math/bits.deBruijn64tab", Rows.laid_math_bits_deBruijn64tab), ("internal/strconv.uint64pow10", Rows.laid_internal_strconv_uint64pow10)]
def laid5 : List (String × DataW Unit) := [("math/bits.deBruijn32tab", Rows.laid_math_bits_deBruijn32tab), ("math/bits.deBruijn64tab", Rows.laid_math_bits_deBruijn64tab), ("internal/strconv.uint64pow10", Rows.laid_internal_strconv_uint64pow10), ("strconv.ErrRange", Rows.laid_strconv_ErrRange), ("strconv.ErrSyntax", Rows.laid_strconv_ErrSyntax)]

theorem ready3 {W : World} (h : laidMetH Tryz.prog laid3 W) : Ready W := by
  have h0 : laidMet Tryz.prog laid3 W := h
  exact Lib.tabIs_of_head (rest := []) gPow gPowType Tryz.underlying121 Tryz.underlying101 cells1 cells20 (laidMet.tail (laidMet.tail h0))
theorem ready5 {W : World} (h : laidMetH Tryz.prog laid5 W) : Ready W := by
  have h0 : laidMet Tryz.prog laid5 W := h
  exact Lib.tabIs_of_head (rest := [("strconv.ErrRange", Rows.laid_strconv_ErrRange), ("strconv.ErrSyntax", Rows.laid_strconv_ErrSyntax)]) gPow gPowType Tryz.underlying121 Tryz.underlying101 cells1 cells20 (laidMet.tail (laidMet.tail h0))
theorem star_err : "*" ++ "errors.errorString" = "*errors.errorString" := by decide
theorem row_err (u : TypeId) (h : Tryz.prog.typeName? 3 u = some "*errors.errorString") : u = 116 :=
  typeName_ptr_named (nm := "errors.errorString") (by rw [star_err]; kernel_rfl) (by kernel_rfl) (by decide) u (by rw [star_err]; exact h)
theorem cellsE : Tryz.prog.cellsOf 118 = 1 := by kernel_rfl
theorem cellsS : Tryz.prog.cellsOf 9 = 1 := by kernel_rfl
theorem err5 {W : World} (h : laidMetH Tryz.prog laid5 W) : ErrR W := by
  have h0 : laidMet Tryz.prog laid5 W := h
  obtain ⟨a, _, hv, _, _, _⟩ := laid_sentinel (n := "strconv.ErrRange") (r := [("strconv.ErrSyntax", Rows.laid_strconv_ErrSyntax)]) (laidMet.tail (laidMet.tail (laidMet.tail h0))) gErr gErrType Tryz.underlying62 row_err Tryz.underlying116 Tryz.underlying118 rfl rfl Tryz.underlying9 cellsE cellsS
  exact ⟨_, _, hv⟩

theorem int_bounds {n : Int} (h : (Lit.int .i64 n).wf = true) : -9223372036854775808 ≤ n ∧ n ≤ 9223372036854775807 := by
  have := bounds_i64 h
  exact this

/-- Worlds for the witnesses: the settled ones, the variables laid as their initialisers lay them. -/
noncomputable def world3 (os : Os) : World := World.laidAll Tryz.prog os laid3
noncomputable def world5 (os : Os) : World := World.laidAll Tryz.prog os laid5
theorem met3 (os : Os) (args : Array Value) : laidMet Tryz.prog laid3 ((world3 os).forCall (fun _ _ => 0) ⟨#[], args, []⟩).memory := laidMet_laidAll args (by kernel_rfl) (by kernel_rfl)
theorem met5 (os : Os) (args : Array Value) : laidMet Tryz.prog laid5 ((world5 os).forCall (fun _ _ => 0) ⟨#[], args, []⟩).memory := laidMet_laidAll args (by kernel_rfl) (by kernel_rfl)
end Go.Proofs.YtildgpahacaglaaGreatDoor
