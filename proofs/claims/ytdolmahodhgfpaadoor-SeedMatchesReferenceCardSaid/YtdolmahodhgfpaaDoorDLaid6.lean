/-
  The package-level variable of layer 6's rows: what the rows list of it, read as its sixty-four cells; worlds for the witnesses. (Not built over the toy: only a seat has the rows' lists.)
-/
import Derived.Test.YtdolmahodhgfpaaDoorCards
import Derived.Test.YtdolmahodhgfpaaDoorTie
import Derived.Test.YtdolmahodhgfpaaDoorOpenI
import Derived.Test.YtdolmahodhgfpaaDoorHash
import Derived.Lib.LaidTab
import Derived.Lay
namespace Go.Proofs.YtdolmahodhgfpaaDoor
open Go Go.Proofs Go.ChangeShapes Go.WideShapes Go.ChangeAt Go.RowKit

theorem own : ownKnob Tryd.prog.godebug = none := by kernel_rfl
theorem gTab : Tryd.prog.globalNamed "latecomer/digest.roundWords" = some 0 := by kernel_rfl
theorem gTabType : (Tryd.prog.globals[(0 : Nat)]?).map (·.type) = some 85 := by kernel_rfl
theorem cells64 : Tryd.prog.cellsOf 85 = 64 := by kernel_rfl
theorem cells1 : Tryd.prog.cellsOf 70 = 1 := by kernel_rfl
def laidS : List (String × DataW Unit) := [("latecomer/digest.roundWords", Rows.laid_latecomer_digest_roundWords)]
theorem tableS {W : World} (h : laidMetH Tryd.prog laidS W) : HasK W := by
  have hT : Lib.TabIs Tryd.prog W "latecomer/digest.roundWords" .u32 (shaK.map fun n => ((n : Nat) : Int)) :=
    Lib.tabIs_of_head (rest := []) gTab gTabType Tryd.underlying85 Tryd.underlying70 cells1 cells64 h
  intro i hi
  have := hT.cell gTab i hi
  rw [this]
  congr 2
  have hl : i < shaK.length := by simpa [shaK] using hi
  simp [List.getD_eq_getElem?_getD, hl]
theorem readyS {W : World} (h : laidMetH Tryd.prog laidS W) : Ready W := by
  have hk := tableS h
  refine ⟨hk, ?_⟩
  have := hk 0 (by decide)
  exact block_of_cell6 this
theorem int_bounds {n : Int} (h : (Lit.int .i64 n).wf = true) : -9223372036854775808 ≤ n ∧ n ≤ 9223372036854775807 := int_bounds6 h
theorem laidOut : laidOutB Tryd.prog = true := by kernel_rfl
noncomputable def worldS (os : Os) : World := World.laidAll Tryd.prog os laidS
theorem metS (os : Os) (args : Array Value) : laidMet Tryd.prog laidS ((worldS os).forCall (fun _ _ => 0) ⟨#[], args, []⟩).memory := laidMet_laidAll args (by kernel_rfl) (by kernel_rfl)
end Go.Proofs.YtdolmahodhgfpaaDoor
