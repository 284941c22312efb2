/-
  The package-level variables of layer 9's rows: what the rows list of them, read as the calls need it; worlds for the witnesses.
-/
import Derived.Test.YtnpfhcnjkekhbaaGreatDoorCards
import Derived.Test.YtnpfhcnjkekhbaaGreatDoorTie
import Derived.Test.YtnpfhcnjkekhbaaGreatDoorProg
import Derived.Test.YtnpfhcnjkekhbaaGreatDoorK05
import Derived.Test.YtnpfhcnjkekhbaaGreatDoorK20
import Derived.Lib.LaidTab
import Derived.Stop.LaidErr
import Derived.Lay
import Derived.OpenShut
import Derived.ProofKit
import Derived.ShutString
import Derived.Deep.DeepHandedRow
import Derived.Deep.Strs
import Derived.Carry
import Derived.Laws.Rows
import Derived.Laws.OwnMore
import Derived.OwnWalk
import Derived.WalkKit
import Derived.WalkLawsBesides
import Derived.Outline
import Derived.Lib.Hide
import Derived.Below
import Derived.BigQuiet
import Derived.Deep.QuietTactic
import Derived.RangeFuncBox
import Derived.Lib.ConvBytes
import Derived.Lib.SlBytesRow
import Derived.DefersIn
import Derived.Laws.CopyOwn
import Derived.RegionTactic
import Derived.ChangeAlike
import Derived.Deep.RegionWith
import Derived.Deep.CutRange
import Derived.Deep.DeepCutAuto
import Derived.Deep.RegionHeld3
import Derived.IntWalk
import Derived.Lib.EndianBits
import Derived.Lib.Strings
import Derived.Shelf.Abstract
import Derived.LoopNIn
import Derived.LoopIn
import Derived.OwnWalkIn
import Derived.ControlIn
import Derived.WalkMore
import Derived.TacticsInMore
import Derived.Lib.SliceRun
import Derived.RangeFuncNested
import Derived.RangeFuncBound
import Derived.RangeFuncCalls
import Derived.RangeFuncLeaves
import Derived.RangeFuncRecord
set_option maxRecDepth 100000
set_option maxHeartbeats 16000000
namespace Go.Proofs.YtnpfhcnjkekhbaaGreatDoor
open Go Go.Proofs Go.ChangeShapes Go.WideShapes Go.ChangeAt Go.RowKit
theorem own : ownKnob Tryz.prog.godebug = none := by kernel_rfl
theorem gTab : Tryz.prog.globalNamed "latecomer/clock.linkedKinds" = some 0 := by kernel_rfl
theorem gTabType : (Tryz.prog.globals[(0 : Nat)]?).map (·.type) = some 121 := by kernel_rfl
theorem cells18 : Tryz.prog.cellsOf 121 = 18 := by kernel_rfl
theorem cells3 : Tryz.prog.cellsOf 120 = 3 := by kernel_rfl
theorem cells1 : Tryz.prog.cellsOf 3 = 1 := by kernel_rfl
theorem gTabK : Tryz.prog.globalNamed "latecomer/digest.roundWords" = some 1 := by kernel_rfl
theorem gTabTypeK : (Tryz.prog.globals[(1 : Nat)]?).map (·.type) = some 151 := by kernel_rfl
theorem cells64 : Tryz.prog.cellsOf 151 = 64 := by kernel_rfl
theorem cells1K : Tryz.prog.cellsOf 123 = 1 := by kernel_rfl
def laidS : List (String × DataW Unit) := [("latecomer/digest.roundWords", Rows.laid_latecomer_digest_roundWords), ("latecomer/clock.linkedKinds", Rows.laid_latecomer_clock_linkedKinds)]
theorem lk_row {H : Type} {enc : TypeId × Value → H} {W : World} {base : Nat} {sp : Nat → Bool} {held : Bool} {fuel : Nat} {cs : List Value} {a b c : Int} {p : List MemPlace}
 (h : DataW.trod enc Tryz.prog W base sp held fuel 120 cs = some (.agg [.lit (.int .i64 a), .lit (.int .i64 b), .lit (.int .i64 c)], p)) : cs = [.int .i64 a, .int .i64 b, .int .i64 c] := by
 obtain ⟨y0, y1, y2, m, hx, hl, h0, h1, h2⟩ := Go.Deep.trod_struct3 Tryz.underlying120 h
 rw [cells3] at hl
 simp only [cells1] at h0 h1 h2
 obtain ⟨n0, e0, z0, _⟩ := DataW.trod_int Tryz.underlying3 h0
 obtain ⟨n1, e1, z1, _⟩ := DataW.trod_int Tryz.underlying3 h1
 obtain ⟨n2, e2, z2, _⟩ := DataW.trod_int Tryz.underlying3 h2
 subst z0 z1 z2
 match cs, hl with
 | [u0, u1, u2], _ =>
  simp at hx e0 e1 e2
  obtain ⟨⟨rfl, rfl, rfl⟩, _⟩ := hx
  subst e0 e1 e2
  rfl
theorem lk_cells {H : Type} {enc : TypeId × Value → H} {W : World} {base : Nat} {sp : Nat → Bool} {held : Bool} {fuel : Nat} {cs : List Value} {p : List MemPlace}
 (h : DataW.trod enc Tryz.prog W base sp held fuel 121 cs = some (Rows.laid_latecomer_clock_linkedKinds, p)) : cs = [.int .i64 2, .int .i64 0, .int .i64 0, .int .i64 3, .int .i64 99, .int .i64 0, .int .i64 4, .int .i64 99, .int .i64 0, .int .i64 5, .int .i64 99, .int .i64 99, .int .i64 6, .int .i64 99, .int .i64 99, .int .i64 7, .int .i64 9, .int .i64 0] := by
 obtain ⟨xs, m, _, hx, hl, hn, hel⟩ := DataW.trod_array Tryz.underlying121 h
 rw [cells18] at hl
 rw [cells3] at hel
 match xs, hn with
 | [⟨d0, p0⟩, ⟨d1, p1⟩, ⟨d2, p2⟩, ⟨d3, p3⟩, ⟨d4, p4⟩, ⟨d5, p5⟩], _ =>
  simp [Rows.laid_latecomer_clock_linkedKinds] at hx
  obtain ⟨⟨rfl, rfl, rfl, rfl, rfl, rfl⟩, _⟩ := hx
  have e0 := lk_row (hel 0 (by decide)); have e1 := lk_row (hel 1 (by decide)); have e2 := lk_row (hel 2 (by decide)); have e3 := lk_row (hel 3 (by decide)); have e4 := lk_row (hel 4 (by decide)); have e5 := lk_row (hel 5 (by decide))
  have hs : cs = (cs.drop (0 * 3)).take 3 ++ ((cs.drop (1 * 3)).take 3 ++ ((cs.drop (2 * 3)).take 3 ++ ((cs.drop (3 * 3)).take 3 ++ ((cs.drop (4 * 3)).take 3 ++ (cs.drop (5 * 3)).take 3)))) := by
   match cs, hl with
   | [_, _, _, _, _, _, _, _, _, _, _, _, _, _, _, _, _, _], _ => rfl
  rw [hs, e0, e1, e2, e3, e4, e5]
  rfl
theorem lk_table {W : World} (h : laidMetH Tryz.prog laidS W) : HasLk W := by
 obtain ⟨ps, ⟨g', t', cs, fuel, p, q, hg', ht', hvar, hd, _, _⟩, _⟩ := laidMet.tail (show laidMet Tryz.prog laidS W from h)
 obtain rfl := Option.some.inj (gTab.symm.trans hg')
 obtain rfl := Option.some.inj (gTabType.symm.trans ht')
 have hcs := lk_cells hd
 intro i hi
 rw [World.var?_cell gTab hvar i, ← Array.getElem?_toList, hcs]
 have h18 : i = 0 ∨ i = 1 ∨ i = 2 ∨ i = 3 ∨ i = 4 ∨ i = 5 ∨ i = 6 ∨ i = 7 ∨ i = 8 ∨ i = 9 ∨ i = 10 ∨ i = 11 ∨ i = 12 ∨ i = 13 ∨ i = 14 ∨ i = 15 ∨ i = 16 ∨ i = 17 := by omega
 rcases h18 with rfl | rfl | rfl | rfl | rfl | rfl | rfl | rfl | rfl | rfl | rfl | rfl | rfl | rfl | rfl | rfl | rfl | rfl <;> rfl
theorem readyS {W : World} (h : laidMetH Tryz.prog laidS W) : Rdy W := ⟨lk_table h, World.block_lt_of_cell? W ⟨0, 0, none⟩ (lk_table h 0 (by decide))⟩
theorem tableK {W : World} (h : laidMetH Tryz.prog laidS W) : HasK W := by
 have h0 : laidMet Tryz.prog laidS W := h
 have hT : Lib.TabIs Tryz.prog W "latecomer/digest.roundWords" .u32 (shaK.map fun n => ((n : Nat) : Int)) :=
  Lib.tabIs_of_head (rest := [("latecomer/clock.linkedKinds", Rows.laid_latecomer_clock_linkedKinds)]) gTabK gTabTypeK Tryz.underlying151 Tryz.underlying123 cells1K cells64 h0
 intro i hi
 have := hT.cell gTabK i hi
 rw [this]
 congr 2
 have hl : i < shaK.length := by simpa [shaK] using hi
 simp [List.getD_eq_getElem?_getD, hl]
theorem readyK {W : World} (h : laidMetH Tryz.prog laidS W) : Ready W := by
 have hk := tableK h
 refine ⟨hk, ?_⟩
 exact World.block_lt_of_cell? W ⟨1, 0, none⟩ (hk 0 (by decide))
theorem int_bounds {n : Int} (h : (Lit.int .i64 n).wf = true) : -9223372036854775808 ≤ n ∧ n ≤ 9223372036854775807 := by
 have := bounds_i64 h
 exact this
theorem laidOut : laidOutB Tryz.prog = true := by kernel_rfl
noncomputable def worldS (os : Os) : World := World.laidAll Tryz.prog os laidS
theorem metS (os : Os) (args : Array Value) : laidMet Tryz.prog laidS ((worldS os).forCall (fun _ _ => 0) ⟨#[], args, []⟩).memory := laidMet_laidAll args (by kernel_rfl) (by kernel_rfl)
end Go.Proofs.YtnpfhcnjkekhbaaGreatDoor
