/-
  The contracts of the reference's power, grid, Down, Up and Print; powers of ten as texts.
-/
import Derived.Test.YtcglcgphgahnpaaGreatDoorProg
import Derived.Test.YtcglcgphgahnpaaGreatDoorK27
import Derived.Lib.ConvBytes
import Derived.Lib.SlBytesRow
import Derived.Laws.Rows
import Derived.Below
import Derived.OwnWalk
import Derived.OwnWalkIn
import Derived.BigQuiet
import Derived.IntWalk
import Derived.RegionTactic
import Derived.Deep.RegionLaw
import Derived.Deep.RegionWith
import Derived.Deep.RegionHeld3
import Derived.Deep.QuietTactic
import Derived.Shelf.Abstract
import Derived.Laws.AppendOwn
import Derived.WalkKit
import Derived.WalkLawsBesides
import Derived.Outline
import Derived.Lib.Hide
import Derived.Laws.MakeOwn
set_option maxRecDepth 100000
set_option maxHeartbeats 16000000
namespace Go.Proofs.YtcglcgphgahnpaaGreatDoor
open Go Go.Proofs Go.RowKit Go.Lib
theorem printR4_any (n d : ByteArray) (hn : n.size ≤ 1099511627776) (hd : d.size ≤ 1099511627776) (w : World) :
 Calls Tryz.prog 67 #[.agg #[.string n, .string d]] w fun e w' => e = .returned (.string (printB n d)) ∧ Below w.heap.size w w' := by
 obtain ⟨W0, hW0, b0, hcc⟩ := box_one w n d
 have HW := Lib.hid hW0; have HC := Lib.hid hcc; have B0 := Lib.hid b0
 have P0 := Lib.hid (Below.refl W0.heap.size W0)
 clear hW0 hcc b0
 have va := fun W => validR4_any n d hn hd W
 unfold printB
 have h1 : (d.toList == (⟨#[49]⟩ : ByteArray).toList) = decide (d = ⟨#[49]⟩) := by rw [str_eq_iff]
 rw [list49] at h1
 cases hv : validQ n d with
 | false =>
  rw [hv] at va
  rw [if_neg (by decide)]
  have VA := Lib.hid va
  clear va hv h1
  go_enter Tryz.func67, Tryz.ntmps67
  obtain ⟨ca0, cb0, cc0, cd0⟩ := HC.out _ (Below.refl _ _)
  go_wp2_with (rw [HW.out])
  refine (VA.out _).mono ?_
  rintro e w1 ⟨rfl, b1⟩
  have P1 := Lib.hid (below_up P0.out b1)
  obtain ⟨ca1, cb1, cc1, cd1⟩ := HC.out _ P1.out
  clear b1 P0 ca0 cb0 cc0 cd0 
  go_wp2
  go_ret
  exact ⟨rfl, below_up B0.out P1.out⟩
 | true =>
  rw [hv] at va
  rw [if_pos rfl]
  obtain ⟨v1, v2, _, _⟩ := validQ_parts hv
  have l1 := len_le v1
  have l2 := len_le v2
  have VA := Lib.hid va
  clear va hv v1 v2 hn hd
  by_cases hd1 : d = ⟨#[49]⟩
  · rw [decide_eq_true hd1] at h1
    rw [if_pos hd1]
    clear hd1
    go_enter Tryz.func67, Tryz.ntmps67
    obtain ⟨ca0, cb0, cc0, cd0⟩ := HC.out _ (Below.refl _ _)
    go_wp2_with (rw [HW.out])
    refine (VA.out _).mono ?_
    rintro e w1 ⟨rfl, b1⟩
    have P1 := Lib.hid (below_up P0.out b1)
    obtain ⟨ca1, cb1, cc1, cd1⟩ := HC.out _ P1.out
    clear b1 P0 ca0 cb0 cc0 cd0 
    go_wp2
    go_ret
    exact ⟨rfl, below_up B0.out P1.out⟩
  · rw [decide_eq_false hd1] at h1
    rw [if_neg hd1]
    clear hd1
    go_enter Tryz.func67, Tryz.ntmps67
    obtain ⟨ca0, cb0, cc0, cd0⟩ := HC.out _ (Below.refl _ _)
    go_wp2_with (rw [HW.out])
    refine (VA.out _).mono ?_
    rintro e w1 ⟨rfl, b1⟩
    have P1 := Lib.hid (below_up P0.out b1)
    obtain ⟨ca1, cb1, cc1, cd1⟩ := HC.out _ P1.out
    clear b1 P0 ca0 cb0 cc0 cd0 
    go_wp2
    go_ret
    exact ⟨rfl, below_up B0.out P1.out⟩
end Go.Proofs.YtcglcgphgahnpaaGreatDoor
