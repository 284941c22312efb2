/-
  The contract of the reference's Valid of fractions.
-/
import Derived.Test.YtcglcgphgahnpaaGreatDoorProg
import Derived.Test.YtcglcgphgahnpaaGreatDoorK11
import Derived.Lib.ConvBytes
import Derived.Lib.SlBytesRow
import Derived.Laws.Rows
import Derived.Below
import Derived.OwnWalk
import Derived.OwnWalkIn
import Derived.BigQuiet
import Derived.IntWalk
import Derived.RegionTactic
import Derived.Deep.RegionLaw
import Derived.Deep.RegionWith
import Derived.Deep.RegionHeld3
import Derived.Deep.QuietTactic
import Derived.Shelf.Abstract
import Derived.Laws.AppendOwn
import Derived.WalkKit
import Derived.WalkLawsBesides
import Derived.Outline
import Derived.Lib.Hide
import Derived.Laws.MakeOwn
set_option maxRecDepth 100000
set_option maxHeartbeats 16000000
namespace Go.Proofs.YtcglcgphgahnpaaGreatDoor
open Go Go.Proofs Go.RowKit Go.Lib
theorem sgZ_pos (x : Int) : decide (sgZ x 0 ≤ 0) = decide (¬ 0 < x) := by
 unfold sgZ
 split
 · exact decide_eq_decide.2 (by omega)
 · split <;> exact decide_eq_decide.2 (by omega)
theorem validR4_any (n d : ByteArray) (hn : n.size ≤ 1099511627776) (hd : d.size ≤ 1099511627776) (w : World) :
 Calls Tryz.prog 86 #[.agg #[.string n, .string d]] w fun e w' => e = .returned (.bool (validQ n d)) ∧ Below w.heap.size w w' := by
 obtain ⟨W0, hW0, b0, hcd⟩ := box_one w n d
 have hcc := fun W b => And.intro (hcd W b).1 (hcd W b).2.1
 have va := fun W => valid_any n hn W
 have vb := fun W => valid_any d hd W
 have cm := fun W => cmpR_any d ⟨#[48]⟩ hd (by decide) W
 have cg := fun W => gcdR_any n d hn hd W
 obtain ⟨ca, cb⟩ := hcc W0 (Below.refl _ _)
 have HW := Lib.hid hW0; have HC := Lib.hid hcc; have B0 := Lib.hid b0
 have P0 := Lib.hid (Below.refl W0.heap.size W0)
 cases h1 : validB n with
 | false =>
  have hv : validQ n d = false := by unfold validQ; rw [h1]; rfl
  rw [hv]
  rw [h1] at va
  have VA := Lib.hid va; have VB := Lib.hid vb
  clear va vb cm cg h1 hv hW0 hcc hcd b0
  go_enter Tryz.func86, Tryz.ntmps86
  go_wp2_with (rw [HW.out])
  refine (VA.out _).mono ?_
  rintro e w1 ⟨rfl, rfl⟩
  go_wp2_with fail
  refine (VB.out _).mono ?_
  rintro e w2 ⟨rfl, rfl⟩
  go_wp2
  go_ret
  exact ⟨rfl, B0.out⟩
 | true =>
  cases h2 : validB d with
  | false =>
   have hv : validQ n d = false := by unfold validQ; rw [h1, h2]; rfl
   rw [hv]
   rw [h1] at va
   rw [h2] at vb
   have VA := Lib.hid va; have VB := Lib.hid vb
   clear va vb cm cg h1 h2 hv hW0 hcc hcd b0
   go_enter Tryz.func86, Tryz.ntmps86
   go_wp2_with (rw [HW.out])
   refine (VA.out _).mono ?_
   rintro e w1 ⟨rfl, rfl⟩
   go_wp2_with fail
   refine (VB.out _).mono ?_
   rintro e w2 ⟨rfl, rfl⟩
   go_wp2
   go_ret
   exact ⟨rfl, B0.out⟩
  | true =>
   rw [cmp_zero h2] at cm
   have hsg := sgZ_pos (numB d)
   obtain ⟨hgz, hgt⟩ := gcd_one h1 h2
   rw [hgz] at cg
   rw [h1] at va
   rw [h2] at vb
   by_cases h3 : 0 < numB d
   · have hsg2 : decide (sgZ (numB d) 0 ≤ 0) = false := by rw [hsg]; simpa using h3
     have hv : validQ n d = decide (opT gcdI n d = ⟨#[49]⟩) := by
      unfold validQ; rw [h1, h2, decide_eq_true h3]
      simp only [Bool.true_and]
      exact decide_eq_decide.2 hgt.symm
     rw [hv]
     generalize sgZ (numB d) 0 = z at *
     generalize opT gcdI n d = G at *
     have hge : (G.toList == (⟨#[49]⟩ : ByteArray).toList) = decide (G = ⟨#[49]⟩) := by rw [str_eq_iff]
     obtain ⟨r, hr⟩ : ∃ r, decide (G = ⟨#[49]⟩) = r := ⟨_, rfl⟩
     rw [hr] at hge ⊢
     have hge2 : (G.toList == [49]) = r := by rw [← list49]; exact hge
     have VA := Lib.hid va; have VB := Lib.hid vb; have CM := Lib.hid cm; have CG := Lib.hid cg
     clear va vb cm cg h1 h2 h3 hv hW0 hcc hcd b0 hgz hgt hr hsg
     go_enter Tryz.func86, Tryz.ntmps86
     go_wp2_with (rw [HW.out])
     refine (VA.out _).mono ?_
     rintro e w1 ⟨rfl, rfl⟩
     go_wp2_with fail
     refine (VB.out _).mono ?_
     rintro e w2 ⟨rfl, rfl⟩
     go_wp2_with fail
     refine (CM.out _).mono ?_
     rintro e w3 ⟨rfl, b3⟩
     have P1 := Lib.hid (below_up P0.out b3)
     obtain ⟨ca1, cb1⟩ := HC.out _ P1.out
     clear b3 P0 ca cb
     go_wp2_with fail
     refine (CG.out _).mono ?_
     rintro e w4 ⟨rfl, b4⟩
     have P2 := Lib.hid (below_up P1.out b4)
     clear b4 P1
     go_wp2
     go_ret
     exact ⟨rfl, below_up B0.out P2.out⟩
   · have hsg2 : decide (sgZ (numB d) 0 ≤ 0) = true := by rw [hsg]; simpa using h3
     have hv : validQ n d = false := by unfold validQ; rw [h1, h2, decide_eq_false h3]; rfl
     rw [hv]
     generalize sgZ (numB d) 0 = z at *
     have VA := Lib.hid va; have VB := Lib.hid vb; have CM := Lib.hid cm
     clear va vb cm cg h1 h2 h3 hv hW0 hcc hcd b0 hgz hgt hsg
     go_enter Tryz.func86, Tryz.ntmps86
     go_wp2_with (rw [HW.out])
     refine (VA.out _).mono ?_
     rintro e w1 ⟨rfl, rfl⟩
     go_wp2_with fail
     refine (VB.out _).mono ?_
     rintro e w2 ⟨rfl, rfl⟩
     go_wp2_with fail
     refine (CM.out _).mono ?_
     rintro e w3 ⟨rfl, b3⟩
     have P1 := Lib.hid (below_up P0.out b3)
     clear b3 P0 ca cb
     go_wp2
     go_ret
     exact ⟨rfl, below_up B0.out P1.out⟩
end Go.Proofs.YtcglcgphgahnpaaGreatDoor
