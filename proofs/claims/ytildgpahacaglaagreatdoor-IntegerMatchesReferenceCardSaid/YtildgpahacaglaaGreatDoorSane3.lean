/-
  The contract of the statements' helper sane of layer 3.
-/
import Derived.Test.YtildgpahacaglaaGreatDoorGint
import Derived.Test.YtildgpahacaglaaGreatDoorMade
namespace Go.Proofs.YtildgpahacaglaaGreatDoor
open Go Go.Proofs Go.RowKit Go.Lib

theorem ex1 : opT (· + ·) ⟨#[57, 57, 57]⟩ ⟨#[49]⟩ = ⟨#[49, 48, 48, 48]⟩ ∧ opZ (· + ·) ⟨#[57, 57, 57]⟩ ⟨#[49]⟩ = 0 := by decide +kernel
theorem ex2 : opT (· - ·) ⟨#[49]⟩ ⟨#[49, 48, 48, 48]⟩ = ⟨#[45, 57, 57, 57]⟩ ∧ opZ (· - ·) ⟨#[49]⟩ ⟨#[49, 48, 48, 48]⟩ = 0 := by decide +kernel
theorem ex3 : opT (· * ·) ⟨#[45, 49, 50]⟩ ⟨#[49, 50]⟩ = ⟨#[45, 49, 52, 52]⟩ ∧ opZ (· * ·) ⟨#[45, 49, 50]⟩ ⟨#[49, 50]⟩ = 0 := by decide +kernel
theorem ex4 : divQ ⟨#[45, 55]⟩ ⟨#[50]⟩ = ⟨#[45, 52]⟩ ∧ divR ⟨#[45, 55]⟩ ⟨#[50]⟩ = ⟨#[49]⟩ ∧ divZ ⟨#[45, 55]⟩ ⟨#[50]⟩ = 0 := by decide +kernel
theorem ex5 : divQ ⟨#[45, 55]⟩ ⟨#[45, 50]⟩ = ⟨#[52]⟩ ∧ divR ⟨#[45, 55]⟩ ⟨#[45, 50]⟩ = ⟨#[49]⟩ ∧ divZ ⟨#[45, 55]⟩ ⟨#[45, 50]⟩ = 0 := by decide +kernel
theorem ex6 : opT gcdI ⟨#[49, 50]⟩ ⟨#[45, 49, 56]⟩ = ⟨#[54]⟩ ∧ opZ gcdI ⟨#[49, 50]⟩ ⟨#[45, 49, 56]⟩ = 0 := by decide +kernel
theorem ex_root : (validB ⟨#[57, 57]⟩ && decide (0 ≤ numB ⟨#[57, 57]⟩)) = true ∧ (numB ⟨#[57, 57]⟩).natAbs = 99 := by decide +kernel
theorem ex_root1 : (validB ⟨#[45, 49]⟩ && decide (0 ≤ numB ⟨#[45, 49]⟩)) = false := by decide +kernel
theorem ex_nine : textI ((9 : Nat) : Int) = ⟨#[57]⟩ := by decide +kernel
theorem ex_bad : opT (· + ·) ⟨#[48, 48, 55]⟩ ⟨#[49]⟩ = ByteArray.empty ∧ opZ (· + ·) ⟨#[48, 48, 55]⟩ ⟨#[49]⟩ = 30 := by decide +kernel
theorem ex_valid : validB ⟨#[45, 55]⟩ = true ∧ validB ⟨#[45, 48]⟩ = false ∧ validB ⟨#[]⟩ = false := by decide +kernel
theorem ex_cmp : cmpB ⟨#[45, 56]⟩ ⟨#[45, 55]⟩ = -1 := by decide +kernel

theorem root99 (w : World) (hR : Ready w) : Calls Tryz.prog 17 #[.string ⟨#[57, 57]⟩] w fun e w' => e = .returned (.tuple #[.string ⟨#[57]⟩, .int .i64 0]) ∧ Below w.heap.size w w' := by
  have c := root_i ⟨#[57, 57]⟩ (by decide) w hR
  rw [ex_root.1, ex_root.2] at c
  refine c.mono ?_
  rintro e w1 ⟨b, r, h1, h2, rfl⟩
  obtain rfl : r = 9 := root_unique h1 h2 (by decide) (by decide)
  rw [ex_nine]
  exact ⟨rfl, b⟩
theorem rootneg (w : World) (hR : Ready w) : Calls Tryz.prog 17 #[.string ⟨#[45, 49]⟩] w fun e w' => e = .returned (.tuple #[.string ByteArray.empty, .int .i64 30]) ∧ Below w.heap.size w w' := by
  have c := root_i ⟨#[45, 49]⟩ (by decide) w hR
  rw [ex_root1] at c
  refine c.mono ?_
  rintro e w1 ⟨b, rfl⟩
  exact ⟨rfl, b⟩

set_option maxRecDepth 100000 in
set_option maxHeartbeats 4000000 in
theorem sane_any (w : World) (hR : Ready w) : Calls Tryz.prog 4 #[] w fun e w' => e = .returned (.bool true) ∧ Below w.heap.size w w' := by
  have c1 := fun W hW => add_i ⟨#[57, 57, 57]⟩ ⟨#[49]⟩ (by decide) (by decide) W hW
  rw [ex1.1, ex1.2] at c1
  have c2 := fun W hW => sub_i ⟨#[49]⟩ ⟨#[49, 48, 48, 48]⟩ (by decide) (by decide) W hW
  rw [ex2.1, ex2.2] at c2
  have c3 := fun W hW => mul_i ⟨#[45, 49, 50]⟩ ⟨#[49, 50]⟩ (by decide) (by decide) W hW
  rw [ex3.1, ex3.2] at c3
  have c4 := fun W hW => div_i ⟨#[45, 55]⟩ ⟨#[50]⟩ (by decide) (by decide) W hW
  rw [ex4.1, ex4.2.1, ex4.2.2] at c4
  have c5 := fun W hW => div_i ⟨#[45, 55]⟩ ⟨#[45, 50]⟩ (by decide) (by decide) W hW
  rw [ex5.1, ex5.2.1, ex5.2.2] at c5
  have c6 := fun W hW => gcd_i ⟨#[49, 50]⟩ ⟨#[45, 49, 56]⟩ (by decide) (by decide) W hW
  rw [ex6.1, ex6.2] at c6
  have c7 := root99
  have c8 := rootneg
  have c9 := fun W hW => add_i ⟨#[48, 48, 55]⟩ ⟨#[49]⟩ (by decide) (by decide) W hW
  rw [ex_bad.1, ex_bad.2] at c9
  have c10 := fun W hW => valid_i ⟨#[45, 55]⟩ (by decide) W hW
  rw [ex_valid.1] at c10
  have c11 := fun W hW => valid_i ⟨#[45, 48]⟩ (by decide) W hW
  rw [ex_valid.2.1] at c11
  have c12 := fun W hW => valid_i ⟨#[]⟩ (by decide) W hW
  rw [ex_valid.2.2] at c12
  have c13 := fun W hW => cmp_i ⟨#[45, 56]⟩ ⟨#[45, 55]⟩ (by decide) (by decide) W hW
  rw [ex_cmp] at c13
  have C1 := Lib.hid c1
  have C2 := Lib.hid c2
  have C3 := Lib.hid c3
  have C4 := Lib.hid c4
  have C5 := Lib.hid c5
  have C6 := Lib.hid c6
  have C7 := Lib.hid c7
  have C8 := Lib.hid c8
  have C9 := Lib.hid c9
  have C10 := Lib.hid c10
  have C11 := Lib.hid c11
  have C12 := Lib.hid c12
  have C13 := Lib.hid c13
  clear c1 c2 c3 c4 c5 c6 c7 c8 c9 c10 c11 c12 c13
  have B0 := Lib.hid (Below.refl w.heap.size w)
  have HR0 := Lib.hid hR
  clear hR
  go_enter Tryz.func4, Tryz.ntmps4
  go_wp2_with fail
  refine (C1.out _ (HR0.out.below B0.out)).mono ?_
  rintro e w1 ⟨rfl, b1⟩
  have B1 := Lib.hid (B0.out.trans (b1.mono B0.out.size))
  clear b1 B0 C1
  go_wp2_with fail
  refine (C2.out _ (HR0.out.below B1.out)).mono ?_
  rintro e w2 ⟨rfl, b2⟩
  have B2 := Lib.hid (B1.out.trans (b2.mono B1.out.size))
  clear b2 B1 C2
  go_wp2_with fail
  refine (C3.out _ (HR0.out.below B2.out)).mono ?_
  rintro e w3 ⟨rfl, b3⟩
  have B3 := Lib.hid (B2.out.trans (b3.mono B2.out.size))
  clear b3 B2 C3
  go_wp2_with fail
  refine (C4.out _ (HR0.out.below B3.out)).mono ?_
  rintro e w4 ⟨rfl, b4⟩
  have B4 := Lib.hid (B3.out.trans (b4.mono B3.out.size))
  clear b4 B3 C4
  go_wp2_with fail
  refine (C5.out _ (HR0.out.below B4.out)).mono ?_
  rintro e w5 ⟨rfl, b5⟩
  have B5 := Lib.hid (B4.out.trans (b5.mono B4.out.size))
  clear b5 B4 C5
  go_wp2_with fail
  refine (C6.out _ (HR0.out.below B5.out)).mono ?_
  rintro e w6 ⟨rfl, b6⟩
  have B6 := Lib.hid (B5.out.trans (b6.mono B5.out.size))
  clear b6 B5 C6
  go_wp2_with fail
  refine (C7.out _ (HR0.out.below B6.out)).mono ?_
  rintro e w7 ⟨rfl, b7⟩
  have B7 := Lib.hid (B6.out.trans (b7.mono B6.out.size))
  clear b7 B6 C7
  go_wp2_with fail
  refine (C8.out _ (HR0.out.below B7.out)).mono ?_
  rintro e w8 ⟨rfl, b8⟩
  have B8 := Lib.hid (B7.out.trans (b8.mono B7.out.size))
  clear b8 B7 C8
  go_wp2_with fail
  refine (C9.out _ (HR0.out.below B8.out)).mono ?_
  rintro e w9 ⟨rfl, b9⟩
  have B9 := Lib.hid (B8.out.trans (b9.mono B8.out.size))
  clear b9 B8 C9
  go_wp2_with fail
  refine (C10.out _ (HR0.out.below B9.out)).mono ?_
  rintro e w10 ⟨rfl, b10⟩
  have B10 := Lib.hid (B9.out.trans (b10.mono B9.out.size))
  clear b10 B9 C10
  go_wp2_with fail
  refine (C11.out _ (HR0.out.below B10.out)).mono ?_
  rintro e w11 ⟨rfl, b11⟩
  have B11 := Lib.hid (B10.out.trans (b11.mono B10.out.size))
  clear b11 B10 C11
  go_wp2_with fail
  refine (C12.out _ (HR0.out.below B11.out)).mono ?_
  rintro e w12 ⟨rfl, b12⟩
  have B12 := Lib.hid (B11.out.trans (b12.mono B11.out.size))
  clear b12 B11 C12
  go_wp2_with fail
  refine (C13.out _ (HR0.out.below B12.out)).mono ?_
  rintro e w13 ⟨rfl, b13⟩
  have B13 := Lib.hid (B12.out.trans (b13.mono B12.out.size))
  clear b13 B12 C13
  go_wp2
  go_ret
  exact ⟨rfl, B13.out⟩
end Go.Proofs.YtildgpahacaglaaGreatDoor
