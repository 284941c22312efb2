/-
  IntegerOrder returns true for all arguments: the walk.
-/
import Derived.Test.YtildgpahacaglaaDoorFit
namespace Go.Proofs.YtildgpahacaglaaDoor
open Go Go.Proofs Go.RowKit Go.Lib

theorem sgn_lt {x y : Int} (h : x < y) : sgnI x y = -1 := by unfold sgnI; rw [if_pos h]
theorem sgn_gt {x y : Int} (h : y < x) : sgnI x y = 1 := by unfold sgnI; rw [if_neg (by omega), if_pos h]
theorem sgn_eq (x : Int) : sgnI x x = 0 := by unfold sgnI; rw [if_neg (by omega), if_neg (by omega)]
theorem sgn_le {x y : Int} (h : x ≤ y) : sgnI x y ≤ 0 := by unfold sgnI; split <;> (try split) <;> omega
theorem sgn_ge {x y : Int} (h : y ≤ x) : 0 ≤ sgnI x y := by unfold sgnI; split <;> (try split) <;> omega
theorem text_ne {x y : Int} (h : x ≠ y) : textI x ≠ textI y := fun e => h (textI_inj e)

set_option maxRecDepth 100000 in
set_option maxHeartbeats 4000000 in
theorem integerOrder_walk (a : ByteArray) (b : ByteArray) (c : ByteArray) (ha : a.size ≤ maxLen) (hb : b.size ≤ maxLen) (hc : c.size ≤ maxLen) (w : World) (hR : Ready w) :
    Calls Tryd.prog 9 #[.string a, .string b, .string c] w fun e w' => e = .returned (.bool true) ∧ Below w.heap.size w w' := by
  have B0 := Lib.hid (Below.refl w.heap.size w)
  have HR0 := Lib.hid hR
  clear hR
  go_enter Tryd.func9, Tryd.ntmps9
  go_wp2_with fail
  refine (sane_any _ (HR0.out.below B0.out)).mono ?_
  rintro e w1 ⟨rfl, b1⟩
  have B1 := Lib.hid (B0.out.trans (b1.mono B0.out.size))
  clear b1 B0
  go_wp2_with fail
  refine (made_any a ha 60 (by decide) _).mono ?_
  rintro e w2 ⟨x, hx, rfl, b2⟩
  have B2 := Lib.hid (B1.out.trans (b2.mono B1.out.size))
  clear b2 B1
  go_wp2_with fail
  refine (made_any b hb 60 (by decide) _).mono ?_
  rintro e w3 ⟨y, hy, rfl, b3⟩
  have B3 := Lib.hid (B2.out.trans (b3.mono B2.out.size))
  clear b3 B2
  go_wp2_with fail
  refine (made_any c hc 60 (by decide) _).mono ?_
  rintro e w4 ⟨z, hz, rfl, b4⟩
  have B4 := Lib.hid (B3.out.trans (b4.mono B3.out.size))
  clear b4 B3
  have fx := fits_of hx (by decide); have fy := fits_of hy (by decide); have fz := fits_of hz (by decide)
  have fd := fits_of (abs_sub hx hy) (by decide)
  have fxz := fits_of (abs_add hx hz) (by decide); have fyz := fits_of (abs_add hy hz) (by decide)
  clear hx hy hz
  rcases Int.lt_trichotomy x y with hlt | heq | hgt
  · have hne := text_ne (show x ≠ y by omega)
    by_cases hzy : z < y
    · have c1 := fun W hW => cmp_fit fx fy W hW
      have c2 := fun W hW => sub_fit fx fy fd W hW
      have c3 := fun W hW => add_fit fx fz fxz W hW
      have c4 := fun W hW => add_fit fy fz fyz W hW
      have c5 := fun W hW => cmp_fit fy fx W hW
      have c6 := fun W hW => cmp_fit fd fits0 W hW
      have c7 := fun W hW => cmp_fit fxz fyz W hW
      have c8 := fun W hW => cmp_fit fy fz W hW
      rw [sgn_lt hlt] at c1
      rw [sgn_gt hlt] at c5
      rw [sgn_lt (show x - y < 0 by omega)] at c6
      rw [sgn_lt (show x + z < y + z by omega)] at c7
      rw [sgn_gt hzy] at c8
      clear hzy hlt
      rw [text0] at c6
      generalize textI (x - y) = T1 at *
      generalize textI (x + z) = T2 at *
      generalize textI (y + z) = T3 at *
      generalize textI x = X at *
      generalize textI y = Y at *
      generalize textI z = Z at *
      have hneb : (X.toList == Y.toList) = false := by rw [str_eq_iff, decide_eq_false hne]
      have C1 := Lib.hid c1
      have C2 := Lib.hid c2
      have C3 := Lib.hid c3
      have C4 := Lib.hid c4
      have C5 := Lib.hid c5
      have C6 := Lib.hid c6
      have C7 := Lib.hid c7
      have C8 := Lib.hid c8
      clear c1 c2 c3 c4 c5 c6 c7 c8 fx fy fz fd fxz fyz
      go_wp2_with fail
      refine (C1.out _ (HR0.out.below B4.out)).mono ?_
      rintro e w5 ⟨rfl, b5⟩
      have B5 := Lib.hid (B4.out.trans (b5.mono B4.out.size))
      clear b5 B4 C1
      go_wp2_with fail
      refine (C2.out _ (HR0.out.below B5.out)).mono ?_
      rintro e w6 ⟨rfl, b6⟩
      have B6 := Lib.hid (B5.out.trans (b6.mono B5.out.size))
      clear b6 B5 C2
      go_wp2_with fail
      refine (C3.out _ (HR0.out.below B6.out)).mono ?_
      rintro e w7 ⟨rfl, b7⟩
      have B7 := Lib.hid (B6.out.trans (b7.mono B6.out.size))
      clear b7 B6 C3
      go_wp2_with fail
      refine (C4.out _ (HR0.out.below B7.out)).mono ?_
      rintro e w8 ⟨rfl, b8⟩
      have B8 := Lib.hid (B7.out.trans (b8.mono B7.out.size))
      clear b8 B7 C4
      go_wp2_with fail
      refine (C5.out _ (HR0.out.below B8.out)).mono ?_
      rintro e w9 ⟨rfl, b9⟩
      have B9 := Lib.hid (B8.out.trans (b9.mono B8.out.size))
      clear b9 B8 C5
      go_wp2_with fail
      refine (C6.out _ (HR0.out.below B9.out)).mono ?_
      rintro e w10 ⟨rfl, b10⟩
      have B10 := Lib.hid (B9.out.trans (b10.mono B9.out.size))
      clear b10 B9 C6
      go_wp2_with fail
      refine (C7.out _ (HR0.out.below B10.out)).mono ?_
      rintro e w11 ⟨rfl, b11⟩
      have B11 := Lib.hid (B10.out.trans (b11.mono B10.out.size))
      clear b11 B10 C7
      go_wp2_with fail
      refine (C8.out _ (HR0.out.below B11.out)).mono ?_
      rintro e w12 ⟨rfl, b12⟩
      have B12 := Lib.hid (B11.out.trans (b12.mono B11.out.size))
      clear b12 B11 C8
      go_wp2
      go_ret
      exact ⟨rfl, B12.out⟩
    · have c1 := fun W hW => cmp_fit fx fy W hW
      have c2 := fun W hW => sub_fit fx fy fd W hW
      have c3 := fun W hW => add_fit fx fz fxz W hW
      have c4 := fun W hW => add_fit fy fz fyz W hW
      have c5 := fun W hW => cmp_fit fy fx W hW
      have c6 := fun W hW => cmp_fit fd fits0 W hW
      have c7 := fun W hW => cmp_fit fxz fyz W hW
      have c8 := fun W hW => cmp_fit fy fz W hW
      have c9 := fun W hW => cmp_fit fx fz W hW
      have hv := sgn_le (show y ≤ z by omega)
      rw [sgn_lt hlt] at c1
      rw [sgn_gt hlt] at c5
      rw [sgn_lt (show x - y < 0 by omega)] at c6
      rw [sgn_lt (show x + z < y + z by omega)] at c7
      rw [sgn_lt (show x < z by omega)] at c9
      generalize sgnI y z = v at *
      have hv2 : ¬ 0 < v := by omega
      have hv3 : decide (0 < v) = false := decide_eq_false hv2
      clear hzy hlt hv
      rw [text0] at c6
      generalize textI (x - y) = T1 at *
      generalize textI (x + z) = T2 at *
      generalize textI (y + z) = T3 at *
      generalize textI x = X at *
      generalize textI y = Y at *
      generalize textI z = Z at *
      have hneb : (X.toList == Y.toList) = false := by rw [str_eq_iff, decide_eq_false hne]
      have C1 := Lib.hid c1
      have C2 := Lib.hid c2
      have C3 := Lib.hid c3
      have C4 := Lib.hid c4
      have C5 := Lib.hid c5
      have C6 := Lib.hid c6
      have C7 := Lib.hid c7
      have C8 := Lib.hid c8
      have C9 := Lib.hid c9
      clear c1 c2 c3 c4 c5 c6 c7 c8 c9 fx fy fz fd fxz fyz
      go_wp2_with fail
      refine (C1.out _ (HR0.out.below B4.out)).mono ?_
      rintro e w5 ⟨rfl, b5⟩
      have B5 := Lib.hid (B4.out.trans (b5.mono B4.out.size))
      clear b5 B4 C1
      go_wp2_with fail
      refine (C2.out _ (HR0.out.below B5.out)).mono ?_
      rintro e w6 ⟨rfl, b6⟩
      have B6 := Lib.hid (B5.out.trans (b6.mono B5.out.size))
      clear b6 B5 C2
      go_wp2_with fail
      refine (C3.out _ (HR0.out.below B6.out)).mono ?_
      rintro e w7 ⟨rfl, b7⟩
      have B7 := Lib.hid (B6.out.trans (b7.mono B6.out.size))
      clear b7 B6 C3
      go_wp2_with fail
      refine (C4.out _ (HR0.out.below B7.out)).mono ?_
      rintro e w8 ⟨rfl, b8⟩
      have B8 := Lib.hid (B7.out.trans (b8.mono B7.out.size))
      clear b8 B7 C4
      go_wp2_with fail
      refine (C5.out _ (HR0.out.below B8.out)).mono ?_
      rintro e w9 ⟨rfl, b9⟩
      have B9 := Lib.hid (B8.out.trans (b9.mono B8.out.size))
      clear b9 B8 C5
      go_wp2_with fail
      refine (C6.out _ (HR0.out.below B9.out)).mono ?_
      rintro e w10 ⟨rfl, b10⟩
      have B10 := Lib.hid (B9.out.trans (b10.mono B9.out.size))
      clear b10 B9 C6
      go_wp2_with fail
      refine (C7.out _ (HR0.out.below B10.out)).mono ?_
      rintro e w11 ⟨rfl, b11⟩
      have B11 := Lib.hid (B10.out.trans (b11.mono B10.out.size))
      clear b11 B10 C7
      go_wp2_with fail
      refine (C8.out _ (HR0.out.below B11.out)).mono ?_
      rintro e w12 ⟨rfl, b12⟩
      have B12 := Lib.hid (B11.out.trans (b12.mono B11.out.size))
      clear b12 B11 C8
      go_wp2_with fail
      refine (C9.out _ (HR0.out.below B12.out)).mono ?_
      rintro e w13 ⟨rfl, b13⟩
      have B13 := Lib.hid (B12.out.trans (b13.mono B12.out.size))
      clear b13 B12 C9
      go_wp2
      go_ret
      exact ⟨rfl, B13.out⟩
  · subst heq
    by_cases hzy : z < x
    · have c1 := fun W hW => cmp_fit fx fx W hW
      have c2 := fun W hW => sub_fit fx fx fd W hW
      have c3 := fun W hW => add_fit fx fz fxz W hW
      have c4 := fun W hW => add_fit fx fz fxz W hW
      have c5 := fun W hW => cmp_fit fx fx W hW
      have c6 := fun W hW => cmp_fit fd fits0 W hW
      have c7 := fun W hW => cmp_fit fxz fxz W hW
      have c8 := fun W hW => cmp_fit fx fz W hW
      rw [sgn_eq] at c1 c5 c7
      rw [Int.sub_self] at c2 c6
      rw [sgn_eq] at c6
      rw [sgn_gt hzy] at c8
      clear hzy
      rw [text0] at c6 c2
      generalize textI (x + z) = T2 at *
      generalize textI x = X at *
      generalize textI z = Z at *
      have C1 := Lib.hid c1
      have C2 := Lib.hid c2
      have C3 := Lib.hid c3
      have C4 := Lib.hid c4
      have C5 := Lib.hid c5
      have C6 := Lib.hid c6
      have C7 := Lib.hid c7
      have C8 := Lib.hid c8
      clear c1 c2 c3 c4 c5 c6 c7 c8
      go_wp2_with fail
      refine (C1.out _ (HR0.out.below B4.out)).mono ?_
      rintro e w5 ⟨rfl, b5⟩
      have B5 := Lib.hid (B4.out.trans (b5.mono B4.out.size))
      clear b5 B4 C1
      go_wp2_with fail
      refine (C2.out _ (HR0.out.below B5.out)).mono ?_
      rintro e w6 ⟨rfl, b6⟩
      have B6 := Lib.hid (B5.out.trans (b6.mono B5.out.size))
      clear b6 B5 C2
      go_wp2_with fail
      refine (C3.out _ (HR0.out.below B6.out)).mono ?_
      rintro e w7 ⟨rfl, b7⟩
      have B7 := Lib.hid (B6.out.trans (b7.mono B6.out.size))
      clear b7 B6 C3
      go_wp2_with fail
      refine (C4.out _ (HR0.out.below B7.out)).mono ?_
      rintro e w8 ⟨rfl, b8⟩
      have B8 := Lib.hid (B7.out.trans (b8.mono B7.out.size))
      clear b8 B7 C4
      go_wp2_with fail
      refine (C5.out _ (HR0.out.below B8.out)).mono ?_
      rintro e w9 ⟨rfl, b9⟩
      have B9 := Lib.hid (B8.out.trans (b9.mono B8.out.size))
      clear b9 B8 C5
      go_wp2_with fail
      refine (C6.out _ (HR0.out.below B9.out)).mono ?_
      rintro e w10 ⟨rfl, b10⟩
      have B10 := Lib.hid (B9.out.trans (b10.mono B9.out.size))
      clear b10 B9 C6
      go_wp2_with fail
      refine (C7.out _ (HR0.out.below B10.out)).mono ?_
      rintro e w11 ⟨rfl, b11⟩
      have B11 := Lib.hid (B10.out.trans (b11.mono B10.out.size))
      clear b11 B10 C7
      go_wp2_with fail
      refine (C8.out _ (HR0.out.below B11.out)).mono ?_
      rintro e w12 ⟨rfl, b12⟩
      have B12 := Lib.hid (B11.out.trans (b12.mono B11.out.size))
      clear b12 B11 C8
      go_wp2
      go_ret
      exact ⟨rfl, B12.out⟩
    · have c1 := fun W hW => cmp_fit fx fx W hW
      have c2 := fun W hW => sub_fit fx fx fd W hW
      have c3 := fun W hW => add_fit fx fz fxz W hW
      have c4 := fun W hW => add_fit fx fz fxz W hW
      have c5 := fun W hW => cmp_fit fx fx W hW
      have c6 := fun W hW => cmp_fit fd fits0 W hW
      have c7 := fun W hW => cmp_fit fxz fxz W hW
      have c8 := fun W hW => cmp_fit fx fz W hW
      have c9 := fun W hW => cmp_fit fx fz W hW
      rw [sgn_eq] at c1 c5 c7
      rw [Int.sub_self] at c2 c6
      rw [sgn_eq] at c6
      have hv := sgn_le (show x ≤ z by omega)
      generalize sgnI x z = v at *
      have hv2 : ¬ 0 < v := by omega
      have hv3 : decide (0 < v) = false := decide_eq_false hv2
      have hv4 : decide (v ≤ 0) = true := decide_eq_true hv
      clear hzy
      rw [text0] at c6 c2
      generalize textI (x + z) = T2 at *
      generalize textI x = X at *
      generalize textI z = Z at *
      have C1 := Lib.hid c1
      have C2 := Lib.hid c2
      have C3 := Lib.hid c3
      have C4 := Lib.hid c4
      have C5 := Lib.hid c5
      have C6 := Lib.hid c6
      have C7 := Lib.hid c7
      have C8 := Lib.hid c8
      have C9 := Lib.hid c9
      clear c1 c2 c3 c4 c5 c6 c7 c8 c9
      go_wp2_with fail
      refine (C1.out _ (HR0.out.below B4.out)).mono ?_
      rintro e w5 ⟨rfl, b5⟩
      have B5 := Lib.hid (B4.out.trans (b5.mono B4.out.size))
      clear b5 B4 C1
      go_wp2_with fail
      refine (C2.out _ (HR0.out.below B5.out)).mono ?_
      rintro e w6 ⟨rfl, b6⟩
      have B6 := Lib.hid (B5.out.trans (b6.mono B5.out.size))
      clear b6 B5 C2
      go_wp2_with fail
      refine (C3.out _ (HR0.out.below B6.out)).mono ?_
      rintro e w7 ⟨rfl, b7⟩
      have B7 := Lib.hid (B6.out.trans (b7.mono B6.out.size))
      clear b7 B6 C3
      go_wp2_with fail
      refine (C4.out _ (HR0.out.below B7.out)).mono ?_
      rintro e w8 ⟨rfl, b8⟩
      have B8 := Lib.hid (B7.out.trans (b8.mono B7.out.size))
      clear b8 B7 C4
      go_wp2_with fail
      refine (C5.out _ (HR0.out.below B8.out)).mono ?_
      rintro e w9 ⟨rfl, b9⟩
      have B9 := Lib.hid (B8.out.trans (b9.mono B8.out.size))
      clear b9 B8 C5
      go_wp2_with fail
      refine (C6.out _ (HR0.out.below B9.out)).mono ?_
      rintro e w10 ⟨rfl, b10⟩
      have B10 := Lib.hid (B9.out.trans (b10.mono B9.out.size))
      clear b10 B9 C6
      go_wp2_with fail
      refine (C7.out _ (HR0.out.below B10.out)).mono ?_
      rintro e w11 ⟨rfl, b11⟩
      have B11 := Lib.hid (B10.out.trans (b11.mono B10.out.size))
      clear b11 B10 C7
      go_wp2_with fail
      refine (C8.out _ (HR0.out.below B11.out)).mono ?_
      rintro e w12 ⟨rfl, b12⟩
      have B12 := Lib.hid (B11.out.trans (b12.mono B11.out.size))
      clear b12 B11 C8
      go_wp2_with fail
      refine (C9.out _ (HR0.out.below B12.out)).mono ?_
      rintro e w13 ⟨rfl, b13⟩
      have B13 := Lib.hid (B12.out.trans (b13.mono B12.out.size))
      clear b13 B12 C9
      go_wp2
      go_ret
      exact ⟨rfl, B13.out⟩
  · have hne := text_ne (show x ≠ y by omega)
    have c1 := fun W hW => cmp_fit fx fy W hW
    have c2 := fun W hW => sub_fit fx fy fd W hW
    have c3 := fun W hW => add_fit fx fz fxz W hW
    have c4 := fun W hW => add_fit fy fz fyz W hW
    have c5 := fun W hW => cmp_fit fy fx W hW
    have c6 := fun W hW => cmp_fit fd fits0 W hW
    have c7 := fun W hW => cmp_fit fxz fyz W hW
    rw [sgn_gt hgt] at c1
    rw [sgn_lt hgt] at c5
    rw [sgn_gt (show 0 < x - y by omega)] at c6
    rw [sgn_gt (show y + z < x + z by omega)] at c7
    clear hgt
    rw [text0] at c6
    generalize textI (x - y) = T1 at *
    generalize textI (x + z) = T2 at *
    generalize textI (y + z) = T3 at *
    generalize textI x = X at *
    generalize textI y = Y at *
    generalize textI z = Z at *
    have hneb : (X.toList == Y.toList) = false := by rw [str_eq_iff, decide_eq_false hne]
    have C1 := Lib.hid c1
    have C2 := Lib.hid c2
    have C3 := Lib.hid c3
    have C4 := Lib.hid c4
    have C5 := Lib.hid c5
    have C6 := Lib.hid c6
    have C7 := Lib.hid c7
    clear c1 c2 c3 c4 c5 c6 c7 fx fy fz fd fxz fyz
    go_wp2_with fail
    refine (C1.out _ (HR0.out.below B4.out)).mono ?_
    rintro e w5 ⟨rfl, b5⟩
    have B5 := Lib.hid (B4.out.trans (b5.mono B4.out.size))
    clear b5 B4 C1
    go_wp2_with fail
    refine (C2.out _ (HR0.out.below B5.out)).mono ?_
    rintro e w6 ⟨rfl, b6⟩
    have B6 := Lib.hid (B5.out.trans (b6.mono B5.out.size))
    clear b6 B5 C2
    go_wp2_with fail
    refine (C3.out _ (HR0.out.below B6.out)).mono ?_
    rintro e w7 ⟨rfl, b7⟩
    have B7 := Lib.hid (B6.out.trans (b7.mono B6.out.size))
    clear b7 B6 C3
    go_wp2_with fail
    refine (C4.out _ (HR0.out.below B7.out)).mono ?_
    rintro e w8 ⟨rfl, b8⟩
    have B8 := Lib.hid (B7.out.trans (b8.mono B7.out.size))
    clear b8 B7 C4
    go_wp2_with fail
    refine (C5.out _ (HR0.out.below B8.out)).mono ?_
    rintro e w9 ⟨rfl, b9⟩
    have B9 := Lib.hid (B8.out.trans (b9.mono B8.out.size))
    clear b9 B8 C5
    go_wp2_with fail
    refine (C6.out _ (HR0.out.below B9.out)).mono ?_
    rintro e w10 ⟨rfl, b10⟩
    have B10 := Lib.hid (B9.out.trans (b10.mono B9.out.size))
    clear b10 B9 C6
    go_wp2_with fail
    refine (C7.out _ (HR0.out.below B10.out)).mono ?_
    rintro e w11 ⟨rfl, b11⟩
    have B11 := Lib.hid (B10.out.trans (b11.mono B10.out.size))
    clear b11 B10 C7
    go_wp2
    go_ret
    exact ⟨rfl, B11.out⟩
end Go.Proofs.YtildgpahacaglaaDoor
