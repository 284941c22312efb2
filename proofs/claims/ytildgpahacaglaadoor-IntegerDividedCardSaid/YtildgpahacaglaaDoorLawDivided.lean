/-
  IntegerDivided returns true for all arguments: the walk.
-/
import Derived.Test.YtildgpahacaglaaDoorLawOrder
namespace Go.Proofs.YtildgpahacaglaaDoor
open Go Go.Proofs Go.RowKit Go.Lib

set_option maxRecDepth 100000 in
set_option maxHeartbeats 4000000 in
theorem integerDivided_walk (a : ByteArray) (b : ByteArray) (ha : a.size ≤ maxLen) (hb : b.size ≤ maxLen) (w : World) (hR : Ready w) :
    Calls Tryd.prog 6 #[.string a, .string b] w fun e w' => e = .returned (.bool true) ∧ Below w.heap.size w w' := by
  have B0 := Lib.hid (Below.refl w.heap.size w)
  have HR0 := Lib.hid hR
  clear hR
  go_enter Tryd.func6, Tryd.ntmps6
  go_wp2_with fail
  refine (sane_any _ (HR0.out.below B0.out)).mono ?_
  rintro e w1 ⟨rfl, b1⟩
  have B1 := Lib.hid (B0.out.trans (b1.mono B0.out.size))
  clear b1 B0
  go_wp2_with fail
  refine (made_any a ha 90 (by decide) _).mono ?_
  rintro e w2 ⟨x, hx, rfl, b2⟩
  have B2 := Lib.hid (B1.out.trans (b2.mono B1.out.size))
  clear b2 B1
  go_wp2_with fail
  refine (made_any b hb 60 (by decide) _).mono ?_
  rintro e w3 ⟨y, hy, rfl, b3⟩
  have B3 := Lib.hid (B2.out.trans (b3.mono B2.out.size))
  clear b3 B2
  have fx := fits_of hx (by decide); have fy := fits_of hy (by decide)
  by_cases h0 : y = 0
  · subst h0
    have c1 := fun W hW => div_zero fx W hW
    rw [text0] at *
    generalize textI x = X at *
    have C1 := Lib.hid c1
    clear c1 hx hy fx fy
    go_wp2_with fail
    refine (C1.out _ (HR0.out.below B3.out)).mono ?_
    rintro e w4 ⟨rfl, b4⟩
    have B4 := Lib.hid (B3.out.trans (b4.mono B3.out.size))
    clear b4 B3 C1
    go_wp2
    go_ret
    exact ⟨rfl, B4.out⟩
  · have hneb : ((textI y).toList == (⟨#[48]⟩ : ByteArray).toList) = false := by rw [str_eq_iff, decide_eq_false]; rw [← text0]; exact text_ne h0
    have hneb2 : ((textI y).toList == [48]) = false := by rw [← list48]; exact hneb
    have hq : (x / y).natAbs < 10 ^ 90 := Nat.lt_of_le_of_lt (Int.natAbs_ediv_le_natAbs x y) hx
    have hr0 : 0 ≤ x % y := Int.emod_nonneg x h0
    have hry : (x % y).natAbs < y.natAbs := by
      rcases Int.lt_or_lt_of_ne h0 with h | h
      · have h1 := Int.emod_lt_of_pos x (show 0 < -y by omega)
        rw [Int.emod_neg] at h1
        omega
      · have h1 := Int.emod_lt_of_pos x h
        omega
    have hr : (x % y).natAbs < 10 ^ 60 := Nat.lt_trans hry hy
    have fq := fits_of hq (by decide); have fr := fits_of hr (by decide)
    have fp := fits_of (abs_mul hq hy) (by decide)
    have fxy := fits_of (abs_mul hx hy) (by decide)
    have e1 : x / y * y + x % y = x := Int.ediv_mul_add_emod x y
    have e2 : y * 1 = y := Int.mul_one y
    have e3 : x * y / y = x := Int.mul_ediv_cancel x h0
    have e4 : x * y % y = 0 := Int.mul_emod_left x y
    have c1 := fun W hW => div_fit fx fy h0 fq W hW
    have c2 := fun W hW => mul_fit fq fy fp W hW
    have c3 := fun W hW => add_fit fp fr (by rw [e1]; exact fx) W hW
    have c4 := fun W hW => mul_fit fy fits1 (by rw [e2]; exact fy) W hW
    have c5 := fun W hW => cmp_fit fy fits0 W hW
    have c6 := fun W hW => mul_fit fx fy fxy W hW
    have c7 := fun W hW => div_fit fxy fy h0 (by rw [e3]; exact fx) W hW
    have c8 := fun W hW => cmp_fit fr fits0 W hW
    have c10 := fun W hW => valid_fit fr W hW
    rw [e1] at c3
    rw [e2, text1] at c4
    rw [e3, e4] at c7
    have hv := sgn_ge (x := x % y) (y := 0) hr0
    by_cases hneg : y < 0
    · have fs : Fits (0 - y) := by unfold Fits at fy ⊢; omega
      have c5s := fun W hW => sub_fit fits0 fy fs W hW
      have c9 := fun W hW => cmp_fit fr fs W hW
      rw [sgn_lt hneg] at c5
      rw [sgn_lt (show x % y < 0 - y by omega)] at c9
      rw [text0] at *
      generalize textI (0 - y) = T1 at *
      generalize textI (x / y * y) = T2 at *
      generalize textI (x * y) = T3 at *
      generalize textI (x / y) = T4 at *
      generalize textI (x % y) = T5 at *
      generalize textI x = X at *
      generalize textI y = Y at *
      generalize sgnI (x % y) 0 = v at *
      have hv2 : decide (0 ≤ v) = true := decide_eq_true hv
      have C1 := Lib.hid c1
      have C2 := Lib.hid c2
      have C3 := Lib.hid c3
      have C4 := Lib.hid c4
      have C5 := Lib.hid c5
      have C5S := Lib.hid c5s
      have C6 := Lib.hid c6
      have C7 := Lib.hid c7
      have C8 := Lib.hid c8
      have C9 := Lib.hid c9
      have C10 := Lib.hid c10
      clear c1 c2 c3 c4 c5 c5s c6 c7 c8 c9 c10 hx hy fx fy hq hr0 hry hr fq fr fp fxy e1 e2 e3 e4 h0 hneg fs
      go_wp2_with fail
      refine (C1.out _ (HR0.out.below B3.out)).mono ?_
      rintro e w4 ⟨rfl, b4⟩
      have B4 := Lib.hid (B3.out.trans (b4.mono B3.out.size))
      clear b4 B3 C1
      go_wp2_with fail
      refine (C2.out _ (HR0.out.below B4.out)).mono ?_
      rintro e w5 ⟨rfl, b5⟩
      have B5 := Lib.hid (B4.out.trans (b5.mono B4.out.size))
      clear b5 B4 C2
      go_wp2_with fail
      refine (C3.out _ (HR0.out.below B5.out)).mono ?_
      rintro e w6 ⟨rfl, b6⟩
      have B6 := Lib.hid (B5.out.trans (b6.mono B5.out.size))
      clear b6 B5 C3
      go_wp2_with fail
      refine (C4.out _ (HR0.out.below B6.out)).mono ?_
      rintro e w7 ⟨rfl, b7⟩
      have B7 := Lib.hid (B6.out.trans (b7.mono B6.out.size))
      clear b7 B6 C4
      go_wp2_with fail
      refine (C5.out _ (HR0.out.below B7.out)).mono ?_
      rintro e w8 ⟨rfl, b8⟩
      have B8 := Lib.hid (B7.out.trans (b8.mono B7.out.size))
      clear b8 B7 C5
      go_wp2_with fail
      refine (C5S.out _ (HR0.out.below B8.out)).mono ?_
      rintro e w9 ⟨rfl, b9⟩
      have B9 := Lib.hid (B8.out.trans (b9.mono B8.out.size))
      clear b9 B8 C5S
      go_wp2_with fail
      refine (C6.out _ (HR0.out.below B9.out)).mono ?_
      rintro e w10 ⟨rfl, b10⟩
      have B10 := Lib.hid (B9.out.trans (b10.mono B9.out.size))
      clear b10 B9 C6
      go_wp2_with fail
      refine (C7.out _ (HR0.out.below B10.out)).mono ?_
      rintro e w11 ⟨rfl, b11⟩
      have B11 := Lib.hid (B10.out.trans (b11.mono B10.out.size))
      clear b11 B10 C7
      go_wp2_with fail
      refine (C8.out _ (HR0.out.below B11.out)).mono ?_
      rintro e w12 ⟨rfl, b12⟩
      have B12 := Lib.hid (B11.out.trans (b12.mono B11.out.size))
      clear b12 B11 C8
      go_wp2_with fail
      refine (C9.out _ (HR0.out.below B12.out)).mono ?_
      rintro e w13 ⟨rfl, b13⟩
      have B13 := Lib.hid (B12.out.trans (b13.mono B12.out.size))
      clear b13 B12 C9
      go_wp2_with fail
      refine (C10.out _ (HR0.out.below B13.out)).mono ?_
      rintro e w14 ⟨rfl, b14⟩
      have B14 := Lib.hid (B13.out.trans (b14.mono B13.out.size))
      clear b14 B13 C10
      go_wp2
      go_ret
      exact ⟨rfl, B14.out⟩
    · have c9 := fun W hW => cmp_fit fr fy W hW
      rw [sgn_gt (show 0 < y by omega)] at c5
      rw [sgn_lt (show x % y < y by omega)] at c9
      rw [text0] at *
      generalize textI (x / y * y) = T2 at *
      generalize textI (x * y) = T3 at *
      generalize textI (x / y) = T4 at *
      generalize textI (x % y) = T5 at *
      generalize textI x = X at *
      generalize textI y = Y at *
      generalize sgnI (x % y) 0 = v at *
      have hv2 : decide (0 ≤ v) = true := decide_eq_true hv
      have C1 := Lib.hid c1
      have C2 := Lib.hid c2
      have C3 := Lib.hid c3
      have C4 := Lib.hid c4
      have C5 := Lib.hid c5
      have C6 := Lib.hid c6
      have C7 := Lib.hid c7
      have C8 := Lib.hid c8
      have C9 := Lib.hid c9
      have C10 := Lib.hid c10
      clear c1 c2 c3 c4 c5 c6 c7 c8 c9 c10 hx hy fx fy hq hr0 hry hr fq fr fp fxy e1 e2 e3 e4 h0 hneg
      go_wp2_with fail
      refine (C1.out _ (HR0.out.below B3.out)).mono ?_
      rintro e w4 ⟨rfl, b4⟩
      have B4 := Lib.hid (B3.out.trans (b4.mono B3.out.size))
      clear b4 B3 C1
      go_wp2_with fail
      refine (C2.out _ (HR0.out.below B4.out)).mono ?_
      rintro e w5 ⟨rfl, b5⟩
      have B5 := Lib.hid (B4.out.trans (b5.mono B4.out.size))
      clear b5 B4 C2
      go_wp2_with fail
      refine (C3.out _ (HR0.out.below B5.out)).mono ?_
      rintro e w6 ⟨rfl, b6⟩
      have B6 := Lib.hid (B5.out.trans (b6.mono B5.out.size))
      clear b6 B5 C3
      go_wp2_with fail
      refine (C4.out _ (HR0.out.below B6.out)).mono ?_
      rintro e w7 ⟨rfl, b7⟩
      have B7 := Lib.hid (B6.out.trans (b7.mono B6.out.size))
      clear b7 B6 C4
      go_wp2_with fail
      refine (C5.out _ (HR0.out.below B7.out)).mono ?_
      rintro e w8 ⟨rfl, b8⟩
      have B8 := Lib.hid (B7.out.trans (b8.mono B7.out.size))
      clear b8 B7 C5
      go_wp2_with fail
      refine (C6.out _ (HR0.out.below B8.out)).mono ?_
      rintro e w9 ⟨rfl, b9⟩
      have B9 := Lib.hid (B8.out.trans (b9.mono B8.out.size))
      clear b9 B8 C6
      go_wp2_with fail
      refine (C7.out _ (HR0.out.below B9.out)).mono ?_
      rintro e w10 ⟨rfl, b10⟩
      have B10 := Lib.hid (B9.out.trans (b10.mono B9.out.size))
      clear b10 B9 C7
      go_wp2_with fail
      refine (C8.out _ (HR0.out.below B10.out)).mono ?_
      rintro e w11 ⟨rfl, b11⟩
      have B11 := Lib.hid (B10.out.trans (b11.mono B10.out.size))
      clear b11 B10 C8
      go_wp2_with fail
      refine (C9.out _ (HR0.out.below B11.out)).mono ?_
      rintro e w12 ⟨rfl, b12⟩
      have B12 := Lib.hid (B11.out.trans (b12.mono B11.out.size))
      clear b12 B11 C9
      go_wp2_with fail
      refine (C10.out _ (HR0.out.below B12.out)).mono ?_
      rintro e w13 ⟨rfl, b13⟩
      have B13 := Lib.hid (B12.out.trans (b13.mono B12.out.size))
      clear b13 B12 C10
      go_wp2
      go_ret
      exact ⟨rfl, B13.out⟩
end Go.Proofs.YtildgpahacaglaaDoor
