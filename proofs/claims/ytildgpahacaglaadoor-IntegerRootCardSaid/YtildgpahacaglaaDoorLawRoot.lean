/-
  IntegerRoot returns true for all arguments: the walk.
-/
import Derived.Test.YtildgpahacaglaaDoorLawOrder
namespace Go.Proofs.YtildgpahacaglaaDoor
open Go Go.Proofs Go.RowKit Go.Lib

theorem root_sq {x : Int} (h : Fits (x * x)) (w : World) (hR : Ready w) :
    Calls Tryd.prog 22 #[.string (textI (x * x))] w fun e w' => e = .returned (.tuple #[.string (textI (x.natAbs : Int)), .int .i64 0]) ∧ Below w.heap.size w w' := by
  have e : x * x = ((x.natAbs * x.natAbs : Nat) : Int) := by rw [Int.natCast_mul, Int.natAbs_mul_self']
  rw [e] at h ⊢
  refine (root_fit h w hR).mono ?_
  rintro e w1 ⟨r, h1, h2, rfl, b⟩
  obtain rfl : r = x.natAbs := root_unique h1 h2 (Nat.le_refl _) (Nat.mul_lt_mul'' (Nat.lt_succ_self _) (Nat.lt_succ_self _))
  exact ⟨rfl, b⟩

set_option maxRecDepth 100000 in
set_option maxHeartbeats 4000000 in
theorem integerRoot_walk (a : ByteArray) (ha : a.size ≤ maxLen) (w : World) (hR : Ready w) :
    Calls Tryd.prog 8 #[.string a] w fun e w' => e = .returned (.bool true) ∧ Below w.heap.size w w' := by
  have B0 := Lib.hid (Below.refl w.heap.size w)
  have HR0 := Lib.hid hR
  clear hR
  go_enter Tryd.func8, Tryd.ntmps8
  go_wp2_with fail
  refine (sane_any _ (HR0.out.below B0.out)).mono ?_
  rintro e w1 ⟨rfl, b1⟩
  have B1 := Lib.hid (B0.out.trans (b1.mono B0.out.size))
  clear b1 B0
  go_wp2_with fail
  refine (made_any a ha 80 (by decide) _).mono ?_
  rintro e w2 ⟨x, hx, rfl, b2⟩
  have B2 := Lib.hid (B1.out.trans (b2.mono B1.out.size))
  clear b2 B1
  have fx := fits_of hx (by decide)
  have fxx := fits_of (abs_mul hx hx) (by decide)
  by_cases hneg : x < 0
  · have e1 : (x.natAbs : Int) + x = 0 := by omega
    have fa : Fits (x.natAbs : Int) := by unfold Fits at fx ⊢; omega
    have hneb : ((textI (x.natAbs : Int)).toList == (textI x).toList) = false := by rw [str_eq_iff, decide_eq_false]; exact text_ne (by omega)
    have c1 := fun W hW => root_neg fx hneg W hW
    have c2 := fun W hW => mul_fit fx fx fxx W hW
    have c3 := fun W hW => root_sq fxx W hW
    have c4 := fun W hW => add_fit fa fx (by rw [e1]; exact fits0) W hW
    have c5 := fun W hW => cmp_fit fx fits0 W hW
    rw [e1] at c4
    rw [sgn_lt hneg] at c5
    rw [text0] at *
    generalize textI (x * x) = T1 at *
    generalize textI (x.natAbs : Int) = T2 at *
    generalize textI x = X at *
    have C1 := Lib.hid c1
    have C2 := Lib.hid c2
    have C3 := Lib.hid c3
    have C4 := Lib.hid c4
    have C5 := Lib.hid c5
    clear c1 c2 c3 c4 c5 hx fx fxx hneg e1 fa
    go_wp2_with fail
    refine (C1.out _ (HR0.out.below B2.out)).mono ?_
    rintro e w3 ⟨rfl, b3⟩
    have B3 := Lib.hid (B2.out.trans (b3.mono B2.out.size))
    clear b3 B2 C1
    go_wp2_with fail
    refine (C2.out _ (HR0.out.below B3.out)).mono ?_
    rintro e w4 ⟨rfl, b4⟩
    have B4 := Lib.hid (B3.out.trans (b4.mono B3.out.size))
    clear b4 B3 C2
    go_wp2_with fail
    refine (C3.out _ (HR0.out.below B4.out)).mono ?_
    rintro e w5 ⟨rfl, b5⟩
    have B5 := Lib.hid (B4.out.trans (b5.mono B4.out.size))
    clear b5 B4 C3
    go_wp2_with fail
    refine (C4.out _ (HR0.out.below B5.out)).mono ?_
    rintro e w6 ⟨rfl, b6⟩
    have B6 := Lib.hid (B5.out.trans (b6.mono B5.out.size))
    clear b6 B5 C4
    go_wp2_with fail
    refine (C5.out _ (HR0.out.below B6.out)).mono ?_
    rintro e w7 ⟨rfl, b7⟩
    have B7 := Lib.hid (B6.out.trans (b7.mono B6.out.size))
    clear b7 B6 C5
    go_wp2
    go_ret
    exact ⟨rfl, B7.out⟩
  · obtain ⟨n, rfl⟩ := Int.eq_ofNat_of_zero_le (show 0 ≤ x by omega)
    have hv := sgn_ge (x := (n : Int)) (y := 0) (by omega)
    have c1 := fun W hW => root_fit fx W hW
    have c3 := fun W hW => root_sq fxx W hW
    rw [Int.natAbs_natCast] at c3
    have fnn := fits_of (abs_add hx hx) (by decide)
    have C1 := Lib.hid c1; have C3 := Lib.hid c3; have HV := Lib.hid hv
    clear c1 c3 hneg hv
    go_wp2_with fail
    refine (C1.out _ (HR0.out.below B2.out)).mono ?_
    rintro e w3 ⟨r, hlo, hhi, rfl, b3⟩
    have B3 := Lib.hid (B2.out.trans (b3.mono B2.out.size))
    clear b3 B2 C1
    have hrn : r ≤ n := by
      rcases Nat.eq_zero_or_pos r with h | h
      · omega
      · have := Nat.mul_le_mul_left r h; omega
    have hr : (r : Int).natAbs < 10 ^ 80 := by omega
    have hr1 : ((r : Int) + 1).natAbs < 10 ^ 81 := abs_add hr (abs_small (by decide) (by decide))
    have fr := fits_of hr (by decide); have fr1 := fits_of hr1 (by decide)
    have frr := fits_of (abs_mul hr hr) (by decide); have fhh := fits_of (abs_mul hr1 hr1) (by decide)
    have hlo' : (r : Int) * (r : Int) ≤ (n : Int) := by exact_mod_cast hlo
    have hhi' : (n : Int) < ((r : Int) + 1) * ((r : Int) + 1) := by exact_mod_cast hhi
    have c2 := fun W hW => mul_fit fx fx fxx W hW
    have c3 := C3.out
    have c4 := fun W hW => add_fit fx fx fnn W hW
    have c5 := fun W hW => cmp_fit fx fits0 W hW
    have c6 := fun W hW => mul_fit fr fr frr W hW
    have c7 := fun W hW => add_fit fr fits1 fr1 W hW
    have c8 := fun W hW => mul_fit fr1 fr1 fhh W hW
    have c9 := fun W hW => cmp_fit frr fx W hW
    have c10 := fun W hW => cmp_fit fhh fx W hW
    have hu := sgn_le hlo'
    rw [sgn_gt hhi'] at c10
    rw [text1] at c7
    rw [text0] at c5
    have hv := HV.out
    generalize textI ((n : Int) * (n : Int)) = T1 at *
    generalize textI ((n : Int) + (n : Int)) = T2 at *
    generalize textI ((r : Int) * (r : Int)) = T3 at *
    generalize textI (((r : Int) + 1) * ((r : Int) + 1)) = T4 at *
    generalize textI ((r : Int) + 1) = T5 at *
    generalize textI (r : Int) = T6 at *
    generalize textI (n : Int) = X at *
    generalize sgnI (n : Int) 0 = v at *
    generalize sgnI ((r : Int) * (r : Int)) (n : Int) = u at *
    have hv2 : ¬ v < 0 := by omega
    have hv3 : decide (v < 0) = false := decide_eq_false hv2
    have hu2 : decide (u ≤ 0) = true := decide_eq_true hu
    have C2 := Lib.hid c2
    have C3' := Lib.hid c3
    have C4 := Lib.hid c4
    have C5 := Lib.hid c5
    have C6 := Lib.hid c6
    have C7 := Lib.hid c7
    have C8 := Lib.hid c8
    have C9 := Lib.hid c9
    have C10 := Lib.hid c10
    clear c2 c3 c4 c5 c6 c7 c8 c9 c10 C3 HV hx fx fxx fnn hlo hhi hrn hr hr1 fr fr1 frr fhh hlo' hhi'
    go_wp2_with fail
    refine (C2.out _ (HR0.out.below B3.out)).mono ?_
    rintro e w4 ⟨rfl, b4⟩
    have B4 := Lib.hid (B3.out.trans (b4.mono B3.out.size))
    clear b4 B3 C2
    go_wp2_with fail
    refine (C3'.out _ (HR0.out.below B4.out)).mono ?_
    rintro e w5 ⟨rfl, b5⟩
    have B5 := Lib.hid (B4.out.trans (b5.mono B4.out.size))
    clear b5 B4 C3'
    go_wp2_with fail
    refine (C4.out _ (HR0.out.below B5.out)).mono ?_
    rintro e w6 ⟨rfl, b6⟩
    have B6 := Lib.hid (B5.out.trans (b6.mono B5.out.size))
    clear b6 B5 C4
    go_wp2_with fail
    refine (C5.out _ (HR0.out.below B6.out)).mono ?_
    rintro e w7 ⟨rfl, b7⟩
    have B7 := Lib.hid (B6.out.trans (b7.mono B6.out.size))
    clear b7 B6 C5
    go_wp2_with fail
    refine (C6.out _ (HR0.out.below B7.out)).mono ?_
    rintro e w8 ⟨rfl, b8⟩
    have B8 := Lib.hid (B7.out.trans (b8.mono B7.out.size))
    clear b8 B7 C6
    go_wp2_with fail
    refine (C7.out _ (HR0.out.below B8.out)).mono ?_
    rintro e w9 ⟨rfl, b9⟩
    have B9 := Lib.hid (B8.out.trans (b9.mono B8.out.size))
    clear b9 B8 C7
    go_wp2_with fail
    refine (C8.out _ (HR0.out.below B9.out)).mono ?_
    rintro e w10 ⟨rfl, b10⟩
    have B10 := Lib.hid (B9.out.trans (b10.mono B9.out.size))
    clear b10 B9 C8
    go_wp2_with fail
    refine (C9.out _ (HR0.out.below B10.out)).mono ?_
    rintro e w11 ⟨rfl, b11⟩
    have B11 := Lib.hid (B10.out.trans (b11.mono B10.out.size))
    clear b11 B10 C9
    go_wp2_with fail
    refine (C10.out _ (HR0.out.below B11.out)).mono ?_
    rintro e w12 ⟨rfl, b12⟩
    have B12 := Lib.hid (B11.out.trans (b12.mono B11.out.size))
    clear b12 B11 C10
    go_wp2
    go_ret
    exact ⟨rfl, B12.out⟩
end Go.Proofs.YtildgpahacaglaaDoor
