/-
  IntegerCommon returns true for all arguments: the walk.
-/
import Derived.Test.YtildgpahacaglaaDoorLawOrder
namespace Go.Proofs.YtildgpahacaglaaDoor
open Go Go.Proofs Go.RowKit Go.Lib

theorem gcdI_comm (x y : Int) : gcdI y x = gcdI x y := by unfold gcdI; rw [Nat.gcd_comm]
theorem gcdI_nonneg (x y : Int) : 0 ≤ gcdI x y := Int.natCast_nonneg _
theorem gcdI_pos {x y : Int} (h : x ≠ 0 ∨ y ≠ 0) : 0 < gcdI x y := by
  unfold gcdI
  have : 0 < Nat.gcd x.natAbs y.natAbs := by
    rcases h with h | h
    · exact Nat.gcd_pos_of_pos_left _ (by omega)
    · exact Nat.gcd_pos_of_pos_right _ (by omega)
  omega
theorem gcdI_left (x y : Int) : gcdI x y ∣ x := by
  unfold gcdI
  rw [Int.ofNat_dvd_left]
  exact Nat.gcd_dvd_left _ _
theorem gcdI_right (x y : Int) : gcdI x y ∣ y := by
  unfold gcdI
  rw [Int.ofNat_dvd_left]
  exact Nat.gcd_dvd_right _ _
theorem gcdI_rest {x y : Int} (h : 0 < gcdI x y) : gcdI (x / gcdI x y) (y / gcdI x y) = 1 := by
  have e1 := Int.mul_ediv_cancel' (gcdI_left x y)
  have e2 := Int.mul_ediv_cancel' (gcdI_right x y)
  have key : gcdI x y * gcdI (x / gcdI x y) (y / gcdI x y) = gcdI x y := by
    have k : ∀ g p q : Int, 0 < g → gcdI (g * p) (g * q) = g * gcdI p q := by
      intro g p q hg
      unfold gcdI
      rw [Int.natAbs_mul, Int.natAbs_mul, Nat.gcd_mul_left, Int.natCast_mul, Int.natAbs_of_nonneg (by omega)]
    have := k _ (x / gcdI x y) (y / gcdI x y) h
    rw [e1, e2] at this
    exact this.symm
  have := Int.eq_of_mul_eq_mul_left (show gcdI x y ≠ 0 by omega) (show gcdI x y * gcdI (x / gcdI x y) (y / gcdI x y) = gcdI x y * 1 by rw [Int.mul_one]; exact key)
  exact this
theorem gcdI_mul (x y z : Int) : gcdI (x * z) (y * z) = gcdI x y * (z.natAbs : Int) := by
  unfold gcdI
  rw [Int.natAbs_mul, Int.natAbs_mul, Nat.gcd_mul_right, Int.natCast_mul]
theorem gcdI_lt {x y : Int} {a : Nat} (hx : x.natAbs < 10 ^ a) (hy : y.natAbs < 10 ^ a) : (gcdI x y).natAbs < 10 ^ a := by
  unfold gcdI at *
  rw [Int.natAbs_natCast]
  rcases Nat.eq_zero_or_pos x.natAbs with h | h
  · rw [h, Nat.gcd_zero_left]; exact hy
  · exact Nat.lt_of_le_of_lt (Nat.gcd_le_left _ h) hx
theorem zero_beq {x : Int} : ((textI x).toList == (⟨#[48]⟩ : ByteArray).toList) = decide (x = 0) := by
  rw [str_eq_iff, ← text0]
  by_cases h : x = 0
  · rw [h, decide_eq_true rfl, decide_eq_true rfl]
  · rw [decide_eq_false h, decide_eq_false (text_ne h)]

set_option maxRecDepth 100000 in
set_option maxHeartbeats 4000000 in
theorem integerCommon_walk (a : ByteArray) (b : ByteArray) (c : ByteArray) (ha : a.size ≤ maxLen) (hb : b.size ≤ maxLen) (hc : c.size ≤ maxLen) (w : World) (hR : Ready w) :
    Calls Tryd.prog 7 #[.string a, .string b, .string c] w fun e w' => e = .returned (.bool true) ∧ Below w.heap.size w w' := by
  have B0 := Lib.hid (Below.refl w.heap.size w)
  have HR0 := Lib.hid hR
  clear hR
  go_enter Tryd.func7, Tryd.ntmps7
  go_wp2_with fail
  refine (sane_any _ (HR0.out.below B0.out)).mono ?_
  rintro e w1 ⟨rfl, b1⟩
  have B1 := Lib.hid (B0.out.trans (b1.mono B0.out.size))
  clear b1 B0
  go_wp2_with fail
  refine (made_any a ha 40 (by decide) _).mono ?_
  rintro e w2 ⟨x, hx, rfl, b2⟩
  have B2 := Lib.hid (B1.out.trans (b2.mono B1.out.size))
  clear b2 B1
  go_wp2_with fail
  refine (made_any b hb 40 (by decide) _).mono ?_
  rintro e w3 ⟨y, hy, rfl, b3⟩
  have B3 := Lib.hid (B2.out.trans (b3.mono B2.out.size))
  clear b3 B2
  go_wp2_with fail
  refine (made_any c hc 40 (by decide) _).mono ?_
  rintro e w4 ⟨z, hz, rfl, b4⟩
  have B4 := Lib.hid (B3.out.trans (b4.mono B3.out.size))
  clear b4 B3
  have fx := fits_of hx (by decide); have fy := fits_of hy (by decide); have fz := fits_of hz (by decide)
  have hg := gcdI_lt hx hy
  have fg := fits_of hg (by decide)
  have hg0 := gcdI_nonneg x y
  have hv := sgn_ge (x := gcdI x y) (y := 0) hg0
  have c1 := fun W hW => gcd_fit fx fy W hW
  have c2 := fun W hW => gcd_fit fy fx W hW
  have c3 := fun W hW => cmp_fit fg fits0 W hW
  rw [gcdI_comm x y] at c2
  have hxb := zero_beq (x := x)
  have hyb := zero_beq (x := y)
  have hxb2 : ((textI x).toList == [48]) = decide (x = 0) := by rw [← list48]; exact hxb
  have hyb2 : ((textI y).toList == [48]) = decide (y = 0) := by rw [← list48]; exact hyb
  by_cases h00 : x = 0 ∧ y = 0
  · obtain ⟨rfl, rfl⟩ := h00
    have hg00 : gcdI 0 0 = 0 := rfl
    rw [hg00] at c1 c2 c3
    rw [sgn_eq] at c3
    rw [text0] at *
    have C1 := Lib.hid c1; have C2 := Lib.hid c2; have C3 := Lib.hid c3
    clear c1 c2 c3 hx hy hz fx fy fz hg fg hg0 hv hxb hyb hxb2 hyb2 hg00
    go_wp2_with fail
    refine (C1.out _ (HR0.out.below B4.out)).mono ?_
    rintro e w5 ⟨rfl, b5⟩
    have B5 := Lib.hid (B4.out.trans (b5.mono B4.out.size))
    clear b5 B4 C1
    go_wp2_with fail
    refine (C2.out _ (HR0.out.below B5.out)).mono ?_
    rintro e w6 ⟨rfl, b6⟩
    have B6 := Lib.hid (B5.out.trans (b6.mono B5.out.size))
    clear b6 B5 C2
    go_wp2_with fail
    refine (C3.out _ (HR0.out.below B6.out)).mono ?_
    rintro e w7 ⟨rfl, b7⟩
    have B7 := Lib.hid (B6.out.trans (b7.mono B6.out.size))
    clear b7 B6 C3
    go_wp2
    go_ret
    exact ⟨rfl, B7.out⟩
  · have hgp := gcdI_pos (x := x) (y := y) (Classical.byCases (fun h : x = 0 => Or.inr (fun e => h00 ⟨h, e⟩)) (fun h => Or.inl h))
    have hgn : gcdI x y ≠ 0 := by omega
    have hp : (x / gcdI x y).natAbs < 10 ^ 40 := Nat.lt_of_le_of_lt (Int.natAbs_ediv_le_natAbs _ _) hx
    have hq : (y / gcdI x y).natAbs < 10 ^ 40 := Nat.lt_of_le_of_lt (Int.natAbs_ediv_le_natAbs _ _) hy
    have fp := fits_of hp (by decide); have fq := fits_of hq (by decide)
    have fxz := fits_of (abs_mul hx hz) (by decide); have fyz := fits_of (abs_mul hy hz) (by decide); have fgz := fits_of (abs_mul hg hz) (by decide)
    have c4 := fun W hW => div_fit fx fg hgn fp W hW
    have c5 := fun W hW => div_fit fy fg hgn fq W hW
    have c6 := fun W hW => gcd_fit fp fq W hW
    have c7 := fun W hW => mul_fit fx fz fxz W hW
    have c8 := fun W hW => mul_fit fy fz fyz W hW
    have c9 := fun W hW => gcd_fit fxz fyz W hW
    have c10 := fun W hW => mul_fit fg fz fgz W hW
    have c11 := fun W hW => cmp_fit fgz fits0 W hW
    rw [Int.emod_eq_zero_of_dvd (gcdI_left x y)] at c4
    rw [Int.emod_eq_zero_of_dvd (gcdI_right x y)] at c5
    rw [gcdI_rest hgp, text1] at c6
    have hm := gcdI_mul x y z
    generalize gcdI (x * z) (y * z) = G at *
    generalize gcdI x y = g at *
    generalize x / g = p at *
    generalize y / g = q at *
    have hm2 : G = if g * z < 0 then 0 - g * z else g * z := by
      rw [hm]
      split
      · have : z < 0 := by
          rcases Int.lt_or_le z 0 with h | h
          · exact h
          · have := Int.mul_nonneg hg0 h; omega
        rw [Int.zero_sub, ← Int.mul_neg]
        congr 1
        omega
      · have : 0 ≤ z := by
          rcases Int.lt_or_le z 0 with h | h
          · have := Int.mul_neg_of_pos_of_neg hgp h; omega
          · exact h
        congr 1
        omega
    have h0 := text0
    clear h0
    by_cases hneg : g * z < 0
    · rw [if_pos hneg] at hm2
      rw [hm2] at c9
      have fs : Fits (0 - g * z) := by unfold Fits at fgz ⊢; omega
      have c12 := fun W hW => sub_fit fits0 fgz fs W hW
      rw [sgn_lt hneg] at c11
      by_cases hx0 : x = 0
      · have hy0 : ¬ y = 0 := fun e => h00 ⟨hx0, e⟩
        rw [decide_eq_true hx0] at hxb hxb2
        rw [decide_eq_false hy0] at hyb hyb2
        rw [text0] at *
        generalize textI (x * z) = T1 at *
        generalize textI (y * z) = T2 at *
        generalize textI (0 - g * z) = T3 at *
        generalize textI (g * z) = T4 at *
        generalize textI g = T5 at *
        generalize textI p = T6 at *
        generalize textI q = T7 at *
        generalize textI x = X at *
        generalize textI y = Y at *
        generalize textI z = Z at *
        generalize sgnI g 0 = v at *
        have hv2 : ¬ v < 0 := by omega
        have hv3 : decide (v < 0) = false := decide_eq_false hv2
        have C1 := Lib.hid c1
        have C2 := Lib.hid c2
        have C3 := Lib.hid c3
        have C4 := Lib.hid c4
        have C5 := Lib.hid c5
        have C6 := Lib.hid c6
        have C7 := Lib.hid c7
        have C8 := Lib.hid c8
        have C9 := Lib.hid c9
        have C10 := Lib.hid c10
        have C11 := Lib.hid c11
        have C12 := Lib.hid c12
        clear c1 c2 c3 c4 c5 c6 c7 c8 c9 c10 c11 c12 hx hy hz fx fy fz hg fg hg0 h00 hgp hgn hp hq fp fq fxz fyz fgz hm hm2 hneg fs hx0 hy0
        go_wp2_with fail
        refine (C1.out _ (HR0.out.below B4.out)).mono ?_
        rintro e w5 ⟨rfl, b5⟩
        have B5 := Lib.hid (B4.out.trans (b5.mono B4.out.size))
        clear b5 B4 C1
        go_wp2_with fail
        refine (C2.out _ (HR0.out.below B5.out)).mono ?_
        rintro e w6 ⟨rfl, b6⟩
        have B6 := Lib.hid (B5.out.trans (b6.mono B5.out.size))
        clear b6 B5 C2
        go_wp2_with fail
        refine (C3.out _ (HR0.out.below B6.out)).mono ?_
        rintro e w7 ⟨rfl, b7⟩
        have B7 := Lib.hid (B6.out.trans (b7.mono B6.out.size))
        clear b7 B6 C3
        go_wp2_with fail
        refine (C4.out _ (HR0.out.below B7.out)).mono ?_
        rintro e w8 ⟨rfl, b8⟩
        have B8 := Lib.hid (B7.out.trans (b8.mono B7.out.size))
        clear b8 B7 C4
        go_wp2_with fail
        refine (C5.out _ (HR0.out.below B8.out)).mono ?_
        rintro e w9 ⟨rfl, b9⟩
        have B9 := Lib.hid (B8.out.trans (b9.mono B8.out.size))
        clear b9 B8 C5
        go_wp2_with fail
        refine (C6.out _ (HR0.out.below B9.out)).mono ?_
        rintro e w10 ⟨rfl, b10⟩
        have B10 := Lib.hid (B9.out.trans (b10.mono B9.out.size))
        clear b10 B9 C6
        go_wp2_with fail
        refine (C7.out _ (HR0.out.below B10.out)).mono ?_
        rintro e w11 ⟨rfl, b11⟩
        have B11 := Lib.hid (B10.out.trans (b11.mono B10.out.size))
        clear b11 B10 C7
        go_wp2_with fail
        refine (C8.out _ (HR0.out.below B11.out)).mono ?_
        rintro e w12 ⟨rfl, b12⟩
        have B12 := Lib.hid (B11.out.trans (b12.mono B11.out.size))
        clear b12 B11 C8
        go_wp2_with fail
        refine (C9.out _ (HR0.out.below B12.out)).mono ?_
        rintro e w13 ⟨rfl, b13⟩
        have B13 := Lib.hid (B12.out.trans (b13.mono B12.out.size))
        clear b13 B12 C9
        go_wp2_with fail
        refine (C10.out _ (HR0.out.below B13.out)).mono ?_
        rintro e w14 ⟨rfl, b14⟩
        have B14 := Lib.hid (B13.out.trans (b14.mono B13.out.size))
        clear b14 B13 C10
        go_wp2_with fail
        refine (C11.out _ (HR0.out.below B14.out)).mono ?_
        rintro e w15 ⟨rfl, b15⟩
        have B15 := Lib.hid (B14.out.trans (b15.mono B14.out.size))
        clear b15 B14 C11
        go_wp2_with fail
        refine (C12.out _ (HR0.out.below B15.out)).mono ?_
        rintro e w16 ⟨rfl, b16⟩
        have B16 := Lib.hid (B15.out.trans (b16.mono B15.out.size))
        clear b16 B15 C12
        go_wp2
        go_ret
        exact ⟨rfl, B16.out⟩
      · rw [decide_eq_false hx0] at hxb hxb2
        clear hyb hyb2
        rw [text0] at *
        generalize textI (x * z) = T1 at *
        generalize textI (y * z) = T2 at *
        generalize textI (0 - g * z) = T3 at *
        generalize textI (g * z) = T4 at *
        generalize textI g = T5 at *
        generalize textI p = T6 at *
        generalize textI q = T7 at *
        generalize textI x = X at *
        generalize textI y = Y at *
        generalize textI z = Z at *
        generalize sgnI g 0 = v at *
        have hv2 : ¬ v < 0 := by omega
        have hv3 : decide (v < 0) = false := decide_eq_false hv2
        have C1 := Lib.hid c1
        have C2 := Lib.hid c2
        have C3 := Lib.hid c3
        have C4 := Lib.hid c4
        have C5 := Lib.hid c5
        have C6 := Lib.hid c6
        have C7 := Lib.hid c7
        have C8 := Lib.hid c8
        have C9 := Lib.hid c9
        have C10 := Lib.hid c10
        have C11 := Lib.hid c11
        have C12 := Lib.hid c12
        clear c1 c2 c3 c4 c5 c6 c7 c8 c9 c10 c11 c12 hx hy hz fx fy fz hg fg hg0 h00 hgp hgn hp hq fp fq fxz fyz fgz hm hm2 hneg fs hx0
        go_wp2_with fail
        refine (C1.out _ (HR0.out.below B4.out)).mono ?_
        rintro e w5 ⟨rfl, b5⟩
        have B5 := Lib.hid (B4.out.trans (b5.mono B4.out.size))
        clear b5 B4 C1
        go_wp2_with fail
        refine (C2.out _ (HR0.out.below B5.out)).mono ?_
        rintro e w6 ⟨rfl, b6⟩
        have B6 := Lib.hid (B5.out.trans (b6.mono B5.out.size))
        clear b6 B5 C2
        go_wp2_with fail
        refine (C3.out _ (HR0.out.below B6.out)).mono ?_
        rintro e w7 ⟨rfl, b7⟩
        have B7 := Lib.hid (B6.out.trans (b7.mono B6.out.size))
        clear b7 B6 C3
        go_wp2_with fail
        refine (C4.out _ (HR0.out.below B7.out)).mono ?_
        rintro e w8 ⟨rfl, b8⟩
        have B8 := Lib.hid (B7.out.trans (b8.mono B7.out.size))
        clear b8 B7 C4
        go_wp2_with fail
        refine (C5.out _ (HR0.out.below B8.out)).mono ?_
        rintro e w9 ⟨rfl, b9⟩
        have B9 := Lib.hid (B8.out.trans (b9.mono B8.out.size))
        clear b9 B8 C5
        go_wp2_with fail
        refine (C6.out _ (HR0.out.below B9.out)).mono ?_
        rintro e w10 ⟨rfl, b10⟩
        have B10 := Lib.hid (B9.out.trans (b10.mono B9.out.size))
        clear b10 B9 C6
        go_wp2_with fail
        refine (C7.out _ (HR0.out.below B10.out)).mono ?_
        rintro e w11 ⟨rfl, b11⟩
        have B11 := Lib.hid (B10.out.trans (b11.mono B10.out.size))
        clear b11 B10 C7
        go_wp2_with fail
        refine (C8.out _ (HR0.out.below B11.out)).mono ?_
        rintro e w12 ⟨rfl, b12⟩
        have B12 := Lib.hid (B11.out.trans (b12.mono B11.out.size))
        clear b12 B11 C8
        go_wp2_with fail
        refine (C9.out _ (HR0.out.below B12.out)).mono ?_
        rintro e w13 ⟨rfl, b13⟩
        have B13 := Lib.hid (B12.out.trans (b13.mono B12.out.size))
        clear b13 B12 C9
        go_wp2_with fail
        refine (C10.out _ (HR0.out.below B13.out)).mono ?_
        rintro e w14 ⟨rfl, b14⟩
        have B14 := Lib.hid (B13.out.trans (b14.mono B13.out.size))
        clear b14 B13 C10
        go_wp2_with fail
        refine (C11.out _ (HR0.out.below B14.out)).mono ?_
        rintro e w15 ⟨rfl, b15⟩
        have B15 := Lib.hid (B14.out.trans (b15.mono B14.out.size))
        clear b15 B14 C11
        go_wp2_with fail
        refine (C12.out _ (HR0.out.below B15.out)).mono ?_
        rintro e w16 ⟨rfl, b16⟩
        have B16 := Lib.hid (B15.out.trans (b16.mono B15.out.size))
        clear b16 B15 C12
        go_wp2
        go_ret
        exact ⟨rfl, B16.out⟩
    · rw [if_neg hneg] at hm2
      rw [hm2] at c9
      have hw := sgn_ge (x := g * z) (y := 0) (by omega)
      generalize sgnI (g * z) 0 = u at *
      by_cases hx0 : x = 0
      · have hy0 : ¬ y = 0 := fun e => h00 ⟨hx0, e⟩
        rw [decide_eq_true hx0] at hxb hxb2
        rw [decide_eq_false hy0] at hyb hyb2
        rw [text0] at *
        generalize textI (x * z) = T1 at *
        generalize textI (y * z) = T2 at *
        have hw2 : ¬ u < 0 := by omega
        have hw3 : decide (u < 0) = false := decide_eq_false hw2
        generalize textI (g * z) = T4 at *
        generalize textI g = T5 at *
        generalize textI p = T6 at *
        generalize textI q = T7 at *
        generalize textI x = X at *
        generalize textI y = Y at *
        generalize textI z = Z at *
        generalize sgnI g 0 = v at *
        have hv2 : ¬ v < 0 := by omega
        have hv3 : decide (v < 0) = false := decide_eq_false hv2
        have C1 := Lib.hid c1
        have C2 := Lib.hid c2
        have C3 := Lib.hid c3
        have C4 := Lib.hid c4
        have C5 := Lib.hid c5
        have C6 := Lib.hid c6
        have C7 := Lib.hid c7
        have C8 := Lib.hid c8
        have C9 := Lib.hid c9
        have C10 := Lib.hid c10
        have C11 := Lib.hid c11
        clear c1 c2 c3 c4 c5 c6 c7 c8 c9 c10 c11 hx hy hz fx fy fz hg fg hg0 h00 hgp hgn hp hq fp fq fxz fyz fgz hm hm2 hneg hx0 hy0
        go_wp2_with fail
        refine (C1.out _ (HR0.out.below B4.out)).mono ?_
        rintro e w5 ⟨rfl, b5⟩
        have B5 := Lib.hid (B4.out.trans (b5.mono B4.out.size))
        clear b5 B4 C1
        go_wp2_with fail
        refine (C2.out _ (HR0.out.below B5.out)).mono ?_
        rintro e w6 ⟨rfl, b6⟩
        have B6 := Lib.hid (B5.out.trans (b6.mono B5.out.size))
        clear b6 B5 C2
        go_wp2_with fail
        refine (C3.out _ (HR0.out.below B6.out)).mono ?_
        rintro e w7 ⟨rfl, b7⟩
        have B7 := Lib.hid (B6.out.trans (b7.mono B6.out.size))
        clear b7 B6 C3
        go_wp2_with fail
        refine (C4.out _ (HR0.out.below B7.out)).mono ?_
        rintro e w8 ⟨rfl, b8⟩
        have B8 := Lib.hid (B7.out.trans (b8.mono B7.out.size))
        clear b8 B7 C4
        go_wp2_with fail
        refine (C5.out _ (HR0.out.below B8.out)).mono ?_
        rintro e w9 ⟨rfl, b9⟩
        have B9 := Lib.hid (B8.out.trans (b9.mono B8.out.size))
        clear b9 B8 C5
        go_wp2_with fail
        refine (C6.out _ (HR0.out.below B9.out)).mono ?_
        rintro e w10 ⟨rfl, b10⟩
        have B10 := Lib.hid (B9.out.trans (b10.mono B9.out.size))
        clear b10 B9 C6
        go_wp2_with fail
        refine (C7.out _ (HR0.out.below B10.out)).mono ?_
        rintro e w11 ⟨rfl, b11⟩
        have B11 := Lib.hid (B10.out.trans (b11.mono B10.out.size))
        clear b11 B10 C7
        go_wp2_with fail
        refine (C8.out _ (HR0.out.below B11.out)).mono ?_
        rintro e w12 ⟨rfl, b12⟩
        have B12 := Lib.hid (B11.out.trans (b12.mono B11.out.size))
        clear b12 B11 C8
        go_wp2_with fail
        refine (C9.out _ (HR0.out.below B12.out)).mono ?_
        rintro e w13 ⟨rfl, b13⟩
        have B13 := Lib.hid (B12.out.trans (b13.mono B12.out.size))
        clear b13 B12 C9
        go_wp2_with fail
        refine (C10.out _ (HR0.out.below B13.out)).mono ?_
        rintro e w14 ⟨rfl, b14⟩
        have B14 := Lib.hid (B13.out.trans (b14.mono B13.out.size))
        clear b14 B13 C10
        go_wp2_with fail
        refine (C11.out _ (HR0.out.below B14.out)).mono ?_
        rintro e w15 ⟨rfl, b15⟩
        have B15 := Lib.hid (B14.out.trans (b15.mono B14.out.size))
        clear b15 B14 C11
        go_wp2
        go_ret
        exact ⟨rfl, B15.out⟩
      · rw [decide_eq_false hx0] at hxb hxb2
        clear hyb hyb2
        rw [text0] at *
        generalize textI (x * z) = T1 at *
        generalize textI (y * z) = T2 at *
        have hw2 : ¬ u < 0 := by omega
        have hw3 : decide (u < 0) = false := decide_eq_false hw2
        generalize textI (g * z) = T4 at *
        generalize textI g = T5 at *
        generalize textI p = T6 at *
        generalize textI q = T7 at *
        generalize textI x = X at *
        generalize textI y = Y at *
        generalize textI z = Z at *
        generalize sgnI g 0 = v at *
        have hv2 : ¬ v < 0 := by omega
        have hv3 : decide (v < 0) = false := decide_eq_false hv2
        have C1 := Lib.hid c1
        have C2 := Lib.hid c2
        have C3 := Lib.hid c3
        have C4 := Lib.hid c4
        have C5 := Lib.hid c5
        have C6 := Lib.hid c6
        have C7 := Lib.hid c7
        have C8 := Lib.hid c8
        have C9 := Lib.hid c9
        have C10 := Lib.hid c10
        have C11 := Lib.hid c11
        clear c1 c2 c3 c4 c5 c6 c7 c8 c9 c10 c11 hx hy hz fx fy fz hg fg hg0 h00 hgp hgn hp hq fp fq fxz fyz fgz hm hm2 hneg hx0
        go_wp2_with fail
        refine (C1.out _ (HR0.out.below B4.out)).mono ?_
        rintro e w5 ⟨rfl, b5⟩
        have B5 := Lib.hid (B4.out.trans (b5.mono B4.out.size))
        clear b5 B4 C1
        go_wp2_with fail
        refine (C2.out _ (HR0.out.below B5.out)).mono ?_
        rintro e w6 ⟨rfl, b6⟩
        have B6 := Lib.hid (B5.out.trans (b6.mono B5.out.size))
        clear b6 B5 C2
        go_wp2_with fail
        refine (C3.out _ (HR0.out.below B6.out)).mono ?_
        rintro e w7 ⟨rfl, b7⟩
        have B7 := Lib.hid (B6.out.trans (b7.mono B6.out.size))
        clear b7 B6 C3
        go_wp2_with fail
        refine (C4.out _ (HR0.out.below B7.out)).mono ?_
        rintro e w8 ⟨rfl, b8⟩
        have B8 := Lib.hid (B7.out.trans (b8.mono B7.out.size))
        clear b8 B7 C4
        go_wp2_with fail
        refine (C5.out _ (HR0.out.below B8.out)).mono ?_
        rintro e w9 ⟨rfl, b9⟩
        have B9 := Lib.hid (B8.out.trans (b9.mono B8.out.size))
        clear b9 B8 C5
        go_wp2_with fail
        refine (C6.out _ (HR0.out.below B9.out)).mono ?_
        rintro e w10 ⟨rfl, b10⟩
        have B10 := Lib.hid (B9.out.trans (b10.mono B9.out.size))
        clear b10 B9 C6
        go_wp2_with fail
        refine (C7.out _ (HR0.out.below B10.out)).mono ?_
        rintro e w11 ⟨rfl, b11⟩
        have B11 := Lib.hid (B10.out.trans (b11.mono B10.out.size))
        clear b11 B10 C7
        go_wp2_with fail
        refine (C8.out _ (HR0.out.below B11.out)).mono ?_
        rintro e w12 ⟨rfl, b12⟩
        have B12 := Lib.hid (B11.out.trans (b12.mono B11.out.size))
        clear b12 B11 C8
        go_wp2_with fail
        refine (C9.out _ (HR0.out.below B12.out)).mono ?_
        rintro e w13 ⟨rfl, b13⟩
        have B13 := Lib.hid (B12.out.trans (b13.mono B12.out.size))
        clear b13 B12 C9
        go_wp2_with fail
        refine (C10.out _ (HR0.out.below B13.out)).mono ?_
        rintro e w14 ⟨rfl, b14⟩
        have B14 := Lib.hid (B13.out.trans (b14.mono B13.out.size))
        clear b14 B13 C10
        go_wp2_with fail
        refine (C11.out _ (HR0.out.below B14.out)).mono ?_
        rintro e w15 ⟨rfl, b15⟩
        have B15 := Lib.hid (B14.out.trans (b15.mono B14.out.size))
        clear b15 B14 C11
        go_wp2
        go_ret
        exact ⟨rfl, B15.out⟩
end Go.Proofs.YtildgpahacaglaaDoor
