/-
  IntegerRing returns true for all arguments: the walk.
-/
import Derived.Test.YtildgpahacaglaaDoorFit
namespace Go.Proofs.YtildgpahacaglaaDoor
open Go Go.Proofs Go.RowKit Go.Lib

set_option maxRecDepth 100000 in
set_option maxHeartbeats 4000000 in
theorem integerRing_walk (a : ByteArray) (b : ByteArray) (c : ByteArray) (ha : a.size ≤ maxLen) (hb : b.size ≤ maxLen) (hc : c.size ≤ maxLen) (w : World) (hR : Ready w) :
    Calls Tryd.prog 5 #[.string a, .string b, .string c] w fun e w' => e = .returned (.bool true) ∧ Below w.heap.size w w' := by
  have B0 := Lib.hid (Below.refl w.heap.size w)
  have HR0 := Lib.hid hR
  clear hR
  go_enter Tryd.func5, Tryd.ntmps5
  go_wp2_with fail
  refine (sane_any _ (HR0.out.below B0.out)).mono ?_
  rintro e w1 ⟨rfl, b1⟩
  have B1 := Lib.hid (B0.out.trans (b1.mono B0.out.size))
  clear b1 B0
  go_wp2_with fail
  refine (made_any a ha 60 (by decide) _).mono ?_
  rintro e w2 ⟨x, hx, rfl, b2⟩
  have B2 := Lib.hid (B1.out.trans (b2.mono B1.out.size))
  clear b2 B1
  go_wp2_with fail
  refine (made_any b hb 60 (by decide) _).mono ?_
  rintro e w3 ⟨y, hy, rfl, b3⟩
  have B3 := Lib.hid (B2.out.trans (b3.mono B2.out.size))
  clear b3 B2
  go_wp2_with fail
  refine (made_any c hc 60 (by decide) _).mono ?_
  rintro e w4 ⟨z, hz, rfl, b4⟩
  have B4 := Lib.hid (B3.out.trans (b4.mono B3.out.size))
  clear b4 B3
  have fx := fits_of hx (by decide); have fy := fits_of hy (by decide); have fz := fits_of hz (by decide)
  have hxy := abs_add hx hy; have hyz := abs_add hy hz
  have fxy := fits_of hxy (by decide); have fyz := fits_of hyz (by decide)
  have fxyz := fits_of (abs_add hxy (abs_up hz (show 60 ≤ 61 by decide))) (by decide)
  have pxy := abs_mul hx hy; have pyz := abs_mul hy hz; have pxz := abs_mul hx hz
  have gxy := fits_of pxy (by decide); have gyz := fits_of pyz (by decide); have gxz := fits_of pxz (by decide)
  have gxyz := fits_of (abs_mul pxy hz) (by decide)
  have gl := fits_of (abs_mul hxy hz) (by decide)
  have hd := abs_sub hx hy
  have fd := fits_of hd (by decide)
  have e1 : y + x = x + y := Int.add_comm y x
  have e2 : x + (y + z) = x + y + z := (Int.add_assoc x y z).symm
  have e3 : y * x = x * y := Int.mul_comm y x
  have e4 : x * (y * z) = x * y * z := (Int.mul_assoc x y z).symm
  have e5 : x * z + y * z = (x + y) * z := (Int.add_mul x y z).symm
  have e6 : x - y + y = x := Int.sub_add_cancel x y
  have e7 : x * 1 = x := Int.mul_one x
  have e8 : x * 0 = 0 := Int.mul_zero x
  have c1 := fun W hW => add_fit fx fy fxy W hW
  have c2 := fun W hW => add_fit fy fx (by rw [e1]; exact fxy) W hW
  have c3 := fun W hW => add_fit fxy fz fxyz W hW
  have c4 := fun W hW => add_fit fy fz fyz W hW
  have c5 := fun W hW => add_fit fx fyz (by rw [e2]; exact fxyz) W hW
  have c6 := fun W hW => mul_fit fx fy gxy W hW
  have c7 := fun W hW => mul_fit fy fx (by rw [e3]; exact gxy) W hW
  have c8 := fun W hW => mul_fit gxy fz gxyz W hW
  have c9 := fun W hW => mul_fit fy fz gyz W hW
  have c10 := fun W hW => mul_fit fx gyz (by rw [e4]; exact gxyz) W hW
  have c11 := fun W hW => mul_fit fxy fz gl W hW
  have c12 := fun W hW => mul_fit fx fz gxz W hW
  have c13 := fun W hW => add_fit gxz gyz (by rw [e5]; exact gl) W hW
  have c14 := fun W hW => sub_fit fx fy fd W hW
  have c15 := fun W hW => add_fit fd fy (by rw [e6]; exact fx) W hW
  have c16 := fun W hW => mul_fit fx fits1 (by rw [e7]; exact fx) W hW
  have c17 := fun W hW => mul_fit fx fits0 (by rw [e8]; exact fits0) W hW
  rw [e1] at c2
  rw [e2] at c5
  rw [e3] at c7
  rw [e4] at c10
  rw [e5] at c13
  rw [e6] at c15
  rw [e7, text1] at c16
  rw [e8, text0] at c17
  generalize textI (x + y + z) = T1 at *
  generalize textI (x * y * z) = T2 at *
  generalize textI ((x + y) * z) = T3 at *
  generalize textI (x + y) = T4 at *
  generalize textI (y + z) = T5 at *
  generalize textI (x * y) = T6 at *
  generalize textI (y * z) = T7 at *
  generalize textI (x * z) = T8 at *
  generalize textI (x - y) = T9 at *
  generalize textI x = X at *
  generalize textI y = Y at *
  generalize textI z = Z at *
  have C1 := Lib.hid c1
  have C2 := Lib.hid c2
  have C3 := Lib.hid c3
  have C4 := Lib.hid c4
  have C5 := Lib.hid c5
  have C6 := Lib.hid c6
  have C7 := Lib.hid c7
  have C8 := Lib.hid c8
  have C9 := Lib.hid c9
  have C10 := Lib.hid c10
  have C11 := Lib.hid c11
  have C12 := Lib.hid c12
  have C13 := Lib.hid c13
  have C14 := Lib.hid c14
  have C15 := Lib.hid c15
  have C16 := Lib.hid c16
  have C17 := Lib.hid c17
  clear c1 c2 c3 c4 c5 c6 c7 c8 c9 c10 c11 c12 c13 c14 c15 c16 c17 e1 e2 e3 e4 e5 e6 e7 e8 fx fy fz hxy hyz fxy fyz fxyz pxy pyz pxz gxy gyz gxz gxyz gl hd fd hx hy hz
  go_wp2_with fail
  refine (C1.out _ (HR0.out.below B4.out)).mono ?_
  rintro e w5 ⟨rfl, b5⟩
  have B5 := Lib.hid (B4.out.trans (b5.mono B4.out.size))
  clear b5 B4 C1
  go_wp2_with fail
  refine (C2.out _ (HR0.out.below B5.out)).mono ?_
  rintro e w6 ⟨rfl, b6⟩
  have B6 := Lib.hid (B5.out.trans (b6.mono B5.out.size))
  clear b6 B5 C2
  go_wp2_with fail
  refine (C3.out _ (HR0.out.below B6.out)).mono ?_
  rintro e w7 ⟨rfl, b7⟩
  have B7 := Lib.hid (B6.out.trans (b7.mono B6.out.size))
  clear b7 B6 C3
  go_wp2_with fail
  refine (C4.out _ (HR0.out.below B7.out)).mono ?_
  rintro e w8 ⟨rfl, b8⟩
  have B8 := Lib.hid (B7.out.trans (b8.mono B7.out.size))
  clear b8 B7 C4
  go_wp2_with fail
  refine (C5.out _ (HR0.out.below B8.out)).mono ?_
  rintro e w9 ⟨rfl, b9⟩
  have B9 := Lib.hid (B8.out.trans (b9.mono B8.out.size))
  clear b9 B8 C5
  go_wp2_with fail
  refine (C6.out _ (HR0.out.below B9.out)).mono ?_
  rintro e w10 ⟨rfl, b10⟩
  have B10 := Lib.hid (B9.out.trans (b10.mono B9.out.size))
  clear b10 B9 C6
  go_wp2_with fail
  refine (C7.out _ (HR0.out.below B10.out)).mono ?_
  rintro e w11 ⟨rfl, b11⟩
  have B11 := Lib.hid (B10.out.trans (b11.mono B10.out.size))
  clear b11 B10 C7
  go_wp2_with fail
  refine (C8.out _ (HR0.out.below B11.out)).mono ?_
  rintro e w12 ⟨rfl, b12⟩
  have B12 := Lib.hid (B11.out.trans (b12.mono B11.out.size))
  clear b12 B11 C8
  go_wp2_with fail
  refine (C9.out _ (HR0.out.below B12.out)).mono ?_
  rintro e w13 ⟨rfl, b13⟩
  have B13 := Lib.hid (B12.out.trans (b13.mono B12.out.size))
  clear b13 B12 C9
  go_wp2_with fail
  refine (C10.out _ (HR0.out.below B13.out)).mono ?_
  rintro e w14 ⟨rfl, b14⟩
  have B14 := Lib.hid (B13.out.trans (b14.mono B13.out.size))
  clear b14 B13 C10
  go_wp2_with fail
  refine (C11.out _ (HR0.out.below B14.out)).mono ?_
  rintro e w15 ⟨rfl, b15⟩
  have B15 := Lib.hid (B14.out.trans (b15.mono B14.out.size))
  clear b15 B14 C11
  go_wp2_with fail
  refine (C12.out _ (HR0.out.below B15.out)).mono ?_
  rintro e w16 ⟨rfl, b16⟩
  have B16 := Lib.hid (B15.out.trans (b16.mono B15.out.size))
  clear b16 B15 C12
  go_wp2_with fail
  refine (C13.out _ (HR0.out.below B16.out)).mono ?_
  rintro e w17 ⟨rfl, b17⟩
  have B17 := Lib.hid (B16.out.trans (b17.mono B16.out.size))
  clear b17 B16 C13
  go_wp2_with fail
  refine (C14.out _ (HR0.out.below B17.out)).mono ?_
  rintro e w18 ⟨rfl, b18⟩
  have B18 := Lib.hid (B17.out.trans (b18.mono B17.out.size))
  clear b18 B17 C14
  go_wp2_with fail
  refine (C15.out _ (HR0.out.below B18.out)).mono ?_
  rintro e w19 ⟨rfl, b19⟩
  have B19 := Lib.hid (B18.out.trans (b19.mono B18.out.size))
  clear b19 B18 C15
  go_wp2_with fail
  refine (C16.out _ (HR0.out.below B19.out)).mono ?_
  rintro e w20 ⟨rfl, b20⟩
  have B20 := Lib.hid (B19.out.trans (b20.mono B19.out.size))
  clear b20 B19 C16
  go_wp2_with fail
  refine (C17.out _ (HR0.out.below B20.out)).mono ?_
  rintro e w21 ⟨rfl, b21⟩
  have B21 := Lib.hid (B20.out.trans (b21.mono B20.out.size))
  clear b21 B20 C17
  go_wp2
  go_ret
  exact ⟨rfl, B21.out⟩
end Go.Proofs.YtildgpahacaglaaDoor
