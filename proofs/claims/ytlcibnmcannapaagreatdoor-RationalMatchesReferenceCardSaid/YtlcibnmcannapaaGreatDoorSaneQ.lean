/-
  The contract of the laws' sane: fixed examples.
-/
import Derived.Test.YtlcibnmcannapaaGreatDoorHelpQ
namespace Go.Proofs.YtlcibnmcannapaaGreatDoor
open Go Go.Proofs Go.RowKit Go.Lib

theorem saneC1 (W : World) (h : Ready W) : Calls Tryz.prog 31 #[.int .i64 (6), .int .i64 (-4)] W fun e w' => e = .returned (.tuple #[.agg #[.string ⟨#[45, 51]⟩, .string ⟨#[50]⟩], .int .i64 0]) ∧ Below W.heap.size W w' := by
  have c := of_q (6) (-4) (by decide) (by decide) (by decide) (by decide) W h
  rw [show outN (decide ((-4 : Int) ≠ 0)) (Rat.divInt (6) (-4)) = ⟨#[45, 51]⟩ from by decide +kernel] at c
  rw [show outD (decide ((-4 : Int) ≠ 0)) (Rat.divInt (6) (-4)) = ⟨#[50]⟩ from by decide +kernel] at c
  rw [show outE (decide ((-4 : Int) ≠ 0)) = 0 from by decide +kernel] at c
  exact c
theorem saneC2 (W : World) (h : Ready W) : Calls Tryz.prog 31 #[.int .i64 (0), .int .i64 (-5)] W fun e w' => e = .returned (.tuple #[.agg #[.string ⟨#[48]⟩, .string ⟨#[49]⟩], .int .i64 0]) ∧ Below W.heap.size W w' := by
  have c := of_q (0) (-5) (by decide) (by decide) (by decide) (by decide) W h
  rw [show outN (decide ((-5 : Int) ≠ 0)) (Rat.divInt (0) (-5)) = ⟨#[48]⟩ from by decide +kernel] at c
  rw [show outD (decide ((-5 : Int) ≠ 0)) (Rat.divInt (0) (-5)) = ⟨#[49]⟩ from by decide +kernel] at c
  rw [show outE (decide ((-5 : Int) ≠ 0)) = 0 from by decide +kernel] at c
  exact c
theorem saneC3 (W : World) (h : Ready W) : Calls Tryz.prog 31 #[.int .i64 (1), .int .i64 (0)] W fun e w' => e = .returned (.tuple #[.agg #[.string ⟨#[]⟩, .string ⟨#[]⟩], .int .i64 40]) ∧ Below W.heap.size W w' := by
  have c := of_q (1) (0) (by decide) (by decide) (by decide) (by decide) W h
  rw [show outN (decide ((0 : Int) ≠ 0)) (Rat.divInt (1) (0)) = ⟨#[]⟩ from by decide +kernel] at c
  rw [show outD (decide ((0 : Int) ≠ 0)) (Rat.divInt (1) (0)) = ⟨#[]⟩ from by decide +kernel] at c
  rw [show outE (decide ((0 : Int) ≠ 0)) = 40 from by decide +kernel] at c
  exact c
theorem saneC4 (W : World) (h : Ready W) : Calls Tryz.prog 38 #[.agg #[.string ⟨#[49]⟩, .string ⟨#[50]⟩], .agg #[.string ⟨#[49]⟩, .string ⟨#[51]⟩]] W fun e w' => e = .returned (.tuple #[.agg #[.string ⟨#[53]⟩, .string ⟨#[54]⟩], .int .i64 0]) ∧ Below W.heap.size W w' := by
  have c := add_q ⟨#[49]⟩ ⟨#[50]⟩ ⟨#[49]⟩ ⟨#[51]⟩ (by decide) (by decide) (by decide) (by decide) W h
  rw [show outN (addB ⟨#[49]⟩ ⟨#[50]⟩ ⟨#[49]⟩ ⟨#[51]⟩) (valQ ⟨#[49]⟩ ⟨#[50]⟩ + valQ ⟨#[49]⟩ ⟨#[51]⟩) = ⟨#[53]⟩ from by decide +kernel] at c
  rw [show outD (addB ⟨#[49]⟩ ⟨#[50]⟩ ⟨#[49]⟩ ⟨#[51]⟩) (valQ ⟨#[49]⟩ ⟨#[50]⟩ + valQ ⟨#[49]⟩ ⟨#[51]⟩) = ⟨#[54]⟩ from by decide +kernel] at c
  rw [show outE (addB ⟨#[49]⟩ ⟨#[50]⟩ ⟨#[49]⟩ ⟨#[51]⟩) = 0 from by decide +kernel] at c
  exact c
theorem saneC5 (W : World) (h : Ready W) : Calls Tryz.prog 45 #[.agg #[.string ⟨#[49]⟩, .string ⟨#[50]⟩], .agg #[.string ⟨#[45, 49]⟩, .string ⟨#[52]⟩]] W fun e w' => e = .returned (.tuple #[.agg #[.string ⟨#[45, 50]⟩, .string ⟨#[49]⟩], .int .i64 0]) ∧ Below W.heap.size W w' := by
  have c := div_q ⟨#[49]⟩ ⟨#[50]⟩ ⟨#[45, 49]⟩ ⟨#[52]⟩ (by decide) (by decide) (by decide) (by decide) W h
  rw [show outN (divB ⟨#[49]⟩ ⟨#[50]⟩ ⟨#[45, 49]⟩ ⟨#[52]⟩) (valQ ⟨#[49]⟩ ⟨#[50]⟩ / valQ ⟨#[45, 49]⟩ ⟨#[52]⟩) = ⟨#[45, 50]⟩ from by decide +kernel] at c
  rw [show outD (divB ⟨#[49]⟩ ⟨#[50]⟩ ⟨#[45, 49]⟩ ⟨#[52]⟩) (valQ ⟨#[49]⟩ ⟨#[50]⟩ / valQ ⟨#[45, 49]⟩ ⟨#[52]⟩) = ⟨#[49]⟩ from by decide +kernel] at c
  rw [show outE (divB ⟨#[49]⟩ ⟨#[50]⟩ ⟨#[45, 49]⟩ ⟨#[52]⟩) = 0 from by decide +kernel] at c
  exact c
theorem saneC6 (W : World) (h : Ready W) : Calls Tryz.prog 45 #[.agg #[.string ⟨#[49]⟩, .string ⟨#[49]⟩], .agg #[.string ⟨#[48]⟩, .string ⟨#[49]⟩]] W fun e w' => e = .returned (.tuple #[.agg #[.string ⟨#[]⟩, .string ⟨#[]⟩], .int .i64 40]) ∧ Below W.heap.size W w' := by
  have c := div_q ⟨#[49]⟩ ⟨#[49]⟩ ⟨#[48]⟩ ⟨#[49]⟩ (by decide) (by decide) (by decide) (by decide) W h
  rw [show outN (divB ⟨#[49]⟩ ⟨#[49]⟩ ⟨#[48]⟩ ⟨#[49]⟩) (valQ ⟨#[49]⟩ ⟨#[49]⟩ / valQ ⟨#[48]⟩ ⟨#[49]⟩) = ⟨#[]⟩ from by decide +kernel] at c
  rw [show outD (divB ⟨#[49]⟩ ⟨#[49]⟩ ⟨#[48]⟩ ⟨#[49]⟩) (valQ ⟨#[49]⟩ ⟨#[49]⟩ / valQ ⟨#[48]⟩ ⟨#[49]⟩) = ⟨#[]⟩ from by decide +kernel] at c
  rw [show outE (divB ⟨#[49]⟩ ⟨#[49]⟩ ⟨#[48]⟩ ⟨#[49]⟩) = 40 from by decide +kernel] at c
  exact c
theorem saneC7 (W : World) (h : Ready W) : Calls Tryz.prog 23 #[.agg #[.string ⟨#[45, 49]⟩, .string ⟨#[51]⟩], .int .i64 2] W fun e w' => e = .returned (.tuple #[.agg #[.string ⟨#[45, 49, 55]⟩, .string ⟨#[53, 48]⟩], .int .i64 0]) ∧ Below W.heap.size W w' := by
  have c := down_q ⟨#[45, 49]⟩ ⟨#[51]⟩ (by decide) (by decide) 2 (by decide) (by decide) W h
  rw [show outN (gridB ⟨#[45, 49]⟩ ⟨#[51]⟩ 2) (downV ⟨#[45, 49]⟩ ⟨#[51]⟩ 2) = ⟨#[45, 49, 55]⟩ from by decide +kernel] at c
  rw [show outD (gridB ⟨#[45, 49]⟩ ⟨#[51]⟩ 2) (downV ⟨#[45, 49]⟩ ⟨#[51]⟩ 2) = ⟨#[53, 48]⟩ from by decide +kernel] at c
  rw [show outE (gridB ⟨#[45, 49]⟩ ⟨#[51]⟩ 2) = 0 from by decide +kernel] at c
  exact c
theorem saneC8 (W : World) (h : Ready W) : Calls Tryz.prog 25 #[.agg #[.string ⟨#[49]⟩, .string ⟨#[51]⟩], .int .i64 2] W fun e w' => e = .returned (.tuple #[.agg #[.string ⟨#[49, 55]⟩, .string ⟨#[53, 48]⟩], .int .i64 0]) ∧ Below W.heap.size W w' := by
  have c := up_q ⟨#[49]⟩ ⟨#[51]⟩ (by decide) (by decide) 2 (by decide) (by decide) W h
  rw [show outN (gridB ⟨#[49]⟩ ⟨#[51]⟩ 2) (upV ⟨#[49]⟩ ⟨#[51]⟩ 2) = ⟨#[49, 55]⟩ from by decide +kernel] at c
  rw [show outD (gridB ⟨#[49]⟩ ⟨#[51]⟩ 2) (upV ⟨#[49]⟩ ⟨#[51]⟩ 2) = ⟨#[53, 48]⟩ from by decide +kernel] at c
  rw [show outE (gridB ⟨#[49]⟩ ⟨#[51]⟩ 2) = 0 from by decide +kernel] at c
  exact c
theorem saneC9 (W : World) (h : Ready W) : Calls Tryz.prog 34 #[.string ⟨#[45, 51, 47, 50]⟩] W fun e w' => e = .returned (.tuple #[.agg #[.string ⟨#[45, 51]⟩, .string ⟨#[50]⟩], .int .i64 0]) ∧ Below W.heap.size W w' := by
  have c := parse_q ⟨#[45, 51, 47, 50]⟩ (by decide) W h
  rw [show parN ⟨#[45, 51, 47, 50]⟩ = ⟨#[45, 51]⟩ from by decide +kernel] at c
  rw [show parD ⟨#[45, 51, 47, 50]⟩ = ⟨#[50]⟩ from by decide +kernel] at c
  rw [show parE ⟨#[45, 51, 47, 50]⟩ = 0 from by decide +kernel] at c
  exact c
theorem saneC10 (W : World) (h : Ready W) : Calls Tryz.prog 34 #[.string ⟨#[54, 47, 52]⟩] W fun e w' => e = .returned (.tuple #[.agg #[.string ⟨#[]⟩, .string ⟨#[]⟩], .int .i64 40]) ∧ Below W.heap.size W w' := by
  have c := parse_q ⟨#[54, 47, 52]⟩ (by decide) W h
  rw [show parN ⟨#[54, 47, 52]⟩ = ⟨#[]⟩ from by decide +kernel] at c
  rw [show parD ⟨#[54, 47, 52]⟩ = ⟨#[]⟩ from by decide +kernel] at c
  rw [show parE ⟨#[54, 47, 52]⟩ = 40 from by decide +kernel] at c
  exact c
theorem saneC11 (W : World) (h : Ready W) : Calls Tryz.prog 33 #[.agg #[.string ⟨#[45, 51]⟩, .string ⟨#[50]⟩]] W fun e w' => e = .returned (.string ⟨#[45, 51, 47, 50]⟩) ∧ Below W.heap.size W w' := by
  have c := print_q ⟨#[45, 51]⟩ ⟨#[50]⟩ (by decide) (by decide) W h
  rw [show printB ⟨#[45, 51]⟩ ⟨#[50]⟩ = ⟨#[45, 51, 47, 50]⟩ from by decide +kernel] at c
  exact c
theorem saneC12 (W : World) (h : Ready W) : Calls Tryz.prog 20 #[.agg #[.string ⟨#[49]⟩, .string ⟨#[51]⟩], .agg #[.string ⟨#[51, 51, 51, 51, 51]⟩, .string ⟨#[49, 48, 48, 48, 48, 48]⟩]] W fun e w' => e = .returned (.int .i64 1) ∧ Below W.heap.size W w' := by
  have c := cmp_q ⟨#[49]⟩ ⟨#[51]⟩ ⟨#[51, 51, 51, 51, 51]⟩ ⟨#[49, 48, 48, 48, 48, 48]⟩ (by decide) (by decide) (by decide) (by decide) W h
  rw [show cmpQ ⟨#[49]⟩ ⟨#[51]⟩ ⟨#[51, 51, 51, 51, 51]⟩ ⟨#[49, 48, 48, 48, 48, 48]⟩ = 1 from by decide +kernel] at c
  exact c
theorem saneC13 (W : World) (h : Ready W) : Calls Tryz.prog 29 #[.agg #[.string ⟨#[45, 51]⟩, .string ⟨#[50]⟩]] W fun e w' => e = .returned (.bool true) ∧ Below W.heap.size W w' := by
  have c := valid_q ⟨#[45, 51]⟩ ⟨#[50]⟩ (by decide) (by decide) W h
  rw [show validQ ⟨#[45, 51]⟩ ⟨#[50]⟩ = true from by decide +kernel] at c
  exact c
theorem saneC14 (W : World) (h : Ready W) : Calls Tryz.prog 29 #[.agg #[.string ⟨#[]⟩, .string ⟨#[]⟩]] W fun e w' => e = .returned (.bool false) ∧ Below W.heap.size W w' := by
  have c := valid_q ⟨#[]⟩ ⟨#[]⟩ (by decide) (by decide) W h
  rw [show validQ ⟨#[]⟩ ⟨#[]⟩ = false from by decide +kernel] at c
  exact c
set_option maxRecDepth 100000 in
set_option maxHeartbeats 16000000 in
theorem sane_any (w : World) (hR : Ready w) : Calls Tryz.prog 11 #[] w fun e w' => e = .returned (.bool true) ∧ Below w.heap.size w w' := by
  have C1 := Lib.hid saneC1
  have C2 := Lib.hid saneC2
  have C3 := Lib.hid saneC3
  have C4 := Lib.hid saneC4
  have C5 := Lib.hid saneC5
  have C6 := Lib.hid saneC6
  have C7 := Lib.hid saneC7
  have C8 := Lib.hid saneC8
  have C9 := Lib.hid saneC9
  have C10 := Lib.hid saneC10
  have C11 := Lib.hid saneC11
  have C12 := Lib.hid saneC12
  have C13 := Lib.hid saneC13
  have C14 := Lib.hid saneC14
  have IS := Lib.hid is_any
  have HR := Lib.hid hR
  clear hR
  have P0 := Lib.hid (Below.refl w.heap.size w)
  go_enter Tryz.func11, Tryz.ntmps11
  go_wp2_with fail
  refine (C1.out _ (HR.out.below P0.out)).mono ?_
  rintro e x1 ⟨rfl, b1⟩
  have B1 := Lib.hid b1
  have P1 := Lib.hid (below_up P0.out b1)
  clear b1
  obtain ⟨x2, hx2, b2, f2⟩ := box_one x1 ⟨#[45, 51]⟩ ⟨#[50]⟩
  have V2 := Lib.hid hx2; have F2 := Lib.hid f2; have B2 := Lib.hid b2
  have P2 := Lib.hid (below_up P1.out b2)
  clear hx2 b2 f2
  go_wp2_with fail
  rw [V2.out]
  refine (C2.out _ (HR.out.below P2.out)).mono ?_
  rintro e x3 ⟨rfl, b3⟩
  have B3 := Lib.hid b3
  have P3 := Lib.hid (below_up P2.out b3)
  clear b3
  obtain ⟨x4, hx4, b4, f4⟩ := box_one x3 ⟨#[48]⟩ ⟨#[49]⟩
  have V4 := Lib.hid hx4; have F4 := Lib.hid f4; have B4 := Lib.hid b4
  have P4 := Lib.hid (below_up P3.out b4)
  clear hx4 b4 f4
  go_wp2_with fail
  rw [V4.out]
  refine (C3.out _ (HR.out.below P4.out)).mono ?_
  rintro e x5 ⟨rfl, b5⟩
  have B5 := Lib.hid b5
  have P5 := Lib.hid (below_up P4.out b5)
  clear b5
  obtain ⟨x6, hx6, b6, f6⟩ := box_one x5 ⟨#[]⟩ ⟨#[]⟩
  have V6 := Lib.hid hx6; have F6 := Lib.hid f6; have B6 := Lib.hid b6
  have P6 := Lib.hid (below_up P5.out b6)
  clear hx6 b6 f6
  go_wp2_with fail
  rw [V6.out]
  refine (IS.out _ _ _).mono ?_
  rintro e x7 ⟨rfl, b7⟩
  have B7 := Lib.hid b7
  have P7 := Lib.hid (below_up P6.out b7)
  clear b7
  go_wp2_with fail
  refine (IS.out _ _ _).mono ?_
  rintro e x8 ⟨rfl, b8⟩
  have B8 := Lib.hid b8
  have P8 := Lib.hid (below_up P7.out b8)
  clear b8
  go_wp2_with fail
  refine (C4.out _ (HR.out.below P8.out)).mono ?_
  rintro e x9 ⟨rfl, b9⟩
  have B9 := Lib.hid b9
  have P9 := Lib.hid (below_up P8.out b9)
  clear b9
  obtain ⟨x10, hx10, b10, f10⟩ := box_one x9 ⟨#[53]⟩ ⟨#[54]⟩
  have V10 := Lib.hid hx10; have F10 := Lib.hid f10; have B10 := Lib.hid b10
  have P10 := Lib.hid (below_up P9.out b10)
  clear hx10 b10 f10
  go_wp2_with fail
  rw [V10.out]
  refine (IS.out _ _ _).mono ?_
  rintro e x11 ⟨rfl, b11⟩
  have B11 := Lib.hid b11
  have P11 := Lib.hid (below_up P10.out b11)
  clear b11
  go_wp2_with fail
  refine (IS.out _ _ _).mono ?_
  rintro e x12 ⟨rfl, b12⟩
  have B12 := Lib.hid b12
  have P12 := Lib.hid (below_up P11.out b12)
  clear b12
  go_wp2_with fail
  refine (C5.out _ (HR.out.below P12.out)).mono ?_
  rintro e x13 ⟨rfl, b13⟩
  have B13 := Lib.hid b13
  have P13 := Lib.hid (below_up P12.out b13)
  clear b13
  obtain ⟨x14, hx14, b14, f14⟩ := box_one x13 ⟨#[45, 50]⟩ ⟨#[49]⟩
  have V14 := Lib.hid hx14; have F14 := Lib.hid f14; have B14 := Lib.hid b14
  have P14 := Lib.hid (below_up P13.out b14)
  clear hx14 b14 f14
  go_upto_region 6 with fail
  rw [V14.out]
  go_cut [11, 12] from 46 to 52 (fun s11 s12 wx => s12 = .int .i64 40 ∧ Hid (Below x14.heap.size x14 wx))
  case first =>
    have K3 := Lib.hid (fun W (b : Below x14.heap.size x14 W) => And.intro (F4.out W (below_up B5.out (below_up B6.out (below_up B7.out (below_up B8.out (below_up B9.out (below_up B10.out (below_up B11.out (below_up B12.out (below_up B13.out (below_up B14.out b))))))))))).1 (F4.out W (below_up B5.out (below_up B6.out (below_up B7.out (below_up B8.out (below_up B9.out (below_up B10.out (below_up B11.out (below_up B12.out (below_up B13.out (below_up B14.out b))))))))))).2.1)
    go_region_held3 (fun W => W.cell? ⟨x3.heap.size, 0, none⟩ = some (.string ⟨#[48]⟩) ∧ W.cell? ⟨x3.heap.size, 1, none⟩ = some (.string ⟨#[49]⟩)) (first | exact K3.out _ ⟨rfl, rfl, rfl, Nat.le_refl _, fun _ _ => rfl⟩ | exact K3.out _ (((Below.refl _ _).alloc (Nat.le_refl _) _).drew) | exact K3.out _ ((Below.refl _ _).drew.alloc (Nat.le_refl _) _) | exact K3.out _ h2 | exact K3.out _ (h2.alloc h2.size _) | exact K3.out _ ((h2.setCell (p := _) (by first | exact Nat.le_refl _ | exact h1.size) _).setCell (p := _) (by first | exact Nat.le_refl _ | exact h1.size) _) | exact K3.out _ h1 | exact K3.out _ (h1.alloc h1.size _)) (first | (go_at_call 41; (with_reducible refine (IS.out _ _ _).mono ?_); (rintro e y1 ⟨rfl, hb1'⟩); (have h1 : Below x14.heap.size x14 y1 := below_up (by first | exact (Below.refl _ _).drew | exact ((Below.refl _ _).alloc (Nat.le_refl _) _).drew | exact ((Below.refl _ _).drew.alloc (Nat.le_refl _) _)) hb1'); (first | (have e1 : RatAt y1 x14.heap.size ⟨#[]⟩ ⟨#[]⟩ := ratAt_alloc (W := x14) (t := 23) ⟨hb1'.os, hb1'.tape, hb1'.output, hb1'.size, hb1'.block⟩) | (have e1 : RatAt y1 x14.heap.size ⟨#[]⟩ ⟨#[]⟩ := ratAt_alloc (W := x14.drew) (t := 23) hb1') | skip)) | (go_at_call 45; (refine (C6.out _ (HR.out.below (below_up P14.out (by first | exact h1 | exact h1.alloc h1.size _)))).mono ?_); (rintro e y2 ⟨rfl, hb2'⟩); (have h2 : Below x14.heap.size x14 y2 := below_up (by first | exact h1 | exact h1.alloc h1.size _) hb2'); (first | ((have e2 := RatAt.below e1 hb2'); (obtain ⟨q1, q2, q3, q4⟩ := e2)) | ((have e2 := ratAt_alloc (W := y1) hb2'); (obtain ⟨q1, q2, q3, q4⟩ := e2)) | skip)))
    all_goals (go_wp2_with fail; go_meet; exact ⟨rfl, by first | exact h2 | exact h2.alloc h2.size _ | exact (h2.setCell (p := _) (by first | exact Nat.le_refl _ | exact h1.size) _).setCell (p := _) (by first | exact Nat.le_refl _ | exact h1.size) _⟩)
  case rest =>
    obtain ⟨rfl, hbx⟩ := hcut
    generalize wc = x15 at *
    have B15 := Lib.hid hbx.out
    have P15 := Lib.hid (below_up P14.out hbx.out)
    clear hbx
    go_wp2_with fail
    refine (IS.out _ _ _).mono ?_
    rintro e x16 ⟨rfl, b16⟩
    have B16 := Lib.hid b16
    have P16 := Lib.hid (below_up P15.out b16)
    clear b16
    go_wp2_with fail
    refine (C7.out _ (HR.out.below P16.out)).mono ?_
    rintro e x17 ⟨rfl, b17⟩
    have B17 := Lib.hid b17
    have P17 := Lib.hid (below_up P16.out b17)
    clear b17
    obtain ⟨x18, hx18, b18, f18⟩ := box_one x17 ⟨#[45, 49, 55]⟩ ⟨#[53, 48]⟩
    have V18 := Lib.hid hx18; have F18 := Lib.hid f18; have B18 := Lib.hid b18
    have P18 := Lib.hid (below_up P17.out b18)
    clear hx18 b18 f18
    go_wp2_with fail
    rw [V18.out]
    refine (IS.out _ _ _).mono ?_
    rintro e x19 ⟨rfl, b19⟩
    have B19 := Lib.hid b19
    have P19 := Lib.hid (below_up P18.out b19)
    clear b19
    go_wp2_with fail
    refine (C8.out _ (HR.out.below P19.out)).mono ?_
    rintro e x20 ⟨rfl, b20⟩
    have B20 := Lib.hid b20
    have P20 := Lib.hid (below_up P19.out b20)
    clear b20
    obtain ⟨x21, hx21, b21, f21⟩ := box_one x20 ⟨#[49, 55]⟩ ⟨#[53, 48]⟩
    have V21 := Lib.hid hx21; have F21 := Lib.hid f21; have B21 := Lib.hid b21
    have P21 := Lib.hid (below_up P20.out b21)
    clear hx21 b21 f21
    go_wp2_with fail
    rw [V21.out]
    refine (C9.out _ (HR.out.below P21.out)).mono ?_
    rintro e x22 ⟨rfl, b22⟩
    have B22 := Lib.hid b22
    have P22 := Lib.hid (below_up P21.out b22)
    clear b22
    obtain ⟨x23, hx23, b23, f23⟩ := box_one x22 ⟨#[45, 51]⟩ ⟨#[50]⟩
    have V23 := Lib.hid hx23; have F23 := Lib.hid f23; have B23 := Lib.hid b23
    have P23 := Lib.hid (below_up P22.out b23)
    clear hx23 b23 f23
    go_wp2_with fail
    rw [V23.out]
    refine (C10.out _ (HR.out.below P23.out)).mono ?_
    rintro e x24 ⟨rfl, b24⟩
    have B24 := Lib.hid b24
    have P24 := Lib.hid (below_up P23.out b24)
    clear b24
    obtain ⟨x25, hx25, b25, f25⟩ := box_one x24 ⟨#[]⟩ ⟨#[]⟩
    have V25 := Lib.hid hx25; have F25 := Lib.hid f25; have B25 := Lib.hid b25
    have P25 := Lib.hid (below_up P24.out b25)
    clear hx25 b25 f25
    go_wp2_with fail
    rw [V25.out]
    have K := Lib.hid (show ∀ W, Below x25.heap.size x25 W → ((W.cell? ⟨x1.heap.size, 0, none⟩ = some (.string ⟨#[45, 51]⟩) ∧ W.cell? ⟨x1.heap.size, 1, none⟩ = some (.string ⟨#[50]⟩)) ∧ (W.cell? ⟨x3.heap.size, 0, none⟩ = some (.string ⟨#[48]⟩) ∧ W.cell? ⟨x3.heap.size, 1, none⟩ = some (.string ⟨#[49]⟩)) ∧ (W.cell? ⟨x9.heap.size, 0, none⟩ = some (.string ⟨#[53]⟩) ∧ W.cell? ⟨x9.heap.size, 1, none⟩ = some (.string ⟨#[54]⟩)) ∧ (W.cell? ⟨x13.heap.size, 0, none⟩ = some (.string ⟨#[45, 50]⟩) ∧ W.cell? ⟨x13.heap.size, 1, none⟩ = some (.string ⟨#[49]⟩)) ∧ (W.cell? ⟨x17.heap.size, 0, none⟩ = some (.string ⟨#[45, 49, 55]⟩) ∧ W.cell? ⟨x17.heap.size, 1, none⟩ = some (.string ⟨#[53, 48]⟩)) ∧ (W.cell? ⟨x20.heap.size, 0, none⟩ = some (.string ⟨#[49, 55]⟩) ∧ W.cell? ⟨x20.heap.size, 1, none⟩ = some (.string ⟨#[53, 48]⟩)) ∧ (W.cell? ⟨x22.heap.size, 0, none⟩ = some (.string ⟨#[45, 51]⟩) ∧ W.cell? ⟨x22.heap.size, 1, none⟩ = some (.string ⟨#[50]⟩))) from fun W b => ⟨⟨(F2.out W (below_up B3.out (below_up B4.out (below_up B5.out (below_up B6.out (below_up B7.out (below_up B8.out (below_up B9.out (below_up B10.out (below_up B11.out (below_up B12.out (below_up B13.out (below_up B14.out (below_up B15.out (below_up B16.out (below_up B17.out (below_up B18.out (below_up B19.out (below_up B20.out (below_up B21.out (below_up B22.out (below_up B23.out (below_up B24.out (below_up B25.out b)))))))))))))))))))))))).1, (F2.out W (below_up B3.out (below_up B4.out (below_up B5.out (below_up B6.out (below_up B7.out (below_up B8.out (below_up B9.out (below_up B10.out (below_up B11.out (below_up B12.out (below_up B13.out (below_up B14.out (below_up B15.out (below_up B16.out (below_up B17.out (below_up B18.out (below_up B19.out (below_up B20.out (below_up B21.out (below_up B22.out (below_up B23.out (below_up B24.out (below_up B25.out b)))))))))))))))))))))))).2.1⟩, ⟨(F4.out W (below_up B5.out (below_up B6.out (below_up B7.out (below_up B8.out (below_up B9.out (below_up B10.out (below_up B11.out (below_up B12.out (below_up B13.out (below_up B14.out (below_up B15.out (below_up B16.out (below_up B17.out (below_up B18.out (below_up B19.out (below_up B20.out (below_up B21.out (below_up B22.out (below_up B23.out (below_up B24.out (below_up B25.out b)))))))))))))))))))))).1, (F4.out W (below_up B5.out (below_up B6.out (below_up B7.out (below_up B8.out (below_up B9.out (below_up B10.out (below_up B11.out (below_up B12.out (below_up B13.out (below_up B14.out (below_up B15.out (below_up B16.out (below_up B17.out (below_up B18.out (below_up B19.out (below_up B20.out (below_up B21.out (below_up B22.out (below_up B23.out (below_up B24.out (below_up B25.out b)))))))))))))))))))))).2.1⟩, ⟨(F10.out W (below_up B11.out (below_up B12.out (below_up B13.out (below_up B14.out (below_up B15.out (below_up B16.out (below_up B17.out (below_up B18.out (below_up B19.out (below_up B20.out (below_up B21.out (below_up B22.out (below_up B23.out (below_up B24.out (below_up B25.out b)))))))))))))))).1, (F10.out W (below_up B11.out (below_up B12.out (below_up B13.out (below_up B14.out (below_up B15.out (below_up B16.out (below_up B17.out (below_up B18.out (below_up B19.out (below_up B20.out (below_up B21.out (below_up B22.out (below_up B23.out (below_up B24.out (below_up B25.out b)))))))))))))))).2.1⟩, ⟨(F14.out W (below_up B15.out (below_up B16.out (below_up B17.out (below_up B18.out (below_up B19.out (below_up B20.out (below_up B21.out (below_up B22.out (below_up B23.out (below_up B24.out (below_up B25.out b)))))))))))).1, (F14.out W (below_up B15.out (below_up B16.out (below_up B17.out (below_up B18.out (below_up B19.out (below_up B20.out (below_up B21.out (below_up B22.out (below_up B23.out (below_up B24.out (below_up B25.out b)))))))))))).2.1⟩, ⟨(F18.out W (below_up B19.out (below_up B20.out (below_up B21.out (below_up B22.out (below_up B23.out (below_up B24.out (below_up B25.out b)))))))).1, (F18.out W (below_up B19.out (below_up B20.out (below_up B21.out (below_up B22.out (below_up B23.out (below_up B24.out (below_up B25.out b)))))))).2.1⟩, ⟨(F21.out W (below_up B22.out (below_up B23.out (below_up B24.out (below_up B25.out b))))).1, (F21.out W (below_up B22.out (below_up B23.out (below_up B24.out (below_up B25.out b))))).2.1⟩, ⟨(F23.out W (below_up B24.out (below_up B25.out b))).1, (F23.out W (below_up B24.out (below_up B25.out b))).2.1⟩⟩)
    have HRz := Lib.hid (HR.out.below P25.out)
    go_region_held3 (fun W => (W.cell? ⟨x1.heap.size, 0, none⟩ = some (.string ⟨#[45, 51]⟩) ∧ W.cell? ⟨x1.heap.size, 1, none⟩ = some (.string ⟨#[50]⟩)) ∧ (W.cell? ⟨x3.heap.size, 0, none⟩ = some (.string ⟨#[48]⟩) ∧ W.cell? ⟨x3.heap.size, 1, none⟩ = some (.string ⟨#[49]⟩)) ∧ (W.cell? ⟨x9.heap.size, 0, none⟩ = some (.string ⟨#[53]⟩) ∧ W.cell? ⟨x9.heap.size, 1, none⟩ = some (.string ⟨#[54]⟩)) ∧ (W.cell? ⟨x13.heap.size, 0, none⟩ = some (.string ⟨#[45, 50]⟩) ∧ W.cell? ⟨x13.heap.size, 1, none⟩ = some (.string ⟨#[49]⟩)) ∧ (W.cell? ⟨x17.heap.size, 0, none⟩ = some (.string ⟨#[45, 49, 55]⟩) ∧ W.cell? ⟨x17.heap.size, 1, none⟩ = some (.string ⟨#[53, 48]⟩)) ∧ (W.cell? ⟨x20.heap.size, 0, none⟩ = some (.string ⟨#[49, 55]⟩) ∧ W.cell? ⟨x20.heap.size, 1, none⟩ = some (.string ⟨#[53, 48]⟩)) ∧ (W.cell? ⟨x22.heap.size, 0, none⟩ = some (.string ⟨#[45, 51]⟩) ∧ W.cell? ⟨x22.heap.size, 1, none⟩ = some (.string ⟨#[50]⟩))) (first | exact K.out _ ⟨rfl, rfl, rfl, Nat.le_refl _, fun _ _ => rfl⟩ | exact K.out _ g12 | exact K.out _ g11 | exact K.out _ g10 | exact K.out _ g9 | exact K.out _ g8 | exact K.out _ g7 | exact K.out _ g6 | exact K.out _ g5 | exact K.out _ g4 | exact K.out _ g3 | exact K.out _ g2 | exact K.out _ g1) (first | (go_at_call 41; (with_reducible refine (IS.out ⟨#[45, 51]⟩ ⟨#[50]⟩ _).mono ?_); (rintro e y1 ⟨rfl, k1⟩); (have g1 : Below x25.heap.size x25 y1 := ⟨k1.os, k1.tape, k1.output, k1.size, k1.block⟩)) | (go_at_call 41; (with_reducible refine (IS.out ⟨#[48]⟩ ⟨#[49]⟩ _).mono ?_); (rintro e y2 ⟨rfl, k2⟩); (have g2 : Below x25.heap.size x25 y2 := below_up g1 k2)) | (go_at_call 41; (with_reducible refine (IS.out ⟨#[53]⟩ ⟨#[54]⟩ _).mono ?_); (rintro e y3 ⟨rfl, k3⟩); (have g3 : Below x25.heap.size x25 y3 := below_up g2 k3)) | (go_at_call 41; (with_reducible refine (IS.out ⟨#[45, 50]⟩ ⟨#[49]⟩ _).mono ?_); (rintro e y4 ⟨rfl, k4⟩); (have g4 : Below x25.heap.size x25 y4 := below_up g3 k4)) | (go_at_call 41; (with_reducible refine (IS.out ⟨#[45, 49, 55]⟩ ⟨#[53, 48]⟩ _).mono ?_); (rintro e y5 ⟨rfl, k5⟩); (have g5 : Below x25.heap.size x25 y5 := below_up g4 k5)) | (go_at_call 41; (with_reducible refine (IS.out ⟨#[49, 55]⟩ ⟨#[53, 48]⟩ _).mono ?_); (rintro e y6 ⟨rfl, k6⟩); (have g6 : Below x25.heap.size x25 y6 := below_up g5 k6)) | (go_at_call 33; (with_reducible refine (C11.out _ ?_).mono ?_); exact HRz.out.below g6; (rintro e y7 ⟨rfl, k7⟩); (have g7 : Below x25.heap.size x25 y7 := below_up g6 k7)) | (go_at_call 41; (with_reducible refine (IS.out ⟨#[49]⟩ ⟨#[51]⟩ _).mono ?_); (rintro e y8 ⟨rfl, k8⟩); (have g8 : Below x25.heap.size x25 y8 := below_up g7 k8)) | (go_at_call 41; (with_reducible refine (IS.out ⟨#[51, 51, 51, 51, 51]⟩ ⟨#[49, 48, 48, 48, 48, 48]⟩ _).mono ?_); (rintro e y9 ⟨rfl, k9⟩); (have g9 : Below x25.heap.size x25 y9 := below_up g8 k9)) | (go_at_call 20; (with_reducible refine (C12.out _ ?_).mono ?_); exact HRz.out.below g9; (rintro e y10 ⟨rfl, k10⟩); (have g10 : Below x25.heap.size x25 y10 := below_up g9 k10)) | (go_at_call 29; (with_reducible refine (C13.out _ ?_).mono ?_); exact HRz.out.below g10; (rintro e y11 ⟨rfl, k11⟩); (have g11 : Below x25.heap.size x25 y11 := below_up g10 k11)) | (go_at_call 29; (with_reducible refine (C14.out _ ?_).mono ?_); exact HRz.out.below g11; (rintro e y12 ⟨rfl, k12⟩); (have g12 : Below x25.heap.size x25 y12 := below_up g11 k12)))
    all_goals (
      have PE := Lib.hid (below_up P25.out g12)
      go_wp2
      go_ret
      exact ⟨rfl, PE.out⟩)
end Go.Proofs.YtlcibnmcannapaaGreatDoor
