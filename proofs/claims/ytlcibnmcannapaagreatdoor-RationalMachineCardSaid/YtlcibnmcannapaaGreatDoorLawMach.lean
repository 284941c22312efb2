/-
  RationalMachine: its walk.
-/
import Derived.Test.YtlcibnmcannapaaGreatDoorMachQ
import Derived.Test.YtlcibnmcannapaaGreatDoorSaneQ
import Derived.Test.YtlcibnmcannapaaGreatDoorRto
namespace Go.Proofs.YtlcibnmcannapaaGreatDoor
open Go Go.Proofs Go.RowKit Go.Lib

theorem box_eightM (w : World) (t0 t1 t2 t3 t4 t5 t6 t7 : ByteArray) (c0 c1 c2 c3 : Int) : ∃ W0, (w.alloc (.cells #[.string t0, .string t1, .string t2, .string t3, .string t4, .string t5, .string t6, .string t7] 31)).alloc (.cells #[.int .i64 c0, .int .i64 c1, .int .i64 c2, .int .i64 c3] 33) = W0 ∧ Below w.heap.size w W0 ∧
    ∀ W, Below W0.heap.size W0 W → CellsAt W w.heap.size [.string t0, .string t1, .string t2, .string t3, .string t4, .string t5, .string t6, .string t7] ∧ CellsAt W (w.heap.size + 1) [.int .i64 c0, .int .i64 c1, .int .i64 c2, .int .i64 c3] := by
  obtain ⟨W1, h1⟩ : ∃ W, w.alloc (.cells #[.string t0, .string t1, .string t2, .string t3, .string t4, .string t5, .string t6, .string t7] 31) = W := ⟨_, rfl⟩
  obtain ⟨W2, h2⟩ : ∃ W, W1.alloc (.cells #[.int .i64 c0, .int .i64 c1, .int .i64 c2, .int .i64 c3] 33) = W := ⟨_, rfl⟩
  have s1 : W1.heap.size = w.heap.size + 1 := by rw [← h1]; simp
  have b1 : Below w.heap.size w W1 := by rw [← h1]; exact (Below.refl _ _).alloc (Nat.le_refl _) _
  have b2 : Below W1.heap.size W1 W2 := by rw [← h2]; exact (Below.refl _ _).alloc (Nat.le_refl _) _
  have k1 := cellsAt_of (vs := [.string t0, .string t1, .string t2, .string t3, .string t4, .string t5, .string t6, .string t7]) (heap_alloc_new w (.cells #[.string t0, .string t1, .string t2, .string t3, .string t4, .string t5, .string t6, .string t7] 31))
  have k2 := cellsAt_of (vs := [.int .i64 c0, .int .i64 c1, .int .i64 c2, .int .i64 c3]) (heap_alloc_new W1 (.cells #[.int .i64 c0, .int .i64 c1, .int .i64 c2, .int .i64 c3] 33))
  rw [h1] at k1
  rw [h2, s1] at k2
  exact ⟨W2, by rw [h1, h2], below_up b1 b2, fun W hb => ⟨(k1.below b2).below hb, k2.below hb⟩⟩
theorem box_want (w : World) (u0 u1 u2 u3 u4 u5 u6 u7 : Int) : ∃ W0, w.alloc (.cells #[.int .i64 u0, .int .i64 u1, .int .i64 u2, .int .i64 u3, .int .i64 u4, .int .i64 u5, .int .i64 u6, .int .i64 u7] 51) = W0 ∧ Below w.heap.size w W0 ∧
    ∀ W, Below W0.heap.size W0 W → CellsAt W w.heap.size [.int .i64 u0, .int .i64 u1, .int .i64 u2, .int .i64 u3, .int .i64 u4, .int .i64 u5, .int .i64 u6, .int .i64 u7] := by
  obtain ⟨W1, h1⟩ : ∃ W, w.alloc (.cells #[.int .i64 u0, .int .i64 u1, .int .i64 u2, .int .i64 u3, .int .i64 u4, .int .i64 u5, .int .i64 u6, .int .i64 u7] 51) = W := ⟨_, rfl⟩
  have b1 : Below w.heap.size w W1 := by rw [← h1]; exact (Below.refl _ _).alloc (Nat.le_refl _) _
  have k1 := cellsAt_of (vs := [.int .i64 u0, .int .i64 u1, .int .i64 u2, .int .i64 u3, .int .i64 u4, .int .i64 u5, .int .i64 u6, .int .i64 u7]) (heap_alloc_new w (.cells #[.int .i64 u0, .int .i64 u1, .int .i64 u2, .int .i64 u3, .int .i64 u4, .int .i64 u5, .int .i64 u6, .int .i64 u7] 51))
  rw [h1] at k1
  exact ⟨W1, h1, b1, fun W hb => k1.below hb⟩
set_option maxRecDepth 100000 in
set_option maxHeartbeats 16000000 in
theorem rationalMachine_walk (v0 v1 v2 v3 : Int) (b0 : -9223372036854775808 ≤ v0) (c0 : v0 ≤ 9223372036854775807) (b1 : -9223372036854775808 ≤ v1) (c1 : v1 ≤ 9223372036854775807) (b2 : -9223372036854775808 ≤ v2) (c2 : v2 ≤ 9223372036854775807) (b3 : -9223372036854775808 ≤ v3) (c3 : v3 ≤ 9223372036854775807) (w : World) (hR : Ready w) :
    Calls Tryz.prog 5 #[.int .i64 v0, .int .i64 v1, .int .i64 v2, .int .i64 v3] w fun e w' => e = .returned (.bool true) ∧ Below w.heap.size w w' := by
  have hp0 := fun W => pickL_any v0 60001 b0 c0 (by decide) (by decide) W
  have hp2 := fun W => pickL_any v2 60001 b2 c2 (by decide) (by decide) W
  have hp1 := fun W => pickL_any v1 30000 b1 c1 (by decide) (by decide) W
  have hp3 := fun W => pickL_any v3 30000 b3 c3 (by decide) (by decide) W
  have r0' := pickI_range v0 (n := 60001) (by decide)
  have r2' := pickI_range v2 (n := 60001) (by decide)
  have r1' := pickI_range v1 (n := 30000) (by decide)
  have r3' := pickI_range v3 (n := 30000) (by decide)
  generalize pickI v0 60001 = y0 at *
  generalize pickI v2 60001 = y2 at *
  generalize pickI v1 30000 = y1 at *
  generalize pickI v3 30000 = y3 at *
  obtain ⟨n, hn⟩ : ∃ n, y0 - 30000 = n := ⟨_, rfl⟩
  obtain ⟨m, hm⟩ : ∃ n, y2 - 30000 = n := ⟨_, rfl⟩
  obtain ⟨d, hd⟩ : ∃ n, 1 + y1 = n := ⟨_, rfl⟩
  obtain ⟨c, hc⟩ : ∃ n, 1 + y3 = n := ⟨_, rfl⟩
  have q0 : IntKind.i64.wrap n = n := IntWalk.i64_in _ (by omega)
  have q2 : IntKind.i64.wrap m = m := IntWalk.i64_in _ (by omega)
  have q1 : IntKind.i64.wrap d = d := IntWalk.i64_in _ (by omega)
  have q3 : IntKind.i64.wrap c = c := IntWalk.i64_in _ (by omega)
  obtain ⟨xn, xd, yn, yd, n0, d0, n1, d1, n2, d2, n3, d3, e3, p0, r0, p1, r1, p2, r2, p3, r3, ⟨z1', z2', z3', z4'⟩, ⟨ex1, ex2, ex3, ex4⟩, hcmp, ⟨g0, g1, g2, g3, g4, g5, g6, g7⟩, ⟨o1, o2, o3, o4⟩, M0, M1, M2, M3a, M3b⟩ := mach_all n d m c (by omega) (by omega) (by omega) (by omega) (by omega) (by omega)
  have ofa := fun W (h : Ready W) => of_q n d (by omega) (by omega) (by omega) (by omega) W h
  rw [decide_eq_true (show d ≠ 0 by omega), show outN true (Rat.divInt n d) = nT (Rat.divInt n d) from rfl, show outD true (Rat.divInt n d) = dT (Rat.divInt n d) from rfl, show outE true = 0 from rfl, ← ex1, ← ex2] at ofa
  have ofb := fun W (h : Ready W) => of_q m c (by omega) (by omega) (by omega) (by omega) W h
  rw [decide_eq_true (show c ≠ 0 by omega), show outN true (Rat.divInt m c) = nT (Rat.divInt m c) from rfl, show outD true (Rat.divInt m c) = dT (Rat.divInt m c) from rfl, show outE true = 0 from rfl, ← ex3, ← ex4] at ofb
  clear ex1 ex2 ex3 ex4
  have fou := fun W (h : Ready W) => four_q xn xd yn yd z1' z2' z3' z4' W h
  rw [g0, g1, g2, g3, g4, g5, g6, g7, o1, o2, o3, o4, show outE true = 0 from rfl] at fou
  have cmp := fun W (h : Ready W) => cmp_q xn xd yn yd z1' z2' z3' z4' W h
  rw [hcmp] at cmp
  clear g0 g1 g2 g3 g4 g5 g6 g7 o1 o2 o3 o4 hcmp z1' z2' z3' z4'
  have wnc := low_mul (a := 30000) (b := 30000) (show n.natAbs ≤ 30000 by omega) (show c.natAbs ≤ 30000 by omega)
  have wmd := low_mul (a := 30000) (b := 30000) (show m.natAbs ≤ 30000 by omega) (show d.natAbs ≤ 30000 by omega)
  have wdc := low_mul (a := 30000) (b := 30000) (show d.natAbs ≤ 30000 by omega) (show c.natAbs ≤ 30000 by omega)
  have wnm := low_mul (a := 30000) (b := 30000) (show n.natAbs ≤ 30000 by omega) (show m.natAbs ≤ 30000 by omega)
  have wdm := low_mul (a := 30000) (b := 30000) (show d.natAbs ≤ 30000 by omega) (show m.natAbs ≤ 30000 by omega)
  have hnc : n * c = n * c := rfl
  generalize hnc' : n * c = nc at *
  generalize hmd' : m * d = md at *
  generalize hdc' : d * c = dc at *
  generalize hnm' : n * m = nm at *
  generalize hdm' : d * m = dm at *
  clear hnc
  obtain ⟨sN0, sD0, tp0, tz0, tr0, ty0, hr0, he0, hv0⟩ := M0
  obtain ⟨x0, xa0, xb0⟩ := mach_wrap hr0 (show (dc : Int).natAbs ≤ 900000000 by omega) he0
  have ta := fun W => toR_any n0 sN0 W
  rw [tp0, tz0] at ta
  have tb := fun W => toR_any d0 sD0 W
  rw [tr0, ty0] at tb
  have tv := fun W (h : Ready W) => valid_q n0 d0 sN0 sD0 W h
  rw [hv0] at tv
  have TA0 := Lib.hid ta; have TB0 := Lib.hid tb; have TV0 := Lib.hid tv; have XA0 := Lib.hid xa0; have XB0 := Lib.hid xb0; have HR0 := Lib.hid hr0
  clear sN0 sD0 tp0 tz0 tr0 ty0 hr0 he0 hv0 xa0 xb0 ta tb tv
  obtain ⟨sN1, sD1, tp1, tz1, tr1, ty1, hr1, he1, hv1⟩ := M1
  obtain ⟨x1, xa1, xb1⟩ := mach_wrap hr1 (show (dc : Int).natAbs ≤ 900000000 by omega) he1
  have ta := fun W => toR_any n1 sN1 W
  rw [tp1, tz1] at ta
  have tb := fun W => toR_any d1 sD1 W
  rw [tr1, ty1] at tb
  have tv := fun W (h : Ready W) => valid_q n1 d1 sN1 sD1 W h
  rw [hv1] at tv
  have TA1 := Lib.hid ta; have TB1 := Lib.hid tb; have TV1 := Lib.hid tv; have XA1 := Lib.hid xa1; have XB1 := Lib.hid xb1; have HR1 := Lib.hid hr1
  clear sN1 sD1 tp1 tz1 tr1 ty1 hr1 he1 hv1 xa1 xb1 ta tb tv
  obtain ⟨sN2, sD2, tp2, tz2, tr2, ty2, hr2, he2, hv2⟩ := M2
  obtain ⟨x2, xa2, xb2⟩ := mach_wrap hr2 (show (dc : Int).natAbs ≤ 900000000 by omega) he2
  have ta := fun W => toR_any n2 sN2 W
  rw [tp2, tz2] at ta
  have tb := fun W => toR_any d2 sD2 W
  rw [tr2, ty2] at tb
  have tv := fun W (h : Ready W) => valid_q n2 d2 sN2 sD2 W h
  rw [hv2] at tv
  have TA2 := Lib.hid ta; have TB2 := Lib.hid tb; have TV2 := Lib.hid tv; have XA2 := Lib.hid xa2; have XB2 := Lib.hid xb2; have HR2 := Lib.hid hr2
  clear sN2 sD2 tp2 tz2 tr2 ty2 hr2 he2 hv2 xa2 xb2 ta tb tv
  have M3A := Lib.hid M3a; have M3B := Lib.hid M3b
  have OFA := Lib.hid ofa; have OFB := Lib.hid ofb; have FOU := Lib.hid fou; have CMP := Lib.hid cmp
  have HP0 := Lib.hid hp0; have HP1 := Lib.hid hp1; have HP2 := Lib.hid hp2; have HP3 := Lib.hid hp3
  have HNC := Lib.hid hnc'; have HMD := Lib.hid hmd'; have HDC := Lib.hid hdc'; have HNM := Lib.hid hnm'; have HDM := Lib.hid hdm'
  have HN := Lib.hid hn; have HM := Lib.hid hm; have HD := Lib.hid hd; have HC := Lib.hid hc
  have SANE := Lib.hid sane_any; have HR := Lib.hid hR
  have bnc : -900000000 ≤ nc ∧ nc ≤ 900000000 := by omega
  have bmd : -900000000 ≤ md ∧ md ≤ 900000000 := by omega
  have bdc : 1 ≤ dc ∧ dc ≤ 900000000 := ⟨by have := Int.mul_pos (a := d) (b := c) (by omega) (by omega); omega, by omega⟩
  have bnm : -900000000 ≤ nm ∧ nm ≤ 900000000 := by omega
  have bdm : -900000000 ≤ dm ∧ dm ≤ 900000000 := by omega
  have BNC := Lib.hid bnc; have BMD := Lib.hid bmd; have BDC := Lib.hid bdc; have BNM := Lib.hid bnm; have BDM := Lib.hid bdm
  clear M3a M3b ofa ofb fou cmp hp0 hp1 hp2 hp3 hnc' hmd' hdc' hnm' hdm' hR wnc wmd wdc wnm wdm bnc bmd bdc bnm bdm b0 c0 b1 c1 b2 c2 b3 c3
  have P0 := Lib.hid (Below.refl w.heap.size w)
  go_enter Tryz.func5, Tryz.ntmps5
  go_wp2_with fail
  refine (SANE.out _ (HR.out.below P0.out)).mono ?_
  rintro e z1 ⟨rfl, b1⟩
  have B1 := Lib.hid b1
  have P1 := Lib.hid (below_up P0.out b1)
  clear b1
  go_wp2_with fail
  refine (HP0.out _).mono ?_
  rintro e zq101 ⟨rfl, rfl⟩
  go_wp2_with fail
  refine (HP2.out _).mono ?_
  rintro e zq101 ⟨rfl, rfl⟩
  go_wp2_with fail
  refine (HP1.out _).mono ?_
  rintro e zq101 ⟨rfl, rfl⟩
  go_wp2_with fail
  refine (HP3.out _).mono ?_
  rintro e zq101 ⟨rfl, rfl⟩
  go_wp2_with fail
  refine (OFA.out _ (HR.out.below P1.out)).mono ?_
  rintro e z2 ⟨rfl, b2⟩
  have B2 := Lib.hid b2
  have P2 := Lib.hid (below_up P1.out b2)
  clear b2
  obtain ⟨z3, hz3, b3, f3⟩ := box_one z2 xn xd
  have V3 := Lib.hid hz3; have F3 := Lib.hid f3
  clear hz3 f3
  have B3 := Lib.hid b3
  have P3 := Lib.hid (below_up P2.out b3)
  clear b3
  go_wp2_with (rw [V3.out])
  refine (OFB.out _ (HR.out.below P3.out)).mono ?_
  rintro e z4 ⟨rfl, b4⟩
  have B4 := Lib.hid b4
  have P4 := Lib.hid (below_up P3.out b4)
  clear b4
  obtain ⟨z5, hz5, b5, f5⟩ := box_one z4 yn yd
  have V5 := Lib.hid hz5; have F5 := Lib.hid f5
  clear hz5 f5
  have B5 := Lib.hid b5
  have P5 := Lib.hid (below_up P4.out b5)
  clear b5
  obtain ⟨qa0, qa1, qa2, qa3⟩ := F3.out z5 (below_up B4.out (below_up B5.out (Below.refl _ _)))
  obtain ⟨qb0, qb1, qb2, qb3⟩ := F5.out z5 (Below.refl _ _)
  go_wp2_with (rw [V5.out])
  refine (FOU.out _ (HR.out.below P5.out)).mono ?_
  rintro e z6 ⟨rfl, b6⟩
  have B6 := Lib.hid b6
  have P6 := Lib.hid (below_up P5.out b6)
  clear b6
  clear qa0 qa1 qa2 qa3 qb0 qb1 qb2 qb3
  obtain ⟨z7, hz7, b7, f7⟩ := box_eightM z6 n0 d0 n1 d1 n2 d2 n3 d3 0 0 0 e3
  have V7 := Lib.hid hz7; have G7 := Lib.hid f7
  clear hz7 f7
  have B7 := Lib.hid b7
  have P7 := Lib.hid (below_up P6.out b7)
  clear b7
  go_upto_region 9 with (rw [V7.out])
  have hnc' := HNC.out; have hmd' := HMD.out; have hdc' := HDC.out; have hnm' := HNM.out; have hdm' := HDM.out
  have wa : IntKind.i64.wrap nc = nc := IntWalk.i64_in _ (by have := BNC.out; omega)
  have wb : IntKind.i64.wrap md = md := IntWalk.i64_in _ (by have := BMD.out; omega)
  have wc : IntKind.i64.wrap dc = dc := IntWalk.i64_in _ (by have := BDC.out; omega)
  have wd : IntKind.i64.wrap nm = nm := IntWalk.i64_in _ (by have := BNM.out; omega)
  have we : IntKind.i64.wrap dm = dm := IntWalk.i64_in _ (by have := BDM.out; omega)
  have wf : IntKind.i64.wrap (nc + md) = nc + md := IntWalk.i64_in _ (by have := BNC.out; have := BMD.out; omega)
  have wg : IntKind.i64.wrap (nc - md) = nc - md := IntWalk.i64_in _ (by have := BNC.out; have := BMD.out; omega)
  obtain ⟨z8, hz8, b8, f8⟩ := box_want z7 (nc + md) dc (nc - md) dc nm dc nc dm
  have V8 := Lib.hid hz8; have G8 := Lib.hid f8
  clear hz8 f8
  have B8 := Lib.hid b8
  have P8 := Lib.hid (below_up P7.out b8)
  clear b8
  go_wp2_with (rw [V8.out])
  clear hnc' hmd' hdc' hnm' hdm' wa wb wc wd we wf wg
  go_loopw [17] (fun i wr => ∃ k : Nat, k ≤ 4 ∧ i = .int .i64 k ∧ Hid (Below z8.heap.size z8 wr)) (fun i _ => 4 - (RowKit.intOf i).toNat)
  case atStart => exact ⟨0, by omega, rfl, Lib.hid (Below.refl _ _)⟩
  case round =>
    obtain ⟨k, hk, rfl, hbw⟩ := hrel
    have hk5 : k = 0 ∨ k = 1 ∨ k = 2 ∨ k = 3 ∨ k = 4 := by omega
    clear hk
    rcases hk5 with rfl | rfl | rfl | rfl | rfl
    · skip
      generalize wr = z9 at *
      have B9 := hbw
      have P9 := Lib.hid (below_up P8.out hbw.out)
      have G := G7.out z9 (below_up B8.out (below_up B9.out (Below.refl _ _)))
      have ert0 := (G.1 0 (by simp)).1
      simp only [List.getElem_cons_zero] at ert0
      clear G
      go_wp2_with fail
      refine (TA0.out _).mono ?_
      rintro e z10 ⟨rfl, b10⟩
      have B10 := Lib.hid b10
      have P10 := Lib.hid (below_up P9.out b10)
      clear b10
      clear ert0
      have G := G7.out z10 (below_up B8.out (below_up B9.out (below_up B10.out (Below.refl _ _))))
      have ert1 := (G.1 1 (by simp)).1
      simp only [List.getElem_cons_zero, List.getElem_cons_succ] at ert1
      clear G
      go_wp2_with fail
      refine (TB0.out _).mono ?_
      rintro e z11 ⟨rfl, b11⟩
      have B11 := Lib.hid b11
      have P11 := Lib.hid (below_up P10.out b11)
      clear b11
      clear ert1
      go_upto_region 18 with fail
      go_cut [165] from 128 to 165 (fun s165 wx => s165 = .bool false ∧ Hid (Below z11.heap.size z11 wx))
      case first =>
        have xa := XA0.out; have xb := XB0.out; have hr1 : ¬ r0 < 1 := by have := HR0.out.1; omega
        have K := Lib.hid (show ∀ W, Below z11.heap.size z11 W → ((W.cell? ⟨z6.heap.size, 0, none⟩ = some (.string n0) ∧ W.cell? ⟨z6.heap.size, 1, none⟩ = some (.string d0)) ∧ W.cell? ⟨z6.heap.size + 1, 0, none⟩ = some (.int .i64 0) ∧ (W.cell? ⟨z7.heap.size, 0, none⟩ = some (.int .i64 (nc + md)) ∧ W.cell? ⟨z7.heap.size, 1, none⟩ = some (.int .i64 dc))) from fun W b => ⟨⟨((G7.out W (below_up B8.out (below_up B9.out (below_up B10.out (below_up B11.out b))))).1 0 (by simp)).1, ((G7.out W (below_up B8.out (below_up B9.out (below_up B10.out (below_up B11.out b))))).1 1 (by simp)).1⟩, ((G7.out W (below_up B8.out (below_up B9.out (below_up B10.out (below_up B11.out b))))).2 0 (by simp)).1, ((G8.out W (below_up B9.out (below_up B10.out (below_up B11.out b)))) 0 (by simp)).1, ((G8.out W (below_up B9.out (below_up B10.out (below_up B11.out b)))) 1 (by simp)).1⟩)
        have HRz := Lib.hid (HR.out.below P11.out)
        have g := Below.refl z11.heap.size z11
        go_region_held3 (fun W => (W.cell? ⟨z6.heap.size, 0, none⟩ = some (.string n0) ∧ W.cell? ⟨z6.heap.size, 1, none⟩ = some (.string d0)) ∧ W.cell? ⟨z6.heap.size + 1, 0, none⟩ = some (.int .i64 0) ∧ (W.cell? ⟨z7.heap.size, 0, none⟩ = some (.int .i64 (nc + md)) ∧ W.cell? ⟨z7.heap.size, 1, none⟩ = some (.int .i64 dc))) (first | exact K.out _ g | exact K.out _ ⟨g.os, g.tape, g.output, g.size, g.block⟩) (first | (go_at_call 29; (with_reducible refine (TV0.out _ ?_).mono ?_); (first | exact HRz.out.below g | exact HRz.out.below ⟨g.os, g.tape, g.output, g.size, g.block⟩); (rintro e y ⟨rfl, k'⟩); (have g : Below z11.heap.size z11 y := below_up (by first | exact g | exact ⟨g.os, g.tape, g.output, g.size, g.block⟩) k')))
        all_goals (go_wp2_with fail; go_meet; first | exact ⟨rfl, Lib.hid g⟩ | exact ⟨rfl, Lib.hid ⟨g.os, g.tape, g.output, g.size, g.block⟩⟩)
      case rest =>
        obtain ⟨rfl, hbx⟩ := hcut
        generalize wc = z12 at *
        have B12 := hbx
        have P12 := Lib.hid (below_up P11.out hbx.out)
        clear hbx
        go_wp2_with fail
        go_roundw
        case rel => exact ⟨1, by omega, rfl, Lib.hid (below_up B9.out (below_up B10.out (below_up B11.out (below_up B12.out (Below.refl _ _)))))⟩
        case measure => simp [RowKit.intOf]
    · skip
      generalize wr = z9 at *
      have B9 := hbw
      have P9 := Lib.hid (below_up P8.out hbw.out)
      have G := G7.out z9 (below_up B8.out (below_up B9.out (Below.refl _ _)))
      have ert2 := (G.1 2 (by simp)).1
      simp only [List.getElem_cons_zero, List.getElem_cons_succ] at ert2
      clear G
      go_wp2_with fail
      refine (TA1.out _).mono ?_
      rintro e z10 ⟨rfl, b10⟩
      have B10 := Lib.hid b10
      have P10 := Lib.hid (below_up P9.out b10)
      clear b10
      clear ert2
      have G := G7.out z10 (below_up B8.out (below_up B9.out (below_up B10.out (Below.refl _ _))))
      have ert3 := (G.1 3 (by simp)).1
      simp only [List.getElem_cons_zero, List.getElem_cons_succ] at ert3
      clear G
      go_wp2_with fail
      refine (TB1.out _).mono ?_
      rintro e z11 ⟨rfl, b11⟩
      have B11 := Lib.hid b11
      have P11 := Lib.hid (below_up P10.out b11)
      clear b11
      clear ert3
      go_upto_region 18 with fail
      go_cut [165] from 128 to 165 (fun s165 wx => s165 = .bool false ∧ Hid (Below z11.heap.size z11 wx))
      case first =>
        have xa := XA1.out; have xb := XB1.out; have hr1 : ¬ r1 < 1 := by have := HR1.out.1; omega
        have K := Lib.hid (show ∀ W, Below z11.heap.size z11 W → ((W.cell? ⟨z6.heap.size, 2, none⟩ = some (.string n1) ∧ W.cell? ⟨z6.heap.size, 3, none⟩ = some (.string d1)) ∧ W.cell? ⟨z6.heap.size + 1, 1, none⟩ = some (.int .i64 0) ∧ (W.cell? ⟨z7.heap.size, 2, none⟩ = some (.int .i64 (nc - md)) ∧ W.cell? ⟨z7.heap.size, 3, none⟩ = some (.int .i64 dc))) from fun W b => ⟨⟨((G7.out W (below_up B8.out (below_up B9.out (below_up B10.out (below_up B11.out b))))).1 2 (by simp)).1, ((G7.out W (below_up B8.out (below_up B9.out (below_up B10.out (below_up B11.out b))))).1 3 (by simp)).1⟩, ((G7.out W (below_up B8.out (below_up B9.out (below_up B10.out (below_up B11.out b))))).2 1 (by simp)).1, ((G8.out W (below_up B9.out (below_up B10.out (below_up B11.out b)))) 2 (by simp)).1, ((G8.out W (below_up B9.out (below_up B10.out (below_up B11.out b)))) 3 (by simp)).1⟩)
        have HRz := Lib.hid (HR.out.below P11.out)
        have g := Below.refl z11.heap.size z11
        go_region_held3 (fun W => (W.cell? ⟨z6.heap.size, 2, none⟩ = some (.string n1) ∧ W.cell? ⟨z6.heap.size, 3, none⟩ = some (.string d1)) ∧ W.cell? ⟨z6.heap.size + 1, 1, none⟩ = some (.int .i64 0) ∧ (W.cell? ⟨z7.heap.size, 2, none⟩ = some (.int .i64 (nc - md)) ∧ W.cell? ⟨z7.heap.size, 3, none⟩ = some (.int .i64 dc))) (first | exact K.out _ g | exact K.out _ ⟨g.os, g.tape, g.output, g.size, g.block⟩) (first | (go_at_call 29; (with_reducible refine (TV1.out _ ?_).mono ?_); (first | exact HRz.out.below g | exact HRz.out.below ⟨g.os, g.tape, g.output, g.size, g.block⟩); (rintro e y ⟨rfl, k'⟩); (have g : Below z11.heap.size z11 y := below_up (by first | exact g | exact ⟨g.os, g.tape, g.output, g.size, g.block⟩) k')))
        all_goals (go_wp2_with fail; go_meet; first | exact ⟨rfl, Lib.hid g⟩ | exact ⟨rfl, Lib.hid ⟨g.os, g.tape, g.output, g.size, g.block⟩⟩)
      case rest =>
        obtain ⟨rfl, hbx⟩ := hcut
        generalize wc = z12 at *
        have B12 := hbx
        have P12 := Lib.hid (below_up P11.out hbx.out)
        clear hbx
        go_wp2_with fail
        go_roundw
        case rel => exact ⟨2, by omega, rfl, Lib.hid (below_up B9.out (below_up B10.out (below_up B11.out (below_up B12.out (Below.refl _ _)))))⟩
        case measure => simp [RowKit.intOf]
    · skip
      generalize wr = z9 at *
      have B9 := hbw
      have P9 := Lib.hid (below_up P8.out hbw.out)
      have G := G7.out z9 (below_up B8.out (below_up B9.out (Below.refl _ _)))
      have ert4 := (G.1 4 (by simp)).1
      simp only [List.getElem_cons_zero, List.getElem_cons_succ] at ert4
      clear G
      go_wp2_with fail
      refine (TA2.out _).mono ?_
      rintro e z10 ⟨rfl, b10⟩
      have B10 := Lib.hid b10
      have P10 := Lib.hid (below_up P9.out b10)
      clear b10
      clear ert4
      have G := G7.out z10 (below_up B8.out (below_up B9.out (below_up B10.out (Below.refl _ _))))
      have ert5 := (G.1 5 (by simp)).1
      simp only [List.getElem_cons_zero, List.getElem_cons_succ] at ert5
      clear G
      go_wp2_with fail
      refine (TB2.out _).mono ?_
      rintro e z11 ⟨rfl, b11⟩
      have B11 := Lib.hid b11
      have P11 := Lib.hid (below_up P10.out b11)
      clear b11
      clear ert5
      go_upto_region 18 with fail
      go_cut [165] from 128 to 165 (fun s165 wx => s165 = .bool false ∧ Hid (Below z11.heap.size z11 wx))
      case first =>
        have xa := XA2.out; have xb := XB2.out; have hr1 : ¬ r2 < 1 := by have := HR2.out.1; omega
        have K := Lib.hid (show ∀ W, Below z11.heap.size z11 W → ((W.cell? ⟨z6.heap.size, 4, none⟩ = some (.string n2) ∧ W.cell? ⟨z6.heap.size, 5, none⟩ = some (.string d2)) ∧ W.cell? ⟨z6.heap.size + 1, 2, none⟩ = some (.int .i64 0) ∧ (W.cell? ⟨z7.heap.size, 4, none⟩ = some (.int .i64 nm) ∧ W.cell? ⟨z7.heap.size, 5, none⟩ = some (.int .i64 dc))) from fun W b => ⟨⟨((G7.out W (below_up B8.out (below_up B9.out (below_up B10.out (below_up B11.out b))))).1 4 (by simp)).1, ((G7.out W (below_up B8.out (below_up B9.out (below_up B10.out (below_up B11.out b))))).1 5 (by simp)).1⟩, ((G7.out W (below_up B8.out (below_up B9.out (below_up B10.out (below_up B11.out b))))).2 2 (by simp)).1, ((G8.out W (below_up B9.out (below_up B10.out (below_up B11.out b)))) 4 (by simp)).1, ((G8.out W (below_up B9.out (below_up B10.out (below_up B11.out b)))) 5 (by simp)).1⟩)
        have HRz := Lib.hid (HR.out.below P11.out)
        have g := Below.refl z11.heap.size z11
        go_region_held3 (fun W => (W.cell? ⟨z6.heap.size, 4, none⟩ = some (.string n2) ∧ W.cell? ⟨z6.heap.size, 5, none⟩ = some (.string d2)) ∧ W.cell? ⟨z6.heap.size + 1, 2, none⟩ = some (.int .i64 0) ∧ (W.cell? ⟨z7.heap.size, 4, none⟩ = some (.int .i64 nm) ∧ W.cell? ⟨z7.heap.size, 5, none⟩ = some (.int .i64 dc))) (first | exact K.out _ g | exact K.out _ ⟨g.os, g.tape, g.output, g.size, g.block⟩) (first | (go_at_call 29; (with_reducible refine (TV2.out _ ?_).mono ?_); (first | exact HRz.out.below g | exact HRz.out.below ⟨g.os, g.tape, g.output, g.size, g.block⟩); (rintro e y ⟨rfl, k'⟩); (have g : Below z11.heap.size z11 y := below_up (by first | exact g | exact ⟨g.os, g.tape, g.output, g.size, g.block⟩) k')))
        all_goals (go_wp2_with fail; go_meet; first | exact ⟨rfl, Lib.hid g⟩ | exact ⟨rfl, Lib.hid ⟨g.os, g.tape, g.output, g.size, g.block⟩⟩)
      case rest =>
        obtain ⟨rfl, hbx⟩ := hcut
        generalize wc = z12 at *
        have B12 := hbx
        have P12 := Lib.hid (below_up P11.out hbx.out)
        clear hbx
        go_wp2_with fail
        go_roundw
        case rel => exact ⟨3, by omega, rfl, Lib.hid (below_up B9.out (below_up B10.out (below_up B11.out (below_up B12.out (Below.refl _ _)))))⟩
        case measure => simp [RowKit.intOf]
    · skip
      generalize wr = z9 at *
      have B9 := hbw
      have P9 := Lib.hid (below_up P8.out hbw.out)
      by_cases hm0 : m = 0
      · skip
        obtain ⟨rfl, rfl, rfl⟩ := M3A.out hm0
        have hmb : (m == 0) = true := by rw [beq_iff_eq]; exact hm0
        clear hm0
        have G := G7.out z9 (below_up B8.out (below_up B9.out (Below.refl _ _)))
        have ert6 := (G.1 6 (by simp)).1
        have ert7 := (G.1 7 (by simp)).1
        have erc3 := (G.2 3 (by simp)).1
        simp only [List.getElem_cons_zero, List.getElem_cons_succ] at ert6 ert7 erc3
        clear G
        go_wp2_with fail
        go_roundw
        case rel => exact ⟨4, by omega, rfl, Lib.hid (below_up B9.out (Below.refl _ _))⟩
        case measure => simp [RowKit.intOf]
      · skip
        obtain ⟨rfl, sN, sD, tp, tz, tr, ty, hr, he, hv⟩ := M3B.out hm0
        have hmb : (m == 0) = false := by rw [beq_eq_false_iff_ne]; exact hm0
        have bdm := BDM.out
        obtain ⟨x3, xa3, xb3⟩ := mach_wrap hr (show (dm : Int).natAbs ≤ 900000000 by omega) he
        have ta := fun W => toR_any n3 sN W
        rw [tp, tz] at ta
        have tb := fun W => toR_any d3 sD W
        rw [tr, ty] at tb
        have tv := fun W (h : Ready W) => valid_q n3 d3 sN sD W h
        rw [hv] at tv
        have TA3 := Lib.hid ta; have TB3 := Lib.hid tb; have TV3 := Lib.hid tv; have XA3 := Lib.hid xa3; have XB3 := Lib.hid xb3; have HR3 := Lib.hid hr
        clear sN sD tp tz tr ty hr he hv xa3 xb3 ta tb tv hm0 bdm
        have G := G7.out z9 (below_up B8.out (below_up B9.out (Below.refl _ _)))
        have ert6 := (G.1 6 (by simp)).1
        simp only [List.getElem_cons_zero, List.getElem_cons_succ] at ert6
        clear G
        go_wp2_with fail
        refine (TA3.out _).mono ?_
        rintro e z10 ⟨rfl, b10⟩
        have B10 := Lib.hid b10
        have P10 := Lib.hid (below_up P9.out b10)
        clear b10
        clear ert6
        have G := G7.out z10 (below_up B8.out (below_up B9.out (below_up B10.out (Below.refl _ _))))
        have ert7 := (G.1 7 (by simp)).1
        simp only [List.getElem_cons_zero, List.getElem_cons_succ] at ert7
        clear G
        go_wp2_with fail
        refine (TB3.out _).mono ?_
        rintro e z11 ⟨rfl, b11⟩
        have B11 := Lib.hid b11
        have P11 := Lib.hid (below_up P10.out b11)
        clear b11
        clear ert7
        go_upto_region 18 with fail
        go_cut [165] from 128 to 165 (fun s165 wx => s165 = .bool false ∧ Hid (Below z11.heap.size z11 wx))
        case first =>
          have xa := XA3.out; have xb := XB3.out; have hr1 : ¬ r3 < 1 := by have := HR3.out.1; omega
          have K := Lib.hid (show ∀ W, Below z11.heap.size z11 W → ((W.cell? ⟨z6.heap.size, 6, none⟩ = some (.string n3) ∧ W.cell? ⟨z6.heap.size, 7, none⟩ = some (.string d3)) ∧ W.cell? ⟨z6.heap.size + 1, 3, none⟩ = some (.int .i64 0) ∧ (W.cell? ⟨z7.heap.size, 6, none⟩ = some (.int .i64 nc) ∧ W.cell? ⟨z7.heap.size, 7, none⟩ = some (.int .i64 dm))) from fun W b => ⟨⟨((G7.out W (below_up B8.out (below_up B9.out (below_up B10.out (below_up B11.out b))))).1 6 (by simp)).1, ((G7.out W (below_up B8.out (below_up B9.out (below_up B10.out (below_up B11.out b))))).1 7 (by simp)).1⟩, ((G7.out W (below_up B8.out (below_up B9.out (below_up B10.out (below_up B11.out b))))).2 3 (by simp)).1, ((G8.out W (below_up B9.out (below_up B10.out (below_up B11.out b)))) 6 (by simp)).1, ((G8.out W (below_up B9.out (below_up B10.out (below_up B11.out b)))) 7 (by simp)).1⟩)
          have HRz := Lib.hid (HR.out.below P11.out)
          have g := Below.refl z11.heap.size z11
          go_region_held3 (fun W => (W.cell? ⟨z6.heap.size, 6, none⟩ = some (.string n3) ∧ W.cell? ⟨z6.heap.size, 7, none⟩ = some (.string d3)) ∧ W.cell? ⟨z6.heap.size + 1, 3, none⟩ = some (.int .i64 0) ∧ (W.cell? ⟨z7.heap.size, 6, none⟩ = some (.int .i64 nc) ∧ W.cell? ⟨z7.heap.size, 7, none⟩ = some (.int .i64 dm))) (first | exact K.out _ g | exact K.out _ ⟨g.os, g.tape, g.output, g.size, g.block⟩) (first | (go_at_call 29; (with_reducible refine (TV3.out _ ?_).mono ?_); (first | exact HRz.out.below g | exact HRz.out.below ⟨g.os, g.tape, g.output, g.size, g.block⟩); (rintro e y ⟨rfl, k'⟩); (have g : Below z11.heap.size z11 y := below_up (by first | exact g | exact ⟨g.os, g.tape, g.output, g.size, g.block⟩) k')))
          all_goals (go_wp2_with fail; go_meet; first | exact ⟨rfl, Lib.hid g⟩ | exact ⟨rfl, Lib.hid ⟨g.os, g.tape, g.output, g.size, g.block⟩⟩)
        case rest =>
          obtain ⟨rfl, hbx⟩ := hcut
          generalize wc = z12 at *
          have B12 := hbx
          have P12 := Lib.hid (below_up P11.out hbx.out)
          clear hbx
          go_wp2_with fail
          go_roundw
          case rel => exact ⟨4, by omega, rfl, Lib.hid (below_up B9.out (below_up B10.out (below_up B11.out (below_up B12.out (Below.refl _ _)))))⟩
          case measure => simp [RowKit.intOf]
    · skip
      generalize wr = z9 at *
      have B9 := hbw
      have P9 := Lib.hid (below_up P8.out hbw.out)
      obtain ⟨sg, hsg⟩ : ∃ s, sgZ nc md = s := ⟨_, rfl⟩
      have CMP2 := Lib.hid (show ∀ W, Ready W → Calls Tryz.prog 20 #[.agg #[.string xn, .string xd], .agg #[.string yn, .string yd]] W fun e w' => e = .returned (.int .i64 sg) ∧ Below W.heap.size W w' from by rw [← hsg]; exact CMP.out)
      have HSG := Lib.hid hsg
      clear hsg
      have hnc' := HNC.out; have hmd' := HMD.out
      have wa : IntKind.i64.wrap nc = nc := IntWalk.i64_in _ (by have := BNC.out; omega)
      have wb : IntKind.i64.wrap md = md := IntWalk.i64_in _ (by have := BMD.out; omega)
      go_upto_if 172 with fail
      go_cut [22] from 166 to 179 (fun s22 wx => s22 = .int .i64 sg ∧ wx = z9)
      case first =>
        have hsg := HSG.out
        by_cases h1 : nc < md
        · rw [sgZ_lt h1] at hsg
          subst hsg
          go_wp2_with fail
          go_meet
          exact ⟨rfl, rfl⟩
        · by_cases h2 : md < nc
          · rw [sgZ_gt h2] at hsg
            subst hsg
            go_wp2_with fail
            go_meet
            exact ⟨rfl, rfl⟩
          · rw [show sgZ nc md = 0 by unfold sgZ; rw [if_neg h1, if_neg h2]] at hsg
            subst hsg
            go_wp2_with fail
            go_meet
            exact ⟨rfl, rfl⟩
      case rest =>
        obtain ⟨rfl, rfl⟩ := hcut
        generalize wc = z9 at *
        clear hnc' hmd' wa wb
        obtain ⟨qa0, qa1, qa2, qa3⟩ := F3.out z9 (below_up B4.out (below_up B5.out (below_up B6.out (below_up B7.out (below_up B8.out (below_up B9.out (Below.refl _ _)))))))
        obtain ⟨qb0, qb1, qb2, qb3⟩ := F5.out z9 (below_up B6.out (below_up B7.out (below_up B8.out (below_up B9.out (Below.refl _ _)))))
        go_wp2_with fail
        refine (CMP2.out _ (HR.out.below P9.out)).mono ?_
        rintro e z10 ⟨rfl, b10⟩
        have B10 := Lib.hid b10
        have P10 := Lib.hid (below_up P9.out b10)
        clear b10
        go_wp2
        go_ret
        exact ⟨rfl, P10.out⟩
end Go.Proofs.YtlcibnmcannapaaGreatDoor
