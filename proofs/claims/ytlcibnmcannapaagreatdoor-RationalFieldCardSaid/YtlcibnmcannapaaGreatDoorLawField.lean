/-
  RationalField: its walk.
-/
import Derived.Test.YtlcibnmcannapaaGreatDoorFourQ
import Derived.Test.YtlcibnmcannapaaGreatDoorLongQ
import Derived.Test.YtlcibnmcannapaaGreatDoorSaneQ
namespace Go.Proofs.YtlcibnmcannapaaGreatDoor
open Go Go.Proofs Go.RowKit Go.Lib

theorem box_eight (w : World) (t0 t1 t2 t3 t4 t5 t6 t7 : ByteArray) (c0 c1 c2 c3 : Int) : ∃ W0, (w.alloc (.cells #[.string t0, .string t1, .string t2, .string t3, .string t4, .string t5, .string t6, .string t7] 31)).alloc (.cells #[.int .i64 c0, .int .i64 c1, .int .i64 c2, .int .i64 c3] 33) = W0 ∧ Below w.heap.size w W0 ∧
    ∀ W, Below W0.heap.size W0 W → CellsAt W w.heap.size [.string t0, .string t1, .string t2, .string t3, .string t4, .string t5, .string t6, .string t7] ∧ CellsAt W (w.heap.size + 1) [.int .i64 c0, .int .i64 c1, .int .i64 c2, .int .i64 c3] := by
  obtain ⟨W1, h1⟩ : ∃ W, w.alloc (.cells #[.string t0, .string t1, .string t2, .string t3, .string t4, .string t5, .string t6, .string t7] 31) = W := ⟨_, rfl⟩
  obtain ⟨W2, h2⟩ : ∃ W, W1.alloc (.cells #[.int .i64 c0, .int .i64 c1, .int .i64 c2, .int .i64 c3] 33) = W := ⟨_, rfl⟩
  have s1 : W1.heap.size = w.heap.size + 1 := by rw [← h1]; simp
  have b1 : Below w.heap.size w W1 := by rw [← h1]; exact (Below.refl _ _).alloc (Nat.le_refl _) _
  have b2 : Below W1.heap.size W1 W2 := by rw [← h2]; exact (Below.refl _ _).alloc (Nat.le_refl _) _
  have k1 := cellsAt_of (vs := [.string t0, .string t1, .string t2, .string t3, .string t4, .string t5, .string t6, .string t7]) (heap_alloc_new w (.cells #[.string t0, .string t1, .string t2, .string t3, .string t4, .string t5, .string t6, .string t7] 31))
  have k2 := cellsAt_of (vs := [.int .i64 c0, .int .i64 c1, .int .i64 c2, .int .i64 c3]) (heap_alloc_new W1 (.cells #[.int .i64 c0, .int .i64 c1, .int .i64 c2, .int .i64 c3] 33))
  rw [h1] at k1
  rw [h2, s1] at k2
  exact ⟨W2, by rw [h1, h2], below_up b1 b2, fun W hb => ⟨(k1.below b2).below hb, k2.below hb⟩⟩
theorem box_field (w : World) (x0 x1 x2 x3 y0 y1 y2 y3 s0 s1 : Int) : ∃ W0, ((w.alloc (.cells #[.int .i64 x0, .int .i64 x1, .int .i64 x2, .int .i64 x3] 24)).alloc (.cells #[.int .i64 y0, .int .i64 y1, .int .i64 y2, .int .i64 y3] 24)).alloc (.cells #[.int .i64 s0, .int .i64 s1] 25) = W0 ∧ Below w.heap.size w W0 ∧
    ∀ W, Below W0.heap.size W0 W → CellsAt W w.heap.size [.int .i64 x0, .int .i64 x1, .int .i64 x2, .int .i64 x3] ∧ CellsAt W (w.heap.size + 1) [.int .i64 y0, .int .i64 y1, .int .i64 y2, .int .i64 y3] ∧ CellsAt W (w.heap.size + 1 + 1) [.int .i64 s0, .int .i64 s1] := by
  obtain ⟨W1, h1⟩ : ∃ W, w.alloc (.cells #[.int .i64 x0, .int .i64 x1, .int .i64 x2, .int .i64 x3] 24) = W := ⟨_, rfl⟩
  obtain ⟨W2, h2⟩ : ∃ W, W1.alloc (.cells #[.int .i64 y0, .int .i64 y1, .int .i64 y2, .int .i64 y3] 24) = W := ⟨_, rfl⟩
  obtain ⟨W3, h3⟩ : ∃ W, W2.alloc (.cells #[.int .i64 s0, .int .i64 s1] 25) = W := ⟨_, rfl⟩
  have s1' : W1.heap.size = w.heap.size + 1 := by rw [← h1]; simp
  have s2' : W2.heap.size = w.heap.size + 1 + 1 := by rw [← h2]; simp [s1']
  have b1 : Below w.heap.size w W1 := by rw [← h1]; exact (Below.refl _ _).alloc (Nat.le_refl _) _
  have b2 : Below W1.heap.size W1 W2 := by rw [← h2]; exact (Below.refl _ _).alloc (Nat.le_refl _) _
  have b3 : Below W2.heap.size W2 W3 := by rw [← h3]; exact (Below.refl _ _).alloc (Nat.le_refl _) _
  have k1 := cellsAt_of (vs := [.int .i64 x0, .int .i64 x1, .int .i64 x2, .int .i64 x3]) (heap_alloc_new w (.cells #[.int .i64 x0, .int .i64 x1, .int .i64 x2, .int .i64 x3] 24))
  have k2 := cellsAt_of (vs := [.int .i64 y0, .int .i64 y1, .int .i64 y2, .int .i64 y3]) (heap_alloc_new W1 (.cells #[.int .i64 y0, .int .i64 y1, .int .i64 y2, .int .i64 y3] 24))
  have k3 := cellsAt_of (vs := [.int .i64 s0, .int .i64 s1]) (heap_alloc_new W2 (.cells #[.int .i64 s0, .int .i64 s1] 25))
  rw [h1] at k1
  rw [h2, s1'] at k2
  rw [h3, s2'] at k3
  exact ⟨W3, by rw [h1, h2, h3], below_up b1 (below_up b2 b3), fun W hb => ⟨((k1.below b2).below b3).below hb, (k2.below b3).below hb, k3.below hb⟩⟩
theorem ratAt_lt {W : World} {B : Nat} {n d : ByteArray} (h : RatAt W B n d) : B < W.heap.size := World.block_lt_of_cell? W ⟨B, 0, none⟩ h.1
theorem ratAt_set_far {W : World} {A B : Nat} {n d x y : ByteArray} (hne : A ≠ B) (h : RatAt W B n d) : RatAt ((W.setCell ⟨A, 0, none⟩ (.string x)).setCell ⟨A, 1, none⟩ (.string y)) B n d := ratAt_far hne (ratAt_far hne h)
theorem below_set {w W : World} {A : Nat} {x y : ByteArray} (hA : w.heap.size ≤ A) (h : Below w.heap.size w W) : Below w.heap.size w ((W.setCell ⟨A, 0, none⟩ (.string x)).setCell ⟨A, 1, none⟩ (.string y)) :=
  (h.setCell (p := ⟨A, 0, none⟩) hA _).setCell (p := ⟨A, 1, none⟩) hA _
set_option maxRecDepth 100000 in
set_option maxHeartbeats 16000000 in
theorem rationalField_walk (x0 x1 x2 x3 y0 y1 y2 y3 s0 s1 : Int) (s : Bool) (ax0 : -9223372036854775808 ≤ x0) (cx0 : x0 ≤ 9223372036854775807) (ax1 : -9223372036854775808 ≤ x1) (cx1 : x1 ≤ 9223372036854775807) (ax2 : -9223372036854775808 ≤ x2) (cx2 : x2 ≤ 9223372036854775807) (ax3 : -9223372036854775808 ≤ x3) (cx3 : x3 ≤ 9223372036854775807) (ay0 : -9223372036854775808 ≤ y0) (cy0 : y0 ≤ 9223372036854775807) (ay1 : -9223372036854775808 ≤ y1) (cy1 : y1 ≤ 9223372036854775807) (ay2 : -9223372036854775808 ≤ y2) (cy2 : y2 ≤ 9223372036854775807) (ay3 : -9223372036854775808 ≤ y3) (cy3 : y3 ≤ 9223372036854775807) (as0 : -9223372036854775808 ≤ s0) (cs0 : s0 ≤ 9223372036854775807) (as1 : -9223372036854775808 ≤ s1) (cs1 : s1 ≤ 9223372036854775807) (w : World) (hR : Ready w) :
    Calls Tryz.prog 6 #[.agg #[.int .i64 x0, .int .i64 x1, .int .i64 x2, .int .i64 x3], .agg #[.int .i64 y0, .int .i64 y1, .int .i64 y2, .int .i64 y3], .agg #[.int .i64 s0, .int .i64 s1], .bool s] w fun e w' => e = .returned (.bool true) ∧ Below w.heap.size w w' := by
  have hlX := fun W => longR_any x0 x1 x2 x3 ax0 cx0 ax1 cx1 ax2 cx2 ax3 cx3 W
  have hsX := fun W => smallR_any x0 x1 ax0 cx0 ax1 cx1 W
  have qX := small_low x0 x1
  generalize smallQ x0 x1 = uX at *
  have hlY := fun W => longR_any y0 y1 y2 y3 ay0 cy0 ay1 cy1 ay2 cy2 ay3 cy3 W
  have hsY := fun W => smallR_any y0 y1 ay0 cy0 ay1 cy1 W
  have qY := small_low y0 y1
  generalize smallQ y0 y1 = uY at *
  have hsZ := fun W => smallR_any s0 s1 as0 cs0 as1 cs1 W
  have qZ := small_low s0 s1
  generalize smallQ s0 s1 = uZ at *
  have LX := Lib.hid hlX; have LY := Lib.hid hlY; have SX := Lib.hid hsX; have SY := Lib.hid hsY; have SZ := Lib.hid hsZ; have QX := Lib.hid qX; have QY := Lib.hid qY; have QZ := Lib.hid qZ
  have SANE := Lib.hid sane_any; have IS := Lib.hid is_any
  obtain ⟨W0, hW0, b0, hcc⟩ := box_field w x0 x1 x2 x3 y0 y1 y2 y3 s0 s1
  have HW := Lib.hid hW0; have HC := Lib.hid hcc; have HB0 := Lib.hid b0
  have HR0 := Lib.hid (hR.below b0)
  clear hlX hlY hsX hsY hsZ qX qY qZ hR hW0 hcc b0 ax0 cx0 ax1 cx1 ax2 cx2 ax3 cx3 ay0 cy0 ay1 cy1 ay2 cy2 ay3 cy3 as0 cs0 as1 cs1
  have P0 := Lib.hid (Below.refl W0.heap.size W0)
  go_enter Tryz.func6, Tryz.ntmps6
  go_wp2_with (rw [HW.out])
  refine (SANE.out _ (HR0.out.below P0.out)).mono ?_
  rintro e z1 ⟨rfl, b1⟩
  have B1 := Lib.hid b1
  have P1 := Lib.hid (below_up P0.out b1)
  clear b1
  have G := HC.out _ P1.out
  have mx0 := (G.1 0 (by simp)).1
  have mx1 := (G.1 1 (by simp)).1
  have mx2 := (G.1 2 (by simp)).1
  have mx3 := (G.1 3 (by simp)).1
  have my0 := (G.2.1 0 (by simp)).1
  have my1 := (G.2.1 1 (by simp)).1
  have my2 := (G.2.1 2 (by simp)).1
  have my3 := (G.2.1 3 (by simp)).1
  have ms0 := (G.2.2 0 (by simp)).1
  have ms1 := (G.2.2 1 (by simp)).1
  simp only [List.getElem_cons_zero, List.getElem_cons_succ] at mx0 mx1 mx2 mx3 my0 my1 my2 my3 ms0 ms1
  clear G
  go_wp2_with fail
  refine (SX.out _).mono ?_
  rintro e z2 ⟨rfl, b2⟩
  have B2 := Lib.hid b2
  have P2 := Lib.hid (below_up P1.out b2)
  clear b2
  clear mx0 mx1 mx2 mx3 my0 my1 my2 my3 ms0 ms1
  obtain ⟨z3, hz3, b3, f3⟩ := box_one z2 (nT uX) (dT uX)
  have V3 := Lib.hid hz3; have F3 := Lib.hid f3
  clear hz3 f3
  have B3 := Lib.hid b3
  have P3 := Lib.hid (below_up P2.out b3)
  clear b3
  have G := HC.out _ P3.out
  have mx0 := (G.1 0 (by simp)).1
  have mx1 := (G.1 1 (by simp)).1
  have mx2 := (G.1 2 (by simp)).1
  have mx3 := (G.1 3 (by simp)).1
  have my0 := (G.2.1 0 (by simp)).1
  have my1 := (G.2.1 1 (by simp)).1
  have my2 := (G.2.1 2 (by simp)).1
  have my3 := (G.2.1 3 (by simp)).1
  have ms0 := (G.2.2 0 (by simp)).1
  have ms1 := (G.2.2 1 (by simp)).1
  simp only [List.getElem_cons_zero, List.getElem_cons_succ] at mx0 mx1 mx2 mx3 my0 my1 my2 my3 ms0 ms1
  clear G
  go_wp2_with (rw [V3.out])
  refine (SY.out _).mono ?_
  rintro e z4 ⟨rfl, b4⟩
  have B4 := Lib.hid b4
  have P4 := Lib.hid (below_up P3.out b4)
  clear b4
  clear mx0 mx1 mx2 mx3 my0 my1 my2 my3 ms0 ms1
  obtain ⟨z5, hz5, b5, f5⟩ := box_one z4 (nT uY) (dT uY)
  have V5 := Lib.hid hz5; have F5 := Lib.hid f5
  clear hz5 f5
  have B5 := Lib.hid b5
  have P5 := Lib.hid (below_up P4.out b5)
  clear b5
  have G := HC.out _ P5.out
  have mx0 := (G.1 0 (by simp)).1
  have mx1 := (G.1 1 (by simp)).1
  have mx2 := (G.1 2 (by simp)).1
  have mx3 := (G.1 3 (by simp)).1
  have my0 := (G.2.1 0 (by simp)).1
  have my1 := (G.2.1 1 (by simp)).1
  have my2 := (G.2.1 2 (by simp)).1
  have my3 := (G.2.1 3 (by simp)).1
  have ms0 := (G.2.2 0 (by simp)).1
  have ms1 := (G.2.2 1 (by simp)).1
  simp only [List.getElem_cons_zero, List.getElem_cons_succ] at mx0 mx1 mx2 mx3 my0 my1 my2 my3 ms0 ms1
  clear G
  go_wp2_with (rw [V5.out])
  refine (SZ.out _).mono ?_
  rintro e z6 ⟨rfl, b6⟩
  have B6 := Lib.hid b6
  have P6 := Lib.hid (below_up P5.out b6)
  clear b6
  clear mx0 mx1 mx2 mx3 my0 my1 my2 my3 ms0 ms1
  obtain ⟨z7, hz7, b7, f7⟩ := box_one z6 (nT uZ) (dT uZ)
  have V7 := Lib.hid hz7; have F7 := Lib.hid f7
  clear hz7 f7
  have B7 := Lib.hid b7
  have P7 := Lib.hid (below_up P6.out b7)
  clear b7
  go_upto_if 52 with (rw [V7.out])
  go_cut [52] from 52 to 56 (fun sv wx => sv = .bool s ∧ ∃ qa qb : Rat, Hid (FitsQ qa) ∧ Hid (FitsQ qb) ∧ Hid (s = false → LowQ qa ∧ LowQ qb) ∧ Hid (RatAt wx z2.heap.size (nT qa) (dT qa)) ∧ Hid (RatAt wx z4.heap.size (nT qb) (dT qb)) ∧ Hid (RatAt wx z6.heap.size (nT uZ) (dT uZ)) ∧ Hid (Below W0.heap.size W0 wx))
  case first =>
    have ra := F3.out z7 (below_up B4.out (below_up B5.out (below_up B6.out (below_up B7.out (Below.refl _ _)))))
    have rb := F5.out z7 (below_up B6.out (below_up B7.out (Below.refl _ _)))
    have rc := F7.out z7 (Below.refl _ _)
    have la := ratAt_lt (F3.out _ (Below.refl _ _))
    have hab : z2.heap.size < z4.heap.size := Nat.lt_of_lt_of_le la (Below.size B4.out)
    have hbc : z4.heap.size < z6.heap.size := Nat.lt_of_lt_of_le (ratAt_lt (F5.out _ (Below.refl _ _))) (Below.size B6.out)
    have h0a : W0.heap.size ≤ z2.heap.size := Below.size P2.out
    have RA := Lib.hid ra; have RB := Lib.hid rb; have RC := Lib.hid rc; have HAB := Lib.hid hab; have HBC := Lib.hid hbc; have H0A := Lib.hid h0a
    clear ra rb rc la hab hbc h0a
    cases s with
    | false =>
      go_wp2_with fail
      go_meet
      exact ⟨rfl, uX, uY, Lib.hid QX.out.fits, Lib.hid QY.out.fits, Lib.hid (fun _ => ⟨QX.out, QY.out⟩), RA, RB, RC, P7⟩
    | true =>
      have G := HC.out _ P7.out
      have mx0 := (G.1 0 (by simp)).1
      have mx1 := (G.1 1 (by simp)).1
      have mx2 := (G.1 2 (by simp)).1
      have mx3 := (G.1 3 (by simp)).1
      simp only [List.getElem_cons_zero, List.getElem_cons_succ] at mx0 mx1 mx2 mx3
      clear G
      go_wp2_with fail
      refine (LX.out _).mono ?_
      rintro e y1 ⟨qa, hqa, rfl, d1⟩
      have ra := RA.out.below d1
      have rb := RB.out.below d1
      have rc := RC.out.below d1
      have pd := below_up P7.out d1
      obtain ⟨ga0, ga1, ga2, ga3⟩ := ra
      have HQA := Lib.hid hqa.fits
      clear mx0 mx1 mx2 mx3 hqa
      obtain ⟨y2, hy2⟩ : ∃ y, (y1.setCell ⟨z2.heap.size, 0, none⟩ (.string (nT qa))).setCell ⟨z2.heap.size, 1, none⟩ (.string (dT qa)) = y := ⟨_, rfl⟩
      have RA2 := Lib.hid (show RatAt y2 z2.heap.size (nT qa) (dT qa) by rw [← hy2]; exact ratAt_set (RA.out.below d1))
      have RB2 := Lib.hid (show RatAt y2 z4.heap.size (nT uY) (dT uY) by rw [← hy2]; exact ratAt_set_far (Nat.ne_of_lt HAB.out) rb)
      have RC2 := Lib.hid (show RatAt y2 z6.heap.size (nT uZ) (dT uZ) by rw [← hy2]; exact ratAt_set_far (Nat.ne_of_lt (Nat.lt_trans HAB.out HBC.out)) rc)
      have PD2 := Lib.hid (show Below W0.heap.size W0 y2 by rw [← hy2]; exact below_set H0A.out pd)
      have HY2 := Lib.hid hy2
      clear rb rc pd hy2 d1 RA RB RC
      have G := HC.out _ PD2.out
      have my0 := (G.2.1 0 (by simp)).1
      have my1 := (G.2.1 1 (by simp)).1
      have my2 := (G.2.1 2 (by simp)).1
      have my3 := (G.2.1 3 (by simp)).1
      simp only [List.getElem_cons_zero, List.getElem_cons_succ] at my0 my1 my2 my3
      clear G
      go_wp2_with (rw [HY2.out])
      refine (LY.out _).mono ?_
      rintro e y3 ⟨qb, hqb, rfl, d3⟩
      have rb := RB2.out.below d3
      obtain ⟨gb0, gb1, gb2, gb3⟩ := rb
      have HQB := Lib.hid hqb.fits
      have RA3 := Lib.hid (RA2.out.below d3)
      have RB3 := Lib.hid (RB2.out.below d3)
      have RC3 := Lib.hid (RC2.out.below d3)
      have PD3 := Lib.hid (below_up PD2.out d3)
      clear ga0 ga1 ga2 ga3 my0 my1 my2 my3 hqb d3
      go_wp2_with fail
      go_meet
      exact ⟨rfl, qa, qb, HQA, HQB, Lib.hid (fun h => by cases h), Lib.hid (ratAt_set_far (Nat.ne_of_gt HAB.out) RA3.out), Lib.hid (ratAt_set RB3.out), Lib.hid (ratAt_set_far (Nat.ne_of_lt HBC.out) RC3.out), Lib.hid (below_set (Nat.le_trans H0A.out (Nat.le_of_lt HAB.out)) PD3.out)⟩
  case rest =>
    obtain ⟨rfl, qa, qb, HFA, HFB, HLOW, hra, hrb, hrc, hbx⟩ := hcut
    generalize wc = z8 at *
    have FA := Lib.hid (fun W (b : Below z8.heap.size z8 W) => RatAt.below hra.out b)
    have FB := Lib.hid (fun W (b : Below z8.heap.size z8 W) => RatAt.below hrb.out b)
    have FC := Lib.hid (fun W (b : Below z8.heap.size z8 W) => RatAt.below hrc.out b)
    have P8 := hbx
    have B8 := hbx
    clear hra hrb hrc hbx
    have fc := QZ.out.fits
    obtain ⟨sa1, sa2⟩ := text_size HFA.out
    obtain ⟨sb1, sb2⟩ := text_size HFB.out
    obtain ⟨sc1, sc2⟩ := text_size fc
    have hlow := fun h : s = false => low_ops (HLOW.out h).1 (HLOW.out h).2
    have sback := fun bn bd => sum_back qa HFA.out bn bd
    have qback := fun bn bd => quo_back qa HFA.out bn bd
    generalize nT qa = AN at *
    generalize dT qa = AD at *
    generalize nT qb = BN at *
    generalize dT qb = BD at *
    generalize nT uZ = CN at *
    generalize dT uZ = CD at *
    have v1 := fun W (h : Ready W) => four_q AN AD BN BD sa1 sa2 sb1 sb2 W h
    have v2 := fun W (h : Ready W) => four_q BN BD AN AD sb1 sb2 sa1 sa2 W h
    rw [(sum_comm BN BD AN AD).1, (sum_comm BN BD AN AD).2, (pro_comm BN BD AN AD).1, (pro_comm BN BD AN AD).2, addB_comm BN BD AN AD, mulB_comm BN BD AN AD] at v2
    have v3 := fun W (h : Ready W) => four_q BN BD CN CD sb1 sb2 sc1 sc2 W h
    have zR0 := sum_size AN AD BN BD
    have zR1 := dif_size AN AD BN BD
    have zR2 := pro_size AN AD BN BD
    have zR3 := quo_size AN AD BN BD
    have zP0 := sum_size BN BD CN CD
    have zP2 := pro_size BN BD CN CD
    have f2 := sum_assoc AN AD BN BD CN CD
    have f3 := pro_assoc AN AD BN BD CN CD
    have f4 := distrib AN AD BN BD CN CD
    have f5 := sback BN BD
    have f6 := qback BN BD
    clear sback qback
    have zU := pro_size AN AD CN CD
    generalize sumN AN AD BN BD = R0N at *
    generalize sumD AN AD BN BD = R0D at *
    generalize difN AN AD BN BD = R1N at *
    generalize difD AN AD BN BD = R1D at *
    generalize proN AN AD BN BD = R2N at *
    generalize proD AN AD BN BD = R2D at *
    generalize quoN AN AD BN BD = R3N at *
    generalize quoD AN AD BN BD = R3D at *
    generalize difN BN BD AN AD = S1N at *
    generalize difD BN BD AN AD = S1D at *
    generalize quoN BN BD AN AD = S3N at *
    generalize quoD BN BD AN AD = S3D at *
    generalize sumN BN BD CN CD = P0N at *
    generalize sumD BN BD CN CD = P0D at *
    generalize difN BN BD CN CD = P1N at *
    generalize difD BN BD CN CD = P1D at *
    generalize proN BN BD CN CD = P2N at *
    generalize proD BN BD CN CD = P2D at *
    generalize quoN BN BD CN CD = P3N at *
    generalize quoD BN BD CN CD = P3D at *
    have v4 := fun W (h : Ready W) => four_q R0N R0D CN CD zR0.1 zR0.2 sc1 sc2 W h
    have v5 := fun W (h : Ready W) => add_q AN AD P0N P0D sa1 sa2 zP0.1 zP0.2 W h
    have v6 := fun W (h : Ready W) => mul_q AN AD P2N P2D sa1 sa2 zP2.1 zP2.2 W h
    have v7 := fun W (h : Ready W) => mul_q R2N R2D CN CD zR2.1 zR2.2 sc1 sc2 W h
    have v8 := fun W (h : Ready W) => mul_q AN AD CN CD sa1 sa2 sc1 sc2 W h
    rw [show outN (addB AN AD P0N P0D) (valQ AN AD + valQ P0N P0D) = sumN AN AD P0N P0D from rfl, show outD (addB AN AD P0N P0D) (valQ AN AD + valQ P0N P0D) = sumD AN AD P0N P0D from rfl] at v5
    rw [show outN (mulB AN AD P2N P2D) (valQ AN AD * valQ P2N P2D) = proN AN AD P2N P2D from rfl, show outD (mulB AN AD P2N P2D) (valQ AN AD * valQ P2N P2D) = proD AN AD P2N P2D from rfl] at v6
    rw [show outN (mulB R2N R2D CN CD) (valQ R2N R2D * valQ CN CD) = proN R2N R2D CN CD from rfl, show outD (mulB R2N R2D CN CD) (valQ R2N R2D * valQ CN CD) = proD R2N R2D CN CD from rfl] at v7
    rw [show outN (mulB AN AD CN CD) (valQ AN AD * valQ CN CD) = proN AN AD CN CD from rfl, show outD (mulB AN AD CN CD) (valQ AN AD * valQ CN CD) = proD AN AD CN CD from rfl] at v8
    generalize proN AN AD CN CD = UN at *
    generalize proD AN AD CN CD = UD at *
    have v9 := fun W (h : Ready W) => add_q UN UD P2N P2D zU.1 zU.2 zP2.1 zP2.2 W h
    rw [show outN (addB UN UD P2N P2D) (valQ UN UD + valQ P2N P2D) = sumN UN UD P2N P2D from rfl, show outD (addB UN UD P2N P2D) (valQ UN UD + valQ P2N P2D) = sumD UN UD P2N P2D from rfl] at v9
    have v10 := fun W (h : Ready W) => mul_q R0N R0D CN CD zR0.1 zR0.2 sc1 sc2 W h
    rw [show outN (mulB R0N R0D CN CD) (valQ R0N R0D * valQ CN CD) = proN R0N R0D CN CD from rfl, show outD (mulB R0N R0D CN CD) (valQ R0N R0D * valQ CN CD) = proD R0N R0D CN CD from rfl] at v10
    have v11 := fun W (h : Ready W) => sub_q R0N R0D BN BD zR0.1 zR0.2 sb1 sb2 W h
    rw [show outN (subB R0N R0D BN BD) (valQ R0N R0D - valQ BN BD) = difN R0N R0D BN BD from rfl, show outD (subB R0N R0D BN BD) (valQ R0N R0D - valQ BN BD) = difD R0N R0D BN BD from rfl] at v11
    have v12 := fun W (h : Ready W) => mul_q R3N R3D BN BD zR3.1 zR3.2 sb1 sb2 W h
    rw [show outN (mulB R3N R3D BN BD) (valQ R3N R3D * valQ BN BD) = proN R3N R3D BN BD from rfl, show outD (mulB R3N R3D BN BD) (valQ R3N R3D * valQ BN BD) = proD R3N R3D BN BD from rfl] at v12
    generalize sumN R0N R0D CN CD = Q0N at *
    generalize sumD R0N R0D CN CD = Q0D at *
    generalize difN R0N R0D CN CD = Q1N at *
    generalize difD R0N R0D CN CD = Q1D at *
    generalize proN R0N R0D CN CD = Q2N at *
    generalize proD R0N R0D CN CD = Q2D at *
    generalize quoN R0N R0D CN CD = Q3N at *
    generalize quoD R0N R0D CN CD = Q3D at *
    generalize sumN AN AD P0N P0D = ON at *
    generalize sumD AN AD P0N P0D = OD at *
    generalize proN AN AD P2N P2D = TN at *
    generalize proD AN AD P2N P2D = TD at *
    generalize proN R2N R2D CN CD = LN at *
    generalize proD R2N R2D CN CD = LD at *
    generalize sumN UN UD P2N P2D = YN at *
    generalize sumD UN UD P2N P2D = YD at *
    generalize difN R0N R0D BN BD = XN at *
    generalize difD R0N R0D BN BD = XD at *
    generalize proN R3N R3D BN BD = ZN at *
    generalize proD R3N R3D BN BD = ZD at *
    generalize addB AN AD BN BD = ba at *
    generalize subB AN AD BN BD = bs at *
    generalize mulB AN AD BN BD = bm at *
    generalize divB AN AD BN BD = bd at *
    generalize subB BN BD AN AD = bs2 at *
    generalize divB BN BD AN AD = bd2 at *
    generalize addB BN BD CN CD = g0 at *
    generalize subB BN BD CN CD = g1 at *
    generalize mulB BN BD CN CD = g2 at *
    generalize divB BN BD CN CD = g3 at *
    generalize addB R0N R0D CN CD = h0 at *
    generalize subB R0N R0D CN CD = h1 at *
    generalize mulB R0N R0D CN CD = h2 at *
    generalize divB R0N R0D CN CD = h3 at *
    generalize addB AN AD P0N P0D = bi at *
    generalize mulB AN AD P2N P2D = bj at *
    generalize mulB R2N R2D CN CD = bk at *
    generalize mulB AN AD CN CD = bl at *
    generalize addB UN UD P2N P2D = bn at *
    generalize subB R0N R0D BN BD = bo at *
    generalize mulB R3N R3D BN BD = bp at *
    generalize outE bs = ebs at *
    generalize outE bs2 = ebs2 at *
    generalize outE bd2 = ebd2 at *
    generalize outE g1 = eg1 at *
    generalize outE g3 = eg3 at *
    generalize outE h1 = eh1 at *
    generalize outE h3 = eh3 at *
    have V1' := Lib.hid v1; have V2' := Lib.hid v2; have V3' := Lib.hid v3; have V4' := Lib.hid v4; have V5' := Lib.hid v5; have V6' := Lib.hid v6; have V7' := Lib.hid v7; have V8' := Lib.hid v8; have V9' := Lib.hid v9; have V10' := Lib.hid v10; have V11' := Lib.hid v11; have V12' := Lib.hid v12
    have HL := Lib.hid hlow; have H2 := Lib.hid f2; have H3 := Lib.hid f3; have H4 := Lib.hid f4; have H5 := Lib.hid f5; have H6 := Lib.hid f6
    have oy : outE true = 0 := rfl
    have on : outE false = 40 := rfl
    have OY := Lib.hid oy; have ON' := Lib.hid on
    clear oy on hlow v1 v2 v3 v4 v5 v6 v7 v8 v9 v10 v11 v12 f2 f3 f4 f5 f6 fc sa1 sa2 sb1 sb2 sc1 sc2 zR0 zR1 zR2 zR3 zP0 zP2 zU HFA HFB HLOW
    obtain ⟨qa0, qa1, qa2, qa3⟩ := FA.out z8 (Below.refl _ _)
    obtain ⟨qb0, qb1, qb2, qb3⟩ := FB.out z8 (Below.refl _ _)
    go_wp2_with fail
    refine (V1'.out _ (HR0.out.below P8.out)).mono ?_
    rintro e z9 ⟨rfl, b9⟩
    have B9 := Lib.hid b9
    have P9 := Lib.hid (below_up P8.out b9)
    clear b9
    clear qa0 qa1 qa2 qa3 qb0 qb1 qb2 qb3
    obtain ⟨z10, hz10, b10, f10⟩ := box_eight z9 R0N R0D R1N R1D R2N R2D R3N R3D (outE ba) ebs (outE bm) (outE bd)
    have V10 := Lib.hid hz10; have G10 := Lib.hid f10
    clear hz10 f10
    have B10 := Lib.hid b10
    have P10 := Lib.hid (below_up P9.out b10)
    clear b10
    obtain ⟨qa0, qa1, qa2, qa3⟩ := FA.out z10 (below_up B9.out (below_up B10.out (Below.refl _ _)))
    obtain ⟨qb0, qb1, qb2, qb3⟩ := FB.out z10 (below_up B9.out (below_up B10.out (Below.refl _ _)))
    go_wp2_with (rw [V10.out])
    refine (V2'.out _ (HR0.out.below P10.out)).mono ?_
    rintro e z11 ⟨rfl, b11⟩
    have B11 := Lib.hid b11
    have P11 := Lib.hid (below_up P10.out b11)
    clear b11
    clear qa0 qa1 qa2 qa3 qb0 qb1 qb2 qb3
    obtain ⟨z12, hz12, b12, f12⟩ := box_eight z11 R0N R0D S1N S1D R2N R2D S3N S3D (outE ba) ebs2 (outE bm) ebd2
    have V12 := Lib.hid hz12; have G12 := Lib.hid f12
    clear hz12 f12
    have B12 := Lib.hid b12
    have P12 := Lib.hid (below_up P11.out b12)
    clear b12
    go_upto_region 10 with (rw [V12.out])
    go_cut [108] from 69 to 108 (fun s108 wx => s108 = .bool false ∧ wx = z12)
    case first =>
      have G := G10.out z12 (below_up B11.out (below_up B12.out (Below.refl _ _)))
      have ert0 := (G.1 0 (by simp)).1
      have ert1 := (G.1 1 (by simp)).1
      have ert4 := (G.1 4 (by simp)).1
      have ert5 := (G.1 5 (by simp)).1
      have erc0 := (G.2 0 (by simp)).1
      have erc2 := (G.2 2 (by simp)).1
      simp only [List.getElem_cons_zero, List.getElem_cons_succ] at ert0 ert1 ert4 ert5 erc0 erc2
      clear G
      have G := G12.out z12 (Below.refl _ _)
      have est0 := (G.1 0 (by simp)).1
      have est1 := (G.1 1 (by simp)).1
      have est4 := (G.1 4 (by simp)).1
      have est5 := (G.1 5 (by simp)).1
      have esc0 := (G.2 0 (by simp)).1
      have esc2 := (G.2 2 (by simp)).1
      simp only [List.getElem_cons_zero, List.getElem_cons_succ] at est0 est1 est4 est5 esc0 esc2
      clear G
      have oy := OY.out; have hl := HL.out
      cases s with
      | false =>
        obtain ⟨rfl, rfl⟩ := hl rfl
        clear hl
        go_wp2_with fail
        go_meet
        exact ⟨rfl, rfl⟩
      | true =>
        clear hl
        go_wp2_with fail
        go_meet
        exact ⟨rfl, rfl⟩
    case rest =>
      obtain ⟨rfl, rfl⟩ := hcut
      generalize wc = z12 at *
      obtain ⟨qb0, qb1, qb2, qb3⟩ := FB.out z12 (below_up B9.out (below_up B10.out (below_up B11.out (below_up B12.out (Below.refl _ _)))))
      obtain ⟨qc0, qc1, qc2, qc3⟩ := FC.out z12 (below_up B9.out (below_up B10.out (below_up B11.out (below_up B12.out (Below.refl _ _)))))
      go_wp2_with fail
      refine (V3'.out _ (HR0.out.below P12.out)).mono ?_
      rintro e z13 ⟨rfl, b13⟩
      have B13 := Lib.hid b13
      have P13 := Lib.hid (below_up P12.out b13)
      clear b13
      clear qb0 qb1 qb2 qb3 qc0 qc1 qc2 qc3
      obtain ⟨z14, hz14, b14, f14⟩ := box_eight z13 P0N P0D P1N P1D P2N P2D P3N P3D (outE g0) eg1 (outE g2) eg3
      have V14 := Lib.hid hz14; have G14 := Lib.hid f14
      clear hz14 f14
      have B14 := Lib.hid b14
      have P14 := Lib.hid (below_up P13.out b14)
      clear b14
      have G := G10.out z14 (below_up B11.out (below_up B12.out (below_up B13.out (below_up B14.out (Below.refl _ _)))))
      have ert0 := (G.1 0 (by simp)).1
      have ert1 := (G.1 1 (by simp)).1
      simp only [List.getElem_cons_zero, List.getElem_cons_succ] at ert0 ert1
      clear G
      obtain ⟨qc0, qc1, qc2, qc3⟩ := FC.out z14 (below_up B9.out (below_up B10.out (below_up B11.out (below_up B12.out (below_up B13.out (below_up B14.out (Below.refl _ _)))))))
      go_wp2_with (rw [V14.out])
      refine (V4'.out _ (HR0.out.below P14.out)).mono ?_
      rintro e z15 ⟨rfl, b15⟩
      have B15 := Lib.hid b15
      have P15 := Lib.hid (below_up P14.out b15)
      clear b15
      clear ert0 ert1 
      clear qc0 qc1 qc2 qc3
      obtain ⟨z16, hz16, b16, f16⟩ := box_eight z15 Q0N Q0D Q1N Q1D Q2N Q2D Q3N Q3D (outE h0) eh1 (outE h2) eh3
      have V16 := Lib.hid hz16; have G16 := Lib.hid f16
      clear hz16 f16
      have B16 := Lib.hid b16
      have P16 := Lib.hid (below_up P15.out b16)
      clear b16
      have G := G14.out z16 (below_up B15.out (below_up B16.out (Below.refl _ _)))
      have ebct0 := (G.1 0 (by simp)).1
      have ebct1 := (G.1 1 (by simp)).1
      simp only [List.getElem_cons_zero, List.getElem_cons_succ] at ebct0 ebct1
      clear G
      obtain ⟨qa0, qa1, qa2, qa3⟩ := FA.out z16 (below_up B9.out (below_up B10.out (below_up B11.out (below_up B12.out (below_up B13.out (below_up B14.out (below_up B15.out (below_up B16.out (Below.refl _ _)))))))))
      go_wp2_with (rw [V16.out])
      refine (V5'.out _ (HR0.out.below P16.out)).mono ?_
      rintro e z17 ⟨rfl, b17⟩
      have B17 := Lib.hid b17
      have P17 := Lib.hid (below_up P16.out b17)
      clear b17
      clear ebct0 ebct1 
      clear qa0 qa1 qa2 qa3
      obtain ⟨z18, hz18, b18, f18⟩ := box_one z17 ON OD
      have V18 := Lib.hid hz18; have F18 := Lib.hid f18
      clear hz18 f18
      have B18 := Lib.hid b18
      have P18 := Lib.hid (below_up P17.out b18)
      clear b18
      go_upto_region 15 with (rw [V18.out])
      go_cut [151] from 129 to 151 (fun s151 wx => s151 = .bool false ∧ wx = z18)
      case first =>
        have G := G10.out z18 (below_up B11.out (below_up B12.out (below_up B13.out (below_up B14.out (below_up B15.out (below_up B16.out (below_up B17.out (below_up B18.out (Below.refl _ _)))))))))
        have erc0 := (G.2 0 (by simp)).1
        simp only [List.getElem_cons_zero] at erc0
        clear G
        have G := G14.out z18 (below_up B15.out (below_up B16.out (below_up B17.out (below_up B18.out (Below.refl _ _)))))
        have ebcc0 := (G.2 0 (by simp)).1
        simp only [List.getElem_cons_zero] at ebcc0
        clear G
        have G := G16.out z18 (below_up B17.out (below_up B18.out (Below.refl _ _)))
        have eabt0 := (G.1 0 (by simp)).1
        have eabt1 := (G.1 1 (by simp)).1
        have eabc0 := (G.2 0 (by simp)).1
        simp only [List.getElem_cons_zero, List.getElem_cons_succ] at eabt0 eabt1 eabc0
        clear G
        obtain ⟨qone0, qone1, qone2, qone3⟩ := F18.out z18 (Below.refl _ _)
        have oy := OY.out; have on := ON'.out
        cases ba with
        | false =>
          go_wp2_with fail
          go_meet
          exact ⟨rfl, rfl⟩
        | true =>
          cases g0 with
          | false =>
            go_wp2_with fail
            go_meet
            exact ⟨rfl, rfl⟩
          | true =>
            cases h0 with
            | false =>
              go_wp2_with fail
              go_meet
              exact ⟨rfl, rfl⟩
            | true =>
              cases bi with
              | false =>
                go_wp2_with fail
                go_meet
                exact ⟨rfl, rfl⟩
              | true =>
                obtain ⟨rfl, rfl⟩ := H2.out rfl rfl rfl rfl
                go_wp2_with fail
                go_meet
                exact ⟨rfl, rfl⟩
      case rest =>
        obtain ⟨rfl, rfl⟩ := hcut
        generalize wc = z18 at *
        have G := G14.out z18 (below_up B15.out (below_up B16.out (below_up B17.out (below_up B18.out (Below.refl _ _)))))
        have ebct4 := (G.1 4 (by simp)).1
        have ebct5 := (G.1 5 (by simp)).1
        simp only [List.getElem_cons_zero, List.getElem_cons_succ] at ebct4 ebct5
        clear G
        obtain ⟨qa0, qa1, qa2, qa3⟩ := FA.out z18 (below_up B9.out (below_up B10.out (below_up B11.out (below_up B12.out (below_up B13.out (below_up B14.out (below_up B15.out (below_up B16.out (below_up B17.out (below_up B18.out (Below.refl _ _)))))))))))
        go_wp2_with fail
        refine (V6'.out _ (HR0.out.below P18.out)).mono ?_
        rintro e z19 ⟨rfl, b19⟩
        have B19 := Lib.hid b19
        have P19 := Lib.hid (below_up P18.out b19)
        clear b19
        clear ebct4 ebct5 
        clear qa0 qa1 qa2 qa3
        obtain ⟨z20, hz20, b20, f20⟩ := box_one z19 TN TD
        have V20 := Lib.hid hz20; have F20 := Lib.hid f20
        clear hz20 f20
        have B20 := Lib.hid b20
        have P20 := Lib.hid (below_up P19.out b20)
        clear b20
        have G := G10.out z20 (below_up B11.out (below_up B12.out (below_up B13.out (below_up B14.out (below_up B15.out (below_up B16.out (below_up B17.out (below_up B18.out (below_up B19.out (below_up B20.out (Below.refl _ _)))))))))))
        have ert4 := (G.1 4 (by simp)).1
        have ert5 := (G.1 5 (by simp)).1
        simp only [List.getElem_cons_zero, List.getElem_cons_succ] at ert4 ert5
        clear G
        obtain ⟨qc0, qc1, qc2, qc3⟩ := FC.out z20 (below_up B9.out (below_up B10.out (below_up B11.out (below_up B12.out (below_up B13.out (below_up B14.out (below_up B15.out (below_up B16.out (below_up B17.out (below_up B18.out (below_up B19.out (below_up B20.out (Below.refl _ _)))))))))))))
        go_wp2_with (rw [V20.out])
        refine (V7'.out _ (HR0.out.below P20.out)).mono ?_
        rintro e z21 ⟨rfl, b21⟩
        have B21 := Lib.hid b21
        have P21 := Lib.hid (below_up P20.out b21)
        clear b21
        clear ert4 ert5 
        clear qc0 qc1 qc2 qc3
        obtain ⟨z22, hz22, b22, f22⟩ := box_one z21 LN LD
        have V22 := Lib.hid hz22; have F22 := Lib.hid f22
        clear hz22 f22
        have B22 := Lib.hid b22
        have P22 := Lib.hid (below_up P21.out b22)
        clear b22
        go_upto_region 19 with (rw [V22.out])
        go_cut [186] from 166 to 186 (fun s186 wx => s186 = .bool false ∧ wx = z22)
        case first =>
          have G := G10.out z22 (below_up B11.out (below_up B12.out (below_up B13.out (below_up B14.out (below_up B15.out (below_up B16.out (below_up B17.out (below_up B18.out (below_up B19.out (below_up B20.out (below_up B21.out (below_up B22.out (Below.refl _ _)))))))))))))
          have erc2 := (G.2 2 (by simp)).1
          simp only [List.getElem_cons_zero, List.getElem_cons_succ] at erc2
          clear G
          have G := G14.out z22 (below_up B15.out (below_up B16.out (below_up B17.out (below_up B18.out (below_up B19.out (below_up B20.out (below_up B21.out (below_up B22.out (Below.refl _ _)))))))))
          have ebcc2 := (G.2 2 (by simp)).1
          simp only [List.getElem_cons_zero, List.getElem_cons_succ] at ebcc2
          clear G
          obtain ⟨qtwo0, qtwo1, qtwo2, qtwo3⟩ := F20.out z22 (below_up B21.out (below_up B22.out (Below.refl _ _)))
          obtain ⟨qleft0, qleft1, qleft2, qleft3⟩ := F22.out z22 (Below.refl _ _)
          have oy := OY.out; have on := ON'.out
          cases bm with
          | false =>
            go_wp2_with fail
            go_meet
            exact ⟨rfl, rfl⟩
          | true =>
            cases g2 with
            | false =>
              go_wp2_with fail
              go_meet
              exact ⟨rfl, rfl⟩
            | true =>
              cases bj with
              | false =>
                go_wp2_with fail
                go_meet
                exact ⟨rfl, rfl⟩
              | true =>
                cases bk with
                | false =>
                  go_wp2_with fail
                  go_meet
                  exact ⟨rfl, rfl⟩
                | true =>
                  obtain ⟨rfl, rfl⟩ := H3.out rfl rfl rfl rfl
                  go_wp2_with fail
                  go_meet
                  exact ⟨rfl, rfl⟩
        case rest =>
          obtain ⟨rfl, rfl⟩ := hcut
          generalize wc = z22 at *
          obtain ⟨qa0, qa1, qa2, qa3⟩ := FA.out z22 (below_up B9.out (below_up B10.out (below_up B11.out (below_up B12.out (below_up B13.out (below_up B14.out (below_up B15.out (below_up B16.out (below_up B17.out (below_up B18.out (below_up B19.out (below_up B20.out (below_up B21.out (below_up B22.out (Below.refl _ _)))))))))))))))
          obtain ⟨qc0, qc1, qc2, qc3⟩ := FC.out z22 (below_up B9.out (below_up B10.out (below_up B11.out (below_up B12.out (below_up B13.out (below_up B14.out (below_up B15.out (below_up B16.out (below_up B17.out (below_up B18.out (below_up B19.out (below_up B20.out (below_up B21.out (below_up B22.out (Below.refl _ _)))))))))))))))
          go_wp2_with fail
          refine (V8'.out _ (HR0.out.below P22.out)).mono ?_
          rintro e z23 ⟨rfl, b23⟩
          have B23 := Lib.hid b23
          have P23 := Lib.hid (below_up P22.out b23)
          clear b23
          clear qa0 qa1 qa2 qa3 qc0 qc1 qc2 qc3
          obtain ⟨z24, hz24, b24, f24⟩ := box_one z23 UN UD
          have V24 := Lib.hid hz24; have F24 := Lib.hid f24
          clear hz24 f24
          have B24 := Lib.hid b24
          have P24 := Lib.hid (below_up P23.out b24)
          clear b24
          have G := G14.out z24 (below_up B15.out (below_up B16.out (below_up B17.out (below_up B18.out (below_up B19.out (below_up B20.out (below_up B21.out (below_up B22.out (below_up B23.out (below_up B24.out (Below.refl _ _)))))))))))
          have ebct4 := (G.1 4 (by simp)).1
          have ebct5 := (G.1 5 (by simp)).1
          simp only [List.getElem_cons_zero, List.getElem_cons_succ] at ebct4 ebct5
          clear G
          obtain ⟨qac0, qac1, qac2, qac3⟩ := F24.out z24 (Below.refl _ _)
          go_wp2_with (rw [V24.out])
          refine (V9'.out _ (HR0.out.below P24.out)).mono ?_
          rintro e z25 ⟨rfl, b25⟩
          have B25 := Lib.hid b25
          have P25 := Lib.hid (below_up P24.out b25)
          clear b25
          clear ebct4 ebct5 
          clear qac0 qac1 qac2 qac3
          obtain ⟨z26, hz26, b26, f26⟩ := box_one z25 YN YD
          have V26 := Lib.hid hz26; have F26 := Lib.hid f26
          clear hz26 f26
          have B26 := Lib.hid b26
          have P26 := Lib.hid (below_up P25.out b26)
          clear b26
          have G := G10.out z26 (below_up B11.out (below_up B12.out (below_up B13.out (below_up B14.out (below_up B15.out (below_up B16.out (below_up B17.out (below_up B18.out (below_up B19.out (below_up B20.out (below_up B21.out (below_up B22.out (below_up B23.out (below_up B24.out (below_up B25.out (below_up B26.out (Below.refl _ _)))))))))))))))))
          have ert0 := (G.1 0 (by simp)).1
          have ert1 := (G.1 1 (by simp)).1
          simp only [List.getElem_cons_zero, List.getElem_cons_succ] at ert0 ert1
          clear G
          obtain ⟨qc0, qc1, qc2, qc3⟩ := FC.out z26 (below_up B9.out (below_up B10.out (below_up B11.out (below_up B12.out (below_up B13.out (below_up B14.out (below_up B15.out (below_up B16.out (below_up B17.out (below_up B18.out (below_up B19.out (below_up B20.out (below_up B21.out (below_up B22.out (below_up B23.out (below_up B24.out (below_up B25.out (below_up B26.out (Below.refl _ _)))))))))))))))))))
          go_wp2_with (rw [V26.out])
          refine (V10'.out _ (HR0.out.below P26.out)).mono ?_
          rintro e z27 ⟨rfl, b27⟩
          have B27 := Lib.hid b27
          have P27 := Lib.hid (below_up P26.out b27)
          clear b27
          clear ert0 ert1 
          clear qc0 qc1 qc2 qc3
          obtain ⟨z28, hz28, b28, f28⟩ := box_one z27 Q2N Q2D
          have V28 := Lib.hid hz28; have F28 := Lib.hid f28
          clear hz28 f28
          have B28 := Lib.hid b28
          have P28 := Lib.hid (below_up P27.out b28)
          clear b28
          go_upto_region 24 with (rw [V28.out])
          go_cut [231] from 207 to 231 (fun s231 wx => s231 = .bool false ∧ wx = z28)
          case first =>
            have G := G10.out z28 (below_up B11.out (below_up B12.out (below_up B13.out (below_up B14.out (below_up B15.out (below_up B16.out (below_up B17.out (below_up B18.out (below_up B19.out (below_up B20.out (below_up B21.out (below_up B22.out (below_up B23.out (below_up B24.out (below_up B25.out (below_up B26.out (below_up B27.out (below_up B28.out (Below.refl _ _)))))))))))))))))))
            have erc0 := (G.2 0 (by simp)).1
            simp only [List.getElem_cons_zero] at erc0
            clear G
            have G := G14.out z28 (below_up B15.out (below_up B16.out (below_up B17.out (below_up B18.out (below_up B19.out (below_up B20.out (below_up B21.out (below_up B22.out (below_up B23.out (below_up B24.out (below_up B25.out (below_up B26.out (below_up B27.out (below_up B28.out (Below.refl _ _)))))))))))))))
            have ebcc2 := (G.2 2 (by simp)).1
            simp only [List.getElem_cons_zero, List.getElem_cons_succ] at ebcc2
            clear G
            obtain ⟨qsum0, qsum1, qsum2, qsum3⟩ := F26.out z28 (below_up B27.out (below_up B28.out (Below.refl _ _)))
            obtain ⟨qwhole0, qwhole1, qwhole2, qwhole3⟩ := F28.out z28 (Below.refl _ _)
            have oy := OY.out; have on := ON'.out
            cases ba with
            | false =>
              go_wp2_with fail
              go_meet
              exact ⟨rfl, rfl⟩
            | true =>
              cases bl with
              | false =>
                go_wp2_with fail
                go_meet
                exact ⟨rfl, rfl⟩
              | true =>
                cases g2 with
                | false =>
                  go_wp2_with fail
                  go_meet
                  exact ⟨rfl, rfl⟩
                | true =>
                  cases bn with
                  | false =>
                    go_wp2_with fail
                    go_meet
                    exact ⟨rfl, rfl⟩
                  | true =>
                    cases h2 with
                    | false =>
                      go_wp2_with fail
                      go_meet
                      exact ⟨rfl, rfl⟩
                    | true =>
                      obtain ⟨rfl, rfl⟩ := H4.out rfl rfl rfl rfl rfl
                      go_wp2_with fail
                      go_meet
                      exact ⟨rfl, rfl⟩
          case rest =>
            obtain ⟨rfl, rfl⟩ := hcut
            generalize wc = z28 at *
            have G := G10.out z28 (below_up B11.out (below_up B12.out (below_up B13.out (below_up B14.out (below_up B15.out (below_up B16.out (below_up B17.out (below_up B18.out (below_up B19.out (below_up B20.out (below_up B21.out (below_up B22.out (below_up B23.out (below_up B24.out (below_up B25.out (below_up B26.out (below_up B27.out (below_up B28.out (Below.refl _ _)))))))))))))))))))
            have ert0 := (G.1 0 (by simp)).1
            have ert1 := (G.1 1 (by simp)).1
            simp only [List.getElem_cons_zero, List.getElem_cons_succ] at ert0 ert1
            clear G
            obtain ⟨qb0, qb1, qb2, qb3⟩ := FB.out z28 (below_up B9.out (below_up B10.out (below_up B11.out (below_up B12.out (below_up B13.out (below_up B14.out (below_up B15.out (below_up B16.out (below_up B17.out (below_up B18.out (below_up B19.out (below_up B20.out (below_up B21.out (below_up B22.out (below_up B23.out (below_up B24.out (below_up B25.out (below_up B26.out (below_up B27.out (below_up B28.out (Below.refl _ _)))))))))))))))))))))
            go_wp2_with fail
            refine (V11'.out _ (HR0.out.below P28.out)).mono ?_
            rintro e z29 ⟨rfl, b29⟩
            have B29 := Lib.hid b29
            have P29 := Lib.hid (below_up P28.out b29)
            clear b29
            clear ert0 ert1 
            clear qb0 qb1 qb2 qb3
            obtain ⟨z30, hz30, b30, f30⟩ := box_one z29 XN XD
            have V30 := Lib.hid hz30; have F30 := Lib.hid f30
            clear hz30 f30
            have B30 := Lib.hid b30
            have P30 := Lib.hid (below_up P29.out b30)
            clear b30
            have G := G10.out z30 (below_up B11.out (below_up B12.out (below_up B13.out (below_up B14.out (below_up B15.out (below_up B16.out (below_up B17.out (below_up B18.out (below_up B19.out (below_up B20.out (below_up B21.out (below_up B22.out (below_up B23.out (below_up B24.out (below_up B25.out (below_up B26.out (below_up B27.out (below_up B28.out (below_up B29.out (below_up B30.out (Below.refl _ _)))))))))))))))))))))
            have ert6 := (G.1 6 (by simp)).1
            have ert7 := (G.1 7 (by simp)).1
            simp only [List.getElem_cons_zero, List.getElem_cons_succ] at ert6 ert7
            clear G
            obtain ⟨qb0, qb1, qb2, qb3⟩ := FB.out z30 (below_up B9.out (below_up B10.out (below_up B11.out (below_up B12.out (below_up B13.out (below_up B14.out (below_up B15.out (below_up B16.out (below_up B17.out (below_up B18.out (below_up B19.out (below_up B20.out (below_up B21.out (below_up B22.out (below_up B23.out (below_up B24.out (below_up B25.out (below_up B26.out (below_up B27.out (below_up B28.out (below_up B29.out (below_up B30.out (Below.refl _ _)))))))))))))))))))))))
            go_wp2_with (rw [V30.out])
            refine (V12'.out _ (HR0.out.below P30.out)).mono ?_
            rintro e z31 ⟨rfl, b31⟩
            have B31 := Lib.hid b31
            have P31 := Lib.hid (below_up P30.out b31)
            clear b31
            clear ert6 ert7 
            clear qb0 qb1 qb2 qb3
            obtain ⟨z32, hz32, b32, f32⟩ := box_one z31 ZN ZD
            have V32 := Lib.hid hz32; have F32 := Lib.hid f32
            clear hz32 f32
            have B32 := Lib.hid b32
            have P32 := Lib.hid (below_up P31.out b32)
            clear b32
            go_upto_region 28 with (rw [V32.out])
            have G := G10.out z32 (below_up B11.out (below_up B12.out (below_up B13.out (below_up B14.out (below_up B15.out (below_up B16.out (below_up B17.out (below_up B18.out (below_up B19.out (below_up B20.out (below_up B21.out (below_up B22.out (below_up B23.out (below_up B24.out (below_up B25.out (below_up B26.out (below_up B27.out (below_up B28.out (below_up B29.out (below_up B30.out (below_up B31.out (below_up B32.out (Below.refl _ _)))))))))))))))))))))))
            have erc0 := (G.2 0 (by simp)).1
            have erc3 := (G.2 3 (by simp)).1
            simp only [List.getElem_cons_zero, List.getElem_cons_succ] at erc0 erc3
            clear G
            obtain ⟨qback0, qback1, qback2, qback3⟩ := F30.out z32 (below_up B31.out (below_up B32.out (Below.refl _ _)))
            obtain ⟨qagain0, qagain1, qagain2, qagain3⟩ := F32.out z32 (Below.refl _ _)
            obtain ⟨qa0, qa1, qa2, qa3⟩ := FA.out z32 (below_up B9.out (below_up B10.out (below_up B11.out (below_up B12.out (below_up B13.out (below_up B14.out (below_up B15.out (below_up B16.out (below_up B17.out (below_up B18.out (below_up B19.out (below_up B20.out (below_up B21.out (below_up B22.out (below_up B23.out (below_up B24.out (below_up B25.out (below_up B26.out (below_up B27.out (below_up B28.out (below_up B29.out (below_up B30.out (below_up B31.out (below_up B32.out (Below.refl _ _)))))))))))))))))))))))))
            have oy := OY.out; have on := ON'.out
            cases ba with
            | false =>
              cases bd with
              | false =>
                go_wp2
                go_ret
                exact ⟨rfl, below_up HB0.out P32.out⟩
              | true =>
                cases bp with
                | false =>
                  go_wp2
                  go_ret
                  exact ⟨rfl, below_up HB0.out P32.out⟩
                | true =>
                  obtain ⟨rfl, rfl⟩ := H6.out rfl rfl
                  go_wp2
                  go_ret
                  exact ⟨rfl, below_up HB0.out P32.out⟩
            | true =>
              cases bo with
              | false =>
                cases bd with
                | false =>
                  go_wp2
                  go_ret
                  exact ⟨rfl, below_up HB0.out P32.out⟩
                | true =>
                  cases bp with
                  | false =>
                    go_wp2
                    go_ret
                    exact ⟨rfl, below_up HB0.out P32.out⟩
                  | true =>
                    obtain ⟨rfl, rfl⟩ := H6.out rfl rfl
                    go_wp2
                    go_ret
                    exact ⟨rfl, below_up HB0.out P32.out⟩
              | true =>
                obtain ⟨rfl, rfl⟩ := H5.out rfl rfl
                cases bd with
                | false =>
                  go_wp2
                  go_ret
                  exact ⟨rfl, below_up HB0.out P32.out⟩
                | true =>
                  cases bp with
                  | false =>
                    go_wp2
                    go_ret
                    exact ⟨rfl, below_up HB0.out P32.out⟩
                  | true =>
                    obtain ⟨rfl, rfl⟩ := H6.out rfl rfl
                    go_wp2
                    go_ret
                    exact ⟨rfl, below_up HB0.out P32.out⟩
end Go.Proofs.YtlcibnmcannapaaGreatDoor
