/-
  UnitField: its walk.
-/
import Derived.Test.YtcglcgphgahnpaaGreatDoorK24
import Derived.Deep.CutRange
import Derived.Deep.DeepCutAuto
import Derived.Deep.RegionHeld3
import Derived.WalkKit
import Derived.Below
import Derived.Lib.ConvBytes
import Derived.Lib.SlBytesRow
import Derived.Laws.Rows
import Derived.OwnWalk
import Derived.OwnWalkIn
import Derived.BigQuiet
import Derived.IntWalk
import Derived.RegionTactic
import Derived.Deep.RegionLaw
import Derived.Deep.RegionWith
import Derived.Deep.QuietTactic
import Derived.Shelf.Abstract
import Derived.Laws.AppendOwn
import Derived.WalkLawsBesides
import Derived.Outline
import Derived.Lib.Hide
import Derived.Laws.MakeOwn
import Derived.Stop.RegionWithIn
import Derived.RangeFuncNested
import Derived.RangeFuncBound
import Derived.RangeFuncCalls
import Derived.RangeFuncLeaves
import Derived.RangeFuncBox
import Derived.TacticsInMore
import Derived.LoopNIn
import Derived.LoopIn
import Derived.Shelf.AbstractIn
import Derived.Laws.CopyOwn
import Derived.Shelf.LaysM
import Derived.Shelf.LaysC
import Derived.Shelf.Strconv.Itoa3
import Derived.Shelf.Strconv.AtoiAll
import Derived.Shelf.Strconv.ErrVarAll
import Derived.Shelf.Strconv.AppendIntPublic10
import Derived.Lib.ItoaNum
import Derived.Lib.AtoiAll
import Derived.WalkMore
import Derived.ScopeJumps
import Derived.Laws.AppendOwnNone
import Derived.Shelf.Strconv.Clone
import Derived.Shelf.Strings.Search2
import Derived.Shelf.Strings.Repeat
import Derived.ChangeAlike
import Derived.Lib.Varint
import Derived.Lib.Strings
import Derived.RangeFuncRecord
import Derived.Maps.AppendAt
namespace Go.Proofs.YtcglcgphgahnpaaGreatDoor
open Go Go.Proofs Go.RowKit Go.Lib

/-- A quantity with the unit of another one. -/
def mixQt (q p : Qt) : Qt := ⟨q.n, q.d, p.t, p.b, p.m, p.c⟩
theorem mix_ok {q p : Qt} (hq : q.ok = true) (hp : p.ok = true) : (mixQt q p).ok = true := by
  show okU q.n q.d p.t p.b p.m p.c = true
  unfold okU
  rw [(okU_parts hp).1, (okU_parts hq).2]
  rfl

set_option maxRecDepth 100000 in
set_option maxHeartbeats 16000000 in
theorem unitField_walk (x0 x1 x2 x3 y0 y1 y2 y3 v0 v1 v2 v3 : Int) (ax0 : -9223372036854775808 ≤ x0) (cx0 : x0 ≤ 9223372036854775807) (ax1 : -9223372036854775808 ≤ x1) (cx1 : x1 ≤ 9223372036854775807) (ax2 : -9223372036854775808 ≤ x2) (cx2 : x2 ≤ 9223372036854775807) (ax3 : -9223372036854775808 ≤ x3) (cx3 : x3 ≤ 9223372036854775807) (ay0 : -9223372036854775808 ≤ y0) (cy0 : y0 ≤ 9223372036854775807) (ay1 : -9223372036854775808 ≤ y1) (cy1 : y1 ≤ 9223372036854775807) (ay2 : -9223372036854775808 ≤ y2) (cy2 : y2 ≤ 9223372036854775807) (ay3 : -9223372036854775808 ≤ y3) (cy3 : y3 ≤ 9223372036854775807) (av0 : -9223372036854775808 ≤ v0) (cv0 : v0 ≤ 9223372036854775807) (av1 : -9223372036854775808 ≤ v1) (cv1 : v1 ≤ 9223372036854775807) (av2 : -9223372036854775808 ≤ v2) (cv2 : v2 ≤ 9223372036854775807) (av3 : -9223372036854775808 ≤ v3) (cv3 : v3 ≤ 9223372036854775807) (w : World) (hR : Set5 w) : Calls Tryz.prog 5 #[.agg #[.int .i64 x0, .int .i64 x1, .int .i64 x2, .int .i64 x3], .agg #[.int .i64 y0, .int .i64 y1, .int .i64 y2, .int .i64 y3], .agg #[.int .i64 v0, .int .i64 v1, .int .i64 v2, .int .i64 v3]] w fun e w' => e = .returned (.bool true) ∧ Below w.heap.size w w' := by
  obtain ⟨W0, hW0, b0, s0, hcc⟩ := lay3 w (.int .i64 x0) [.int .i64 x1, .int .i64 x2, .int .i64 x3] 28 (.int .i64 y0) [.int .i64 y1, .int .i64 y2, .int .i64 y3] 28 (.int .i64 v0) [.int .i64 v1, .int .i64 v2, .int .i64 v3] 28
  have mx := fun W => made_any5 x0 x1 x2 x3 ax0 cx0 ax1 cx1 ax2 cx2 ax3 cx3 W
  have my := fun W => made_any5 y0 y1 y2 y3 ay0 cy0 ay1 cy1 ay2 cy2 ay3 cy3 W
  have mv := fun W => made_any5 v0 v1 v2 v3 av0 cv0 av1 cv1 av2 cv2 av3 cv3 W
  have oa := made_ok x0 x1 x2 x3; have ob := made_ok y0 y1 y2 y3; have oc0 := made_ok v0 v1 v2 v3
  generalize madeQt x0 x1 x2 x3 = a at *
  generalize madeQt y0 y1 y2 y3 = b at *
  generalize madeQt v0 v1 v2 v3 = c0 at *
  have oc := mix_ok oc0 ob
  obtain ⟨c, hc⟩ : ∃ c, mixQt c0 b = c := ⟨_, rfl⟩
  have cn : c.n = c0.n := by rw [← hc]; rfl
  have cd : c.d = c0.d := by rw [← hc]; rfl
  have ct : c.t = b.t := by rw [← hc]; rfl
  have cb : c.b = b.b := by rw [← hc]; rfl
  have cm : c.m = b.m := by rw [← hc]; rfl
  have cc : c.c = b.c := by rw [← hc]; rfl
  rw [hc] at oc
  have sa := Qt.short_ok oa; have sb := Qt.short_ok ob; have sc := Qt.short_ok oc
  have c1 := fun W h => add_u b c sb sc W h
  have c2 := fun W h => add_u c b sc sb W h
  have c3 := fun W h => mul_u a b sa sb W h
  have c4 := fun W h => mul_u b a sb sa W h
  have c5 := fun W h => mul_u a c sa sc W h
  have c6 := fun W h => mul_u a (addQt b c) sa (addQt_short b c) W h
  have c7 := fun W h => add_u (mulQt a b) (mulQt a c) (mulQt_short a b) (mulQt_short a c) W h
  have c8 := fun W h => mul_u (mulQt a b) c (mulQt_short a b) sc W h
  have c9 := fun W h => mul_u b (mulQt a c) sb (mulQt_short a c) W h
  have c10 := fun W h => sub_u (addQt b c) c (addQt_short b c) sc W h
  have c11 := fun W h => div_u (mulQt a b) b (mulQt_short a b) sb W h
  rw [addQt_comm c b, addX_comm c b] at c2
  rw [mulQt_comm b a, mulX_comm b a] at c4
  have h1 := qt_distrib (a := a) (b := b) (c := c)
  have h2 := qt_assoc (a := a) (b := b) (c := c)
  have h3 := qt_back (b := b) (c := c)
  have h4 := qt_again (a := a) (b := b)
  have h1' : addX b c = true → mulX a b = true → mulX a c = true → mulX a (addQt b c) = true → addX (mulQt a b) (mulQt a c) = true → mulQt a (addQt b c) = addQt (mulQt a b) (mulQt a c) := fun k1 k2 k3 k4 k5 => h1 k1 k2 k3 k4 k5
  have h2' : mulX a b = true → mulX a c = true → mulX (mulQt a b) c = true → mulX b (mulQt a c) = true → mulQt (mulQt a b) c = mulQt b (mulQt a c) := fun k1 k2 k3 k4 => h2 k1 k2 k3 k4
  have h3' : addX b c = true → subX (addQt b c) c = true → subQt (addQt b c) c = b := fun k1 k2 => h3 k1 k2
  have h4' : mulX a b = true → divX (mulQt a b) b = true → divQt (mulQt a b) b = a := fun k1 k2 => h4 k1 k2
  clear h1 h2 h3 h4
  generalize addX b c = X1 at *
  generalize mulX a b = X2 at *
  generalize mulX a c = X3 at *
  generalize addQt b c = r1 at *
  generalize mulQt a b = r2 at *
  generalize mulQt a c = r3 at *
  generalize mulX a r1 = X4 at *
  generalize addX r2 r3 = X5 at *
  generalize mulQt a r1 = r4 at *
  generalize addQt r2 r3 = r5 at *
  generalize mulX r2 c = X6 at *
  generalize mulX b r3 = X7 at *
  generalize mulQt r2 c = r6 at *
  generalize mulQt b r3 = r7 at *
  generalize subX r1 c = X8 at *
  generalize subQt r1 c = r8 at *
  generalize divX r2 b = X9 at *
  generalize divQt r2 b = r9 at *
  rw [cn, cd, ct, cb, cm, cc] at c1 c2 c5 c8 c10
  have HW := Lib.hid hW0; have B0 := Lib.hid b0; have HC := Lib.hid hcc; have HR := Lib.hid (hR.below b0); have LOW := Lib.hid (show w.heap.size ≤ w.heap.size from Nat.le_refl _)
  have SANE := Lib.hid (fun W h => sane_any5 W h); have Mx := Lib.hid mx; have My := Lib.hid my; have Mv := Lib.hid mv
  have C1 := Lib.hid c1
  have C2 := Lib.hid c2
  have C3 := Lib.hid c3
  have C4 := Lib.hid c4
  have C5 := Lib.hid c5
  have C6 := Lib.hid c6
  have C7 := Lib.hid c7
  have C8 := Lib.hid c8
  have C9 := Lib.hid c9
  have C10 := Lib.hid c10
  have C11 := Lib.hid c11
  have H1 := Lib.hid h1'; have H2 := Lib.hid h2'; have H3 := Lib.hid h3'; have H4 := Lib.hid h4'
  clear hW0 b0 s0 hcc hR mx my mv oa ob oc0 oc hc cn cd ct cb cm cc sa sb sc c1 c2 c3 c4 c5 c6 c7 c8 c9 c10 c11 h1' h2' h3' h4' ax0 cx0 ax1 cx1 ax2 cx2 ax3 cx3 ay0 cy0 ay1 cy1 ay2 cy2 ay3 cy3 av0 cv0 av1 cv1 av2 cv2 av3 cv3
  go_enter Tryz.func5, Tryz.ntmps5
  have P0 := Lib.hid (Below.refl W0.heap.size W0)
  have E0 := Lib.hid (fun W (b : Below W0.heap.size W0 W) => And.intro (HC.out W b).2.2 (And.intro (HC.out W b).2.1 (And.intro (HC.out W b).1 trivial)))
  go_wp2_with (rw [HW.out])
  refine (SANE.out _ (HR.out.below P0.out)).mono ?_
  rintro e z1 ⟨rfl, b1⟩
  have B1 := Lib.hid b1
  have P1 := Lib.hid (below_up P0.out b1)
  have E1 := Lib.hid (fun W (b : Below z1.heap.size z1 W) => E0.out W (below_up B1.out b))
  clear b1
  obtain ⟨⟨m0, m1, m2, m3⟩, ⟨mf0, mf1, mf2, mf3⟩⟩ := four_facts (E1.out z1 (Below.refl _ _)).2.2.1
  go_wp2_with fail
  refine (Mx.out _).mono ?_
  rintro e z2 ⟨rfl, b2⟩
  have B2 := Lib.hid b2
  have P2 := Lib.hid (below_up P1.out b2)
  have E2 := Lib.hid (fun W (b : Below z2.heap.size z2 W) => E1.out W (below_up B2.out b))
  clear b2
  clear m0 m1 m2 m3 mf0 mf1 mf2 mf3
  obtain ⟨z3, hz3, b3, sz3, f3⟩ := lay1 z2 (.string a.n) [.string a.d, .int .i64 a.t, .int .i64 a.b, .int .i64 a.m, .int .i64 a.c] 27
  have V3 := Lib.hid hz3
  clear hz3 sz3
  have B3 := Lib.hid b3
  have P3 := Lib.hid (below_up P2.out b3)
  have E3 := Lib.hid (fun W (b : Below z3.heap.size z3 W) => And.intro (f3 W b) (E2.out W (below_up B3.out b)))
  clear b3 f3
  obtain ⟨⟨m0, m1, m2, m3⟩, ⟨mf0, mf1, mf2, mf3⟩⟩ := four_facts (E3.out z3 (Below.refl _ _)).2.2.1
  go_wp2_with (rw [V3.out])
  refine (My.out _).mono ?_
  rintro e z4 ⟨rfl, b4⟩
  have B4 := Lib.hid b4
  have P4 := Lib.hid (below_up P3.out b4)
  have E4 := Lib.hid (fun W (b : Below z4.heap.size z4 W) => E3.out W (below_up B4.out b))
  clear b4
  clear m0 m1 m2 m3 mf0 mf1 mf2 mf3
  obtain ⟨z5, hz5, b5, sz5, f5⟩ := lay1 z4 (.string b.n) [.string b.d, .int .i64 b.t, .int .i64 b.b, .int .i64 b.m, .int .i64 b.c] 27
  have V5 := Lib.hid hz5
  clear hz5 sz5
  have B5 := Lib.hid b5
  have P5 := Lib.hid (below_up P4.out b5)
  have E5 := Lib.hid (fun W (b : Below z5.heap.size z5 W) => And.intro (f5 W b) (E4.out W (below_up B5.out b)))
  clear b5 f5
  obtain ⟨⟨m0, m1, m2, m3⟩, ⟨mf0, mf1, mf2, mf3⟩⟩ := four_facts (E5.out z5 (Below.refl _ _)).2.2.1
  go_wp2_with (rw [V5.out])
  refine (Mv.out _).mono ?_
  rintro e z6 ⟨rfl, b6⟩
  have B6 := Lib.hid b6
  have P6 := Lib.hid (below_up P5.out b6)
  have E6 := Lib.hid (fun W (b : Below z6.heap.size z6 W) => E5.out W (below_up B6.out b))
  clear b6
  clear m0 m1 m2 m3 mf0 mf1 mf2 mf3
  obtain ⟨z7, hz7, b7, sz7, f7⟩ := lay1 z6 (.string c0.n) [.string c0.d, .int .i64 c0.t, .int .i64 c0.b, .int .i64 c0.m, .int .i64 c0.c] 27
  have V7 := Lib.hid hz7
  clear hz7 sz7
  have B7 := Lib.hid b7
  have P7 := Lib.hid (below_up P6.out b7)
  have E7 := Lib.hid (fun W (b : Below z7.heap.size z7 W) => And.intro (f7 W b) (E6.out W (below_up B7.out b)))
  clear b7 f7
  obtain ⟨⟨qb0, qb1, qb2, qb3, qb4, qb5⟩, ⟨qbf0, qbf1, qbf2, qbf3, qbf4, qbf5⟩⟩ := six_facts (E7.out z7 (Below.refl _ _)).2.1
  obtain ⟨⟨qc0, qc1, qc2, qc3, qc4, qc5⟩, ⟨qcf0, qcf1, qcf2, qcf3, qcf4, qcf5⟩⟩ := six_facts (E7.out z7 (Below.refl _ _)).1
  go_upto_region 6 with (rw [V7.out])
  obtain ⟨z8, hz8⟩ : ∃ y, ((((z7.setCell ⟨z6.heap.size, 2, none⟩ (.int .i64 b.t)).setCell ⟨z6.heap.size, 3, none⟩ (.int .i64 b.b)).setCell ⟨z6.heap.size, 4, none⟩ (.int .i64 b.m)).setCell ⟨z6.heap.size, 5, none⟩ (.int .i64 b.c)) = y := ⟨_, rfl⟩
  have P8 := Lib.hid (show Below W0.heap.size W0 z8 by rw [← hz8]; exact (Below.setCell (p := ⟨z6.heap.size, 5, none⟩) (Below.setCell (p := ⟨z6.heap.size, 4, none⟩) (Below.setCell (p := ⟨z6.heap.size, 3, none⟩) (Below.setCell (p := ⟨z6.heap.size, 2, none⟩) P7.out (by first | exact Nat.le_refl _ | exact P6.out.size | exact LOW.out) _) (by first | exact Nat.le_refl _ | exact P6.out.size | exact LOW.out) _) (by first | exact Nat.le_refl _ | exact P6.out.size | exact LOW.out) _) (by first | exact Nat.le_refl _ | exact P6.out.size | exact LOW.out) _))
  have E8 := Lib.hid (fun W (hqq : Below z8.heap.size z8 W) => And.intro (CellsAt.below (show CellsAt z8 (z6.heap.size) [.string c0.n, .string c0.d, .int .i64 b.t, .int .i64 b.b, .int .i64 b.m, .int .i64 b.c] by rw [← hz8]; exact (CellsAt.put (CellsAt.put (CellsAt.put (CellsAt.put (E7.out z7 (Below.refl _ _)).1 2 (.int .i64 b.t)) 3 (.int .i64 b.b)) 4 (.int .i64 b.m)) 5 (.int .i64 b.c))) hqq) (And.intro (CellsAt.below (show CellsAt z8 (z4.heap.size) [.string b.n, .string b.d, .int .i64 b.t, .int .i64 b.b, .int .i64 b.m, .int .i64 b.c] by rw [← hz8]; exact (CellsAt.far (CellsAt.far (CellsAt.far (CellsAt.far (E7.out z7 (Below.refl _ _)).2.1 (Ne.symm (Nat.ne_of_lt (lt_cells ((E6.out z6 (Below.refl _ _)).1))))) (Ne.symm (Nat.ne_of_lt (lt_cells ((E6.out z6 (Below.refl _ _)).1))))) (Ne.symm (Nat.ne_of_lt (lt_cells ((E6.out z6 (Below.refl _ _)).1))))) (Ne.symm (Nat.ne_of_lt (lt_cells ((E6.out z6 (Below.refl _ _)).1)))))) hqq) (And.intro (CellsAt.below (show CellsAt z8 (z2.heap.size) [.string a.n, .string a.d, .int .i64 a.t, .int .i64 a.b, .int .i64 a.m, .int .i64 a.c] by rw [← hz8]; exact (CellsAt.far (CellsAt.far (CellsAt.far (CellsAt.far (E7.out z7 (Below.refl _ _)).2.2.1 (Ne.symm (Nat.ne_of_lt (lt_cells ((E6.out z6 (Below.refl _ _)).2.1))))) (Ne.symm (Nat.ne_of_lt (lt_cells ((E6.out z6 (Below.refl _ _)).2.1))))) (Ne.symm (Nat.ne_of_lt (lt_cells ((E6.out z6 (Below.refl _ _)).2.1))))) (Ne.symm (Nat.ne_of_lt (lt_cells ((E6.out z6 (Below.refl _ _)).2.1)))))) hqq) (And.intro (CellsAt.below (show CellsAt z8 (w.heap.size + 1 + 1) [.int .i64 v0, .int .i64 v1, .int .i64 v2, .int .i64 v3] by rw [← hz8]; exact (CellsAt.far (CellsAt.far (CellsAt.far (CellsAt.far (E7.out z7 (Below.refl _ _)).2.2.2.1 (Ne.symm (Nat.ne_of_lt (lt_cells ((E6.out z6 (Below.refl _ _)).2.2.1))))) (Ne.symm (Nat.ne_of_lt (lt_cells ((E6.out z6 (Below.refl _ _)).2.2.1))))) (Ne.symm (Nat.ne_of_lt (lt_cells ((E6.out z6 (Below.refl _ _)).2.2.1))))) (Ne.symm (Nat.ne_of_lt (lt_cells ((E6.out z6 (Below.refl _ _)).2.2.1)))))) hqq) (And.intro (CellsAt.below (show CellsAt z8 (w.heap.size + 1) [.int .i64 y0, .int .i64 y1, .int .i64 y2, .int .i64 y3] by rw [← hz8]; exact (CellsAt.far (CellsAt.far (CellsAt.far (CellsAt.far (E7.out z7 (Below.refl _ _)).2.2.2.2.1 (Ne.symm (Nat.ne_of_lt (lt_cells ((E6.out z6 (Below.refl _ _)).2.2.2.1))))) (Ne.symm (Nat.ne_of_lt (lt_cells ((E6.out z6 (Below.refl _ _)).2.2.2.1))))) (Ne.symm (Nat.ne_of_lt (lt_cells ((E6.out z6 (Below.refl _ _)).2.2.2.1))))) (Ne.symm (Nat.ne_of_lt (lt_cells ((E6.out z6 (Below.refl _ _)).2.2.2.1)))))) hqq) (And.intro (CellsAt.below (show CellsAt z8 (w.heap.size) [.int .i64 x0, .int .i64 x1, .int .i64 x2, .int .i64 x3] by rw [← hz8]; exact (CellsAt.far (CellsAt.far (CellsAt.far (CellsAt.far (E7.out z7 (Below.refl _ _)).2.2.2.2.2.1 (Ne.symm (Nat.ne_of_lt (lt_cells ((E6.out z6 (Below.refl _ _)).2.2.2.2.1))))) (Ne.symm (Nat.ne_of_lt (lt_cells ((E6.out z6 (Below.refl _ _)).2.2.2.2.1))))) (Ne.symm (Nat.ne_of_lt (lt_cells ((E6.out z6 (Below.refl _ _)).2.2.2.2.1))))) (Ne.symm (Nat.ne_of_lt (lt_cells ((E6.out z6 (Below.refl _ _)).2.2.2.2.1)))))) hqq) (trivial)))))))
  have V8 := Lib.hid hz8
  clear hz8
  clear qb0 qb1 qb2 qb3 qb4 qb5 qbf0 qbf1 qbf2 qbf3 qbf4 qbf5 qc0 qc1 qc2 qc3 qc4 qc5 qcf0 qcf1 qcf2 qcf3 qcf4 qcf5
  obtain ⟨⟨qp0, qp1, qp2, qp3, qp4, qp5⟩, ⟨qpf0, qpf1, qpf2, qpf3, qpf4, qpf5⟩⟩ := six_facts (E8.out z8 (Below.refl _ _)).2.1
  obtain ⟨⟨qq0, qq1, qq2, qq3, qq4, qq5⟩, ⟨qqf0, qqf1, qqf2, qqf3, qqf4, qqf5⟩⟩ := six_facts (E8.out z8 (Below.refl _ _)).1
  go_wp2_with (rw [V8.out])
  refine (C1.out _ ((HR.out.below P8.out)).1).mono ?_
  rintro e z9 ⟨rfl, b9⟩
  have B9 := Lib.hid b9
  have P9 := Lib.hid (below_up P8.out b9)
  have E9 := Lib.hid (fun W (b : Below z9.heap.size z9 W) => E8.out W (below_up B9.out b))
  clear b9
  clear qp0 qp1 qp2 qp3 qp4 qp5 qpf0 qpf1 qpf2 qpf3 qpf4 qpf5 qq0 qq1 qq2 qq3 qq4 qq5 qqf0 qqf1 qqf2 qqf3 qqf4 qqf5
  obtain ⟨z10, hz10, b10, sz10, f10⟩ := lay1 z9 (.string r1.n) [.string r1.d, .int .i64 r1.t, .int .i64 r1.b, .int .i64 r1.m, .int .i64 r1.c] 27
  have V10 := Lib.hid hz10
  clear hz10 sz10
  have B10 := Lib.hid b10
  have P10 := Lib.hid (below_up P9.out b10)
  have E10 := Lib.hid (fun W (b : Below z10.heap.size z10 W) => And.intro (f10 W b) (E9.out W (below_up B10.out b)))
  clear b10 f10
  obtain ⟨⟨qp0, qp1, qp2, qp3, qp4, qp5⟩, ⟨qpf0, qpf1, qpf2, qpf3, qpf4, qpf5⟩⟩ := six_facts (E10.out z10 (Below.refl _ _)).2.1
  obtain ⟨⟨qq0, qq1, qq2, qq3, qq4, qq5⟩, ⟨qqf0, qqf1, qqf2, qqf3, qqf4, qqf5⟩⟩ := six_facts (E10.out z10 (Below.refl _ _)).2.2.1
  go_wp2_with (rw [V10.out])
  refine (C2.out _ ((HR.out.below P10.out)).1).mono ?_
  rintro e z11 ⟨rfl, b11⟩
  have B11 := Lib.hid b11
  have P11 := Lib.hid (below_up P10.out b11)
  have E11 := Lib.hid (fun W (b : Below z11.heap.size z11 W) => E10.out W (below_up B11.out b))
  clear b11
  clear qp0 qp1 qp2 qp3 qp4 qp5 qpf0 qpf1 qpf2 qpf3 qpf4 qpf5 qq0 qq1 qq2 qq3 qq4 qq5 qqf0 qqf1 qqf2 qqf3 qqf4 qqf5
  obtain ⟨z12, hz12, b12, sz12, f12⟩ := lay1 z11 (.string r1.n) [.string r1.d, .int .i64 r1.t, .int .i64 r1.b, .int .i64 r1.m, .int .i64 r1.c] 27
  have V12 := Lib.hid hz12
  clear hz12 sz12
  have B12 := Lib.hid b12
  have P12 := Lib.hid (below_up P11.out b12)
  have E12 := Lib.hid (fun W (b : Below z12.heap.size z12 W) => And.intro (f12 W b) (E11.out W (below_up B12.out b)))
  clear b12 f12
  obtain ⟨⟨qp0, qp1, qp2, qp3, qp4, qp5⟩, ⟨qpf0, qpf1, qpf2, qpf3, qpf4, qpf5⟩⟩ := six_facts (E12.out z12 (Below.refl _ _)).2.2.2.2.1
  obtain ⟨⟨qq0, qq1, qq2, qq3, qq4, qq5⟩, ⟨qqf0, qqf1, qqf2, qqf3, qqf4, qqf5⟩⟩ := six_facts (E12.out z12 (Below.refl _ _)).2.2.2.1
  go_wp2_with (rw [V12.out])
  refine (C3.out _ ((HR.out.below P12.out)).1).mono ?_
  rintro e z13 ⟨rfl, b13⟩
  have B13 := Lib.hid b13
  have P13 := Lib.hid (below_up P12.out b13)
  have E13 := Lib.hid (fun W (b : Below z13.heap.size z13 W) => E12.out W (below_up B13.out b))
  clear b13
  clear qp0 qp1 qp2 qp3 qp4 qp5 qpf0 qpf1 qpf2 qpf3 qpf4 qpf5 qq0 qq1 qq2 qq3 qq4 qq5 qqf0 qqf1 qqf2 qqf3 qqf4 qqf5
  obtain ⟨z14, hz14, b14, sz14, f14⟩ := lay1 z13 (.string r2.n) [.string r2.d, .int .i64 r2.t, .int .i64 r2.b, .int .i64 r2.m, .int .i64 r2.c] 27
  have V14 := Lib.hid hz14
  clear hz14 sz14
  have B14 := Lib.hid b14
  have P14 := Lib.hid (below_up P13.out b14)
  have E14 := Lib.hid (fun W (b : Below z14.heap.size z14 W) => And.intro (f14 W b) (E13.out W (below_up B14.out b)))
  clear b14 f14
  obtain ⟨⟨qp0, qp1, qp2, qp3, qp4, qp5⟩, ⟨qpf0, qpf1, qpf2, qpf3, qpf4, qpf5⟩⟩ := six_facts (E14.out z14 (Below.refl _ _)).2.2.2.2.1
  obtain ⟨⟨qq0, qq1, qq2, qq3, qq4, qq5⟩, ⟨qqf0, qqf1, qqf2, qqf3, qqf4, qqf5⟩⟩ := six_facts (E14.out z14 (Below.refl _ _)).2.2.2.2.2.1
  go_wp2_with (rw [V14.out])
  refine (C4.out _ ((HR.out.below P14.out)).1).mono ?_
  rintro e z15 ⟨rfl, b15⟩
  have B15 := Lib.hid b15
  have P15 := Lib.hid (below_up P14.out b15)
  have E15 := Lib.hid (fun W (b : Below z15.heap.size z15 W) => E14.out W (below_up B15.out b))
  clear b15
  clear qp0 qp1 qp2 qp3 qp4 qp5 qpf0 qpf1 qpf2 qpf3 qpf4 qpf5 qq0 qq1 qq2 qq3 qq4 qq5 qqf0 qqf1 qqf2 qqf3 qqf4 qqf5
  obtain ⟨z16, hz16, b16, sz16, f16⟩ := lay1 z15 (.string r2.n) [.string r2.d, .int .i64 r2.t, .int .i64 r2.b, .int .i64 r2.m, .int .i64 r2.c] 27
  have V16 := Lib.hid hz16
  clear hz16 sz16
  have B16 := Lib.hid b16
  have P16 := Lib.hid (below_up P15.out b16)
  have E16 := Lib.hid (fun W (b : Below z16.heap.size z16 W) => And.intro (f16 W b) (E15.out W (below_up B16.out b)))
  clear b16 f16
  obtain ⟨⟨qp0, qp1, qp2, qp3, qp4, qp5⟩, ⟨qpf0, qpf1, qpf2, qpf3, qpf4, qpf5⟩⟩ := six_facts (E16.out z16 (Below.refl _ _)).2.2.2.2.2.2.1
  obtain ⟨⟨qq0, qq1, qq2, qq3, qq4, qq5⟩, ⟨qqf0, qqf1, qqf2, qqf3, qqf4, qqf5⟩⟩ := six_facts (E16.out z16 (Below.refl _ _)).2.2.2.2.1
  go_wp2_with (rw [V16.out])
  refine (C5.out _ ((HR.out.below P16.out)).1).mono ?_
  rintro e z17 ⟨rfl, b17⟩
  have B17 := Lib.hid b17
  have P17 := Lib.hid (below_up P16.out b17)
  have E17 := Lib.hid (fun W (b : Below z17.heap.size z17 W) => E16.out W (below_up B17.out b))
  clear b17
  clear qp0 qp1 qp2 qp3 qp4 qp5 qpf0 qpf1 qpf2 qpf3 qpf4 qpf5 qq0 qq1 qq2 qq3 qq4 qq5 qqf0 qqf1 qqf2 qqf3 qqf4 qqf5
  obtain ⟨z18, hz18, b18, sz18, f18⟩ := lay1 z17 (.string r3.n) [.string r3.d, .int .i64 r3.t, .int .i64 r3.b, .int .i64 r3.m, .int .i64 r3.c] 27
  have V18 := Lib.hid hz18
  clear hz18 sz18
  have B18 := Lib.hid b18
  have P18 := Lib.hid (below_up P17.out b18)
  have E18 := Lib.hid (fun W (b : Below z18.heap.size z18 W) => And.intro (f18 W b) (E17.out W (below_up B18.out b)))
  clear b18 f18
  go_upto_region 11 with (rw [V18.out])
  obtain ⟨⟨q10, q11, q12, q13, q14, q15⟩, ⟨q1f0, q1f1, q1f2, q1f3, q1f4, q1f5⟩⟩ := six_facts (E18.out z18 (Below.refl _ _)).2.2.2.2.1
  obtain ⟨⟨q20, q21, q22, q23, q24, q25⟩, ⟨q2f0, q2f1, q2f2, q2f3, q2f4, q2f5⟩⟩ := six_facts (E18.out z18 (Below.refl _ _)).2.2.2.1
  obtain ⟨⟨q30, q31, q32, q33, q34, q35⟩, ⟨q3f0, q3f1, q3f2, q3f3, q3f4, q3f5⟩⟩ := six_facts (E18.out z18 (Below.refl _ _)).2.2.1
  obtain ⟨⟨q40, q41, q42, q43, q44, q45⟩, ⟨q4f0, q4f1, q4f2, q4f3, q4f4, q4f5⟩⟩ := six_facts (E18.out z18 (Below.refl _ _)).2.1
  go_upto_region 13 with fail
  clear q10 q11 q12 q13 q14 q15 q1f0 q1f1 q1f2 q1f3 q1f4 q1f5 q20 q21 q22 q23 q24 q25 q2f0 q2f1 q2f2 q2f3 q2f4 q2f5 q30 q31 q32 q33 q34 q35 q3f0 q3f1 q3f2 q3f3 q3f4 q3f5 q40 q41 q42 q43 q44 q45 q4f0 q4f1 q4f2 q4f3 q4f4 q4f5
  obtain ⟨⟨qp0, qp1, qp2, qp3, qp4, qp5⟩, ⟨qpf0, qpf1, qpf2, qpf3, qpf4, qpf5⟩⟩ := six_facts (E18.out z18 (Below.refl _ _)).2.2.2.2.2.2.2.1
  obtain ⟨⟨qq0, qq1, qq2, qq3, qq4, qq5⟩, ⟨qqf0, qqf1, qqf2, qqf3, qqf4, qqf5⟩⟩ := six_facts (E18.out z18 (Below.refl _ _)).2.2.2.2.1
  go_wp2_with fail
  refine (C6.out _ ((HR.out.below P18.out)).1).mono ?_
  rintro e z19 ⟨rfl, b19⟩
  have B19 := Lib.hid b19
  have P19 := Lib.hid (below_up P18.out b19)
  have E19 := Lib.hid (fun W (b : Below z19.heap.size z19 W) => E18.out W (below_up B19.out b))
  clear b19
  clear qp0 qp1 qp2 qp3 qp4 qp5 qpf0 qpf1 qpf2 qpf3 qpf4 qpf5 qq0 qq1 qq2 qq3 qq4 qq5 qqf0 qqf1 qqf2 qqf3 qqf4 qqf5
  obtain ⟨z20, hz20, b20, sz20, f20⟩ := lay1 z19 (.string r4.n) [.string r4.d, .int .i64 r4.t, .int .i64 r4.b, .int .i64 r4.m, .int .i64 r4.c] 27
  have V20 := Lib.hid hz20
  clear hz20 sz20
  have B20 := Lib.hid b20
  have P20 := Lib.hid (below_up P19.out b20)
  have E20 := Lib.hid (fun W (b : Below z20.heap.size z20 W) => And.intro (f20 W b) (E19.out W (below_up B20.out b)))
  clear b20 f20
  obtain ⟨⟨qp0, qp1, qp2, qp3, qp4, qp5⟩, ⟨qpf0, qpf1, qpf2, qpf3, qpf4, qpf5⟩⟩ := six_facts (E20.out z20 (Below.refl _ _)).2.2.2.1
  obtain ⟨⟨qq0, qq1, qq2, qq3, qq4, qq5⟩, ⟨qqf0, qqf1, qqf2, qqf3, qqf4, qqf5⟩⟩ := six_facts (E20.out z20 (Below.refl _ _)).2.1
  go_wp2_with (rw [V20.out])
  refine (C7.out _ ((HR.out.below P20.out)).1).mono ?_
  rintro e z21 ⟨rfl, b21⟩
  have B21 := Lib.hid b21
  have P21 := Lib.hid (below_up P20.out b21)
  have E21 := Lib.hid (fun W (b : Below z21.heap.size z21 W) => E20.out W (below_up B21.out b))
  clear b21
  clear qp0 qp1 qp2 qp3 qp4 qp5 qpf0 qpf1 qpf2 qpf3 qpf4 qpf5 qq0 qq1 qq2 qq3 qq4 qq5 qqf0 qqf1 qqf2 qqf3 qqf4 qqf5
  obtain ⟨z22, hz22, b22, sz22, f22⟩ := lay1 z21 (.string r5.n) [.string r5.d, .int .i64 r5.t, .int .i64 r5.b, .int .i64 r5.m, .int .i64 r5.c] 27
  have V22 := Lib.hid hz22
  clear hz22 sz22
  have B22 := Lib.hid b22
  have P22 := Lib.hid (below_up P21.out b22)
  have E22 := Lib.hid (fun W (b : Below z22.heap.size z22 W) => And.intro (f22 W b) (E21.out W (below_up B22.out b)))
  clear b22 f22
  go_upto_region 15 with (rw [V22.out])
  go_cut [125] from 103 to 125 (fun sv wx => sv = .bool false ∧ wx = z22)
  case first =>
    obtain ⟨⟨q10, q11, q12, q13, q14, q15⟩, ⟨q1f0, q1f1, q1f2, q1f3, q1f4, q1f5⟩⟩ := six_facts (E22.out z22 (Below.refl _ _)).2.1
    obtain ⟨⟨q20, q21, q22, q23, q24, q25⟩, ⟨q2f0, q2f1, q2f2, q2f3, q2f4, q2f5⟩⟩ := six_facts (E22.out z22 (Below.refl _ _)).1
    have oy := eU_true; have on := eU_false
    cases X1 with
    | false =>
      go_wp2_with fail
      go_meet
      exact ⟨rfl, rfl⟩
    | true =>
      cases X2 with
      | false =>
        go_wp2_with fail
        go_meet
        exact ⟨rfl, rfl⟩
      | true =>
        cases X3 with
        | false =>
          go_wp2_with fail
          go_meet
          exact ⟨rfl, rfl⟩
        | true =>
          cases X4 with
          | false =>
            go_wp2_with fail
            go_meet
            exact ⟨rfl, rfl⟩
          | true =>
            cases X5 with
            | false =>
              go_wp2_with fail
              go_meet
              exact ⟨rfl, rfl⟩
            | true =>
              obtain rfl := H1.out rfl rfl rfl rfl rfl
              go_wp2_with fail
              go_meet
              exact ⟨rfl, rfl⟩
  case rest =>
    obtain ⟨rfl, rfl⟩ := hcut
    generalize wc = z22 at *
    obtain ⟨⟨qp0, qp1, qp2, qp3, qp4, qp5⟩, ⟨qpf0, qpf1, qpf2, qpf3, qpf4, qpf5⟩⟩ := six_facts (E22.out z22 (Below.refl _ _)).2.2.2.2.1
    obtain ⟨⟨qq0, qq1, qq2, qq3, qq4, qq5⟩, ⟨qqf0, qqf1, qqf2, qqf3, qqf4, qqf5⟩⟩ := six_facts (E22.out z22 (Below.refl _ _)).2.2.2.2.2.2.2.1
    go_wp2_with fail
    refine (C8.out _ ((HR.out.below P22.out)).1).mono ?_
    rintro e z23 ⟨rfl, b23⟩
    have B23 := Lib.hid b23
    have P23 := Lib.hid (below_up P22.out b23)
    have E23 := Lib.hid (fun W (b : Below z23.heap.size z23 W) => E22.out W (below_up B23.out b))
    clear b23
    clear qp0 qp1 qp2 qp3 qp4 qp5 qpf0 qpf1 qpf2 qpf3 qpf4 qpf5 qq0 qq1 qq2 qq3 qq4 qq5 qqf0 qqf1 qqf2 qqf3 qqf4 qqf5
    obtain ⟨z24, hz24, b24, sz24, f24⟩ := lay1 z23 (.string r6.n) [.string r6.d, .int .i64 r6.t, .int .i64 r6.b, .int .i64 r6.m, .int .i64 r6.c] 27
    have V24 := Lib.hid hz24
    clear hz24 sz24
    have B24 := Lib.hid b24
    have P24 := Lib.hid (below_up P23.out b24)
    have E24 := Lib.hid (fun W (b : Below z24.heap.size z24 W) => And.intro (f24 W b) (E23.out W (below_up B24.out b)))
    clear b24 f24
    obtain ⟨⟨qp0, qp1, qp2, qp3, qp4, qp5⟩, ⟨qpf0, qpf1, qpf2, qpf3, qpf4, qpf5⟩⟩ := six_facts (E24.out z24 (Below.refl _ _)).2.2.2.2.2.2.2.2.2.1
    obtain ⟨⟨qq0, qq1, qq2, qq3, qq4, qq5⟩, ⟨qqf0, qqf1, qqf2, qqf3, qqf4, qqf5⟩⟩ := six_facts (E24.out z24 (Below.refl _ _)).2.2.2.1
    go_wp2_with (rw [V24.out])
    refine (C9.out _ ((HR.out.below P24.out)).1).mono ?_
    rintro e z25 ⟨rfl, b25⟩
    have B25 := Lib.hid b25
    have P25 := Lib.hid (below_up P24.out b25)
    have E25 := Lib.hid (fun W (b : Below z25.heap.size z25 W) => E24.out W (below_up B25.out b))
    clear b25
    clear qp0 qp1 qp2 qp3 qp4 qp5 qpf0 qpf1 qpf2 qpf3 qpf4 qpf5 qq0 qq1 qq2 qq3 qq4 qq5 qqf0 qqf1 qqf2 qqf3 qqf4 qqf5
    obtain ⟨z26, hz26, b26, sz26, f26⟩ := lay1 z25 (.string r7.n) [.string r7.d, .int .i64 r7.t, .int .i64 r7.b, .int .i64 r7.m, .int .i64 r7.c] 27
    have V26 := Lib.hid hz26
    clear hz26 sz26
    have B26 := Lib.hid b26
    have P26 := Lib.hid (below_up P25.out b26)
    have E26 := Lib.hid (fun W (b : Below z26.heap.size z26 W) => And.intro (f26 W b) (E25.out W (below_up B26.out b)))
    clear b26 f26
    go_upto_region 19 with (rw [V26.out])
    go_cut [156] from 138 to 156 (fun sv wx => sv = .bool false ∧ wx = z26)
    case first =>
      obtain ⟨⟨q10, q11, q12, q13, q14, q15⟩, ⟨q1f0, q1f1, q1f2, q1f3, q1f4, q1f5⟩⟩ := six_facts (E26.out z26 (Below.refl _ _)).2.1
      obtain ⟨⟨q20, q21, q22, q23, q24, q25⟩, ⟨q2f0, q2f1, q2f2, q2f3, q2f4, q2f5⟩⟩ := six_facts (E26.out z26 (Below.refl _ _)).1
      have oy := eU_true; have on := eU_false
      cases X2 with
      | false =>
        go_wp2_with fail
        go_meet
        exact ⟨rfl, rfl⟩
      | true =>
        cases X3 with
        | false =>
          go_wp2_with fail
          go_meet
          exact ⟨rfl, rfl⟩
        | true =>
          cases X6 with
          | false =>
            go_wp2_with fail
            go_meet
            exact ⟨rfl, rfl⟩
          | true =>
            cases X7 with
            | false =>
              go_wp2_with fail
              go_meet
              exact ⟨rfl, rfl⟩
            | true =>
              obtain rfl := H2.out rfl rfl rfl rfl
              go_wp2_with fail
              go_meet
              exact ⟨rfl, rfl⟩
    case rest =>
      obtain ⟨rfl, rfl⟩ := hcut
      generalize wc = z26 at *
      obtain ⟨⟨qp0, qp1, qp2, qp3, qp4, qp5⟩, ⟨qpf0, qpf1, qpf2, qpf3, qpf4, qpf5⟩⟩ := six_facts (E26.out z26 (Below.refl _ _)).2.2.2.2.2.2.2.2.1
      obtain ⟨⟨qq0, qq1, qq2, qq3, qq4, qq5⟩, ⟨qqf0, qqf1, qqf2, qqf3, qqf4, qqf5⟩⟩ := six_facts (E26.out z26 (Below.refl _ _)).2.2.2.2.2.2.2.2.2.1
      go_wp2_with fail
      refine (C10.out _ ((HR.out.below P26.out)).1).mono ?_
      rintro e z27 ⟨rfl, b27⟩
      have B27 := Lib.hid b27
      have P27 := Lib.hid (below_up P26.out b27)
      have E27 := Lib.hid (fun W (b : Below z27.heap.size z27 W) => E26.out W (below_up B27.out b))
      clear b27
      clear qp0 qp1 qp2 qp3 qp4 qp5 qpf0 qpf1 qpf2 qpf3 qpf4 qpf5 qq0 qq1 qq2 qq3 qq4 qq5 qqf0 qqf1 qqf2 qqf3 qqf4 qqf5
      obtain ⟨z28, hz28, b28, sz28, f28⟩ := lay1 z27 (.string r8.n) [.string r8.d, .int .i64 r8.t, .int .i64 r8.b, .int .i64 r8.m, .int .i64 r8.c] 27
      have V28 := Lib.hid hz28
      clear hz28 sz28
      have B28 := Lib.hid b28
      have P28 := Lib.hid (below_up P27.out b28)
      have E28 := Lib.hid (fun W (b : Below z28.heap.size z28 W) => And.intro (f28 W b) (E27.out W (below_up B28.out b)))
      clear b28 f28
      obtain ⟨⟨qp0, qp1, qp2, qp3, qp4, qp5⟩, ⟨qpf0, qpf1, qpf2, qpf3, qpf4, qpf5⟩⟩ := six_facts (E28.out z28 (Below.refl _ _)).2.2.2.2.2.2.2.1
      obtain ⟨⟨qq0, qq1, qq2, qq3, qq4, qq5⟩, ⟨qqf0, qqf1, qqf2, qqf3, qqf4, qqf5⟩⟩ := six_facts (E28.out z28 (Below.refl _ _)).2.2.2.2.2.2.2.2.2.2.2.1
      go_wp2_with (rw [V28.out])
      refine (C11.out _ ((HR.out.below P28.out)).1).mono ?_
      rintro e z29 ⟨rfl, b29⟩
      have B29 := Lib.hid b29
      have P29 := Lib.hid (below_up P28.out b29)
      have E29 := Lib.hid (fun W (b : Below z29.heap.size z29 W) => E28.out W (below_up B29.out b))
      clear b29
      clear qp0 qp1 qp2 qp3 qp4 qp5 qpf0 qpf1 qpf2 qpf3 qpf4 qpf5 qq0 qq1 qq2 qq3 qq4 qq5 qqf0 qqf1 qqf2 qqf3 qqf4 qqf5
      obtain ⟨z30, hz30, b30, sz30, f30⟩ := lay1 z29 (.string r9.n) [.string r9.d, .int .i64 r9.t, .int .i64 r9.b, .int .i64 r9.m, .int .i64 r9.c] 27
      have V30 := Lib.hid hz30
      clear hz30 sz30
      have B30 := Lib.hid b30
      have P30 := Lib.hid (below_up P29.out b30)
      have E30 := Lib.hid (fun W (b : Below z30.heap.size z30 W) => And.intro (f30 W b) (E29.out W (below_up B30.out b)))
      clear b30 f30
      go_upto_region 23 with (rw [V30.out])
      have PE := Lib.hid (below_up B0.out P30.out)
      have oy := eU_true; have on := eU_false
      obtain ⟨⟨q10, q11, q12, q13, q14, q15⟩, ⟨q1f0, q1f1, q1f2, q1f3, q1f4, q1f5⟩⟩ := six_facts (E30.out z30 (Below.refl _ _)).2.1
      obtain ⟨⟨q20, q21, q22, q23, q24, q25⟩, ⟨q2f0, q2f1, q2f2, q2f3, q2f4, q2f5⟩⟩ := six_facts (E30.out z30 (Below.refl _ _)).2.2.2.2.2.2.2.2.2.2.2.2.1
      obtain ⟨⟨q30, q31, q32, q33, q34, q35⟩, ⟨q3f0, q3f1, q3f2, q3f3, q3f4, q3f5⟩⟩ := six_facts (E30.out z30 (Below.refl _ _)).1
      obtain ⟨⟨q40, q41, q42, q43, q44, q45⟩, ⟨q4f0, q4f1, q4f2, q4f3, q4f4, q4f5⟩⟩ := six_facts (E30.out z30 (Below.refl _ _)).2.2.2.2.2.2.2.2.2.2.2.2.2.1
      cases X1 with
      | false =>
        cases X2 with
        | false =>
          go_wp2
          go_ret
          exact ⟨rfl, PE.out⟩
        | true =>
          cases X9 with
          | false =>
            go_wp2
            go_ret
            exact ⟨rfl, PE.out⟩
          | true =>
            obtain rfl := H4.out rfl rfl
            go_wp2
            go_ret
            exact ⟨rfl, PE.out⟩
      | true =>
        cases X8 with
        | false =>
          cases X2 with
          | false =>
            go_wp2
            go_ret
            exact ⟨rfl, PE.out⟩
          | true =>
            cases X9 with
            | false =>
              go_wp2
              go_ret
              exact ⟨rfl, PE.out⟩
            | true =>
              obtain rfl := H4.out rfl rfl
              go_wp2
              go_ret
              exact ⟨rfl, PE.out⟩
        | true =>
          obtain rfl := H3.out rfl rfl
          cases X2 with
          | false =>
            go_wp2
            go_ret
            exact ⟨rfl, PE.out⟩
          | true =>
            cases X9 with
            | false =>
              go_wp2
              go_ret
              exact ⟨rfl, PE.out⟩
            | true =>
              obtain rfl := H4.out rfl rfl
              go_wp2
              go_ret
              exact ⟨rfl, PE.out⟩
end Go.Proofs.YtcglcgphgahnpaaGreatDoor
