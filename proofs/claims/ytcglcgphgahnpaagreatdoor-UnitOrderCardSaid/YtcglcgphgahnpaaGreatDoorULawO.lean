/-
  UnitOrder: its walk.
-/
import Derived.Test.YtcglcgphgahnpaaGreatDoorK24
import Derived.Deep.CutRange
import Derived.Deep.DeepCutAuto
import Derived.Deep.RegionHeld3
import Derived.WalkKit
import Derived.Below
import Derived.Lib.ConvBytes
import Derived.Lib.SlBytesRow
import Derived.Laws.Rows
import Derived.OwnWalk
import Derived.OwnWalkIn
import Derived.BigQuiet
import Derived.IntWalk
import Derived.RegionTactic
import Derived.Deep.RegionLaw
import Derived.Deep.RegionWith
import Derived.Deep.QuietTactic
import Derived.Shelf.Abstract
import Derived.Laws.AppendOwn
import Derived.WalkLawsBesides
import Derived.Outline
import Derived.Lib.Hide
import Derived.Laws.MakeOwn
import Derived.Stop.RegionWithIn
import Derived.RangeFuncNested
import Derived.RangeFuncBound
import Derived.RangeFuncCalls
import Derived.RangeFuncLeaves
import Derived.RangeFuncBox
import Derived.TacticsInMore
import Derived.LoopNIn
import Derived.LoopIn
import Derived.Shelf.AbstractIn
import Derived.Laws.CopyOwn
import Derived.Shelf.LaysM
import Derived.Shelf.LaysC
import Derived.Shelf.Strconv.Itoa3
import Derived.Shelf.Strconv.AtoiAll
import Derived.Shelf.Strconv.ErrVarAll
import Derived.Shelf.Strconv.AppendIntPublic10
import Derived.Lib.ItoaNum
import Derived.Lib.AtoiAll
import Derived.WalkMore
import Derived.ScopeJumps
import Derived.Laws.AppendOwnNone
import Derived.Shelf.Strconv.Clone
import Derived.Shelf.Strings.Search2
import Derived.Shelf.Strings.Repeat
import Derived.ChangeAlike
import Derived.Lib.Varint
import Derived.Lib.Strings
import Derived.RangeFuncRecord
import Derived.Maps.AppendAt
import Derived.Laws.StructEq
namespace Go.Proofs.YtcglcgphgahnpaaGreatDoor
open Go Go.Proofs Go.RowKit Go.Lib

set_option maxRecDepth 100000 in
set_option maxHeartbeats 16000000 in
theorem unitOrder_walk (x0 x1 x2 x3 y0 y1 y2 y3 v0 v1 v2 v3 : Int) (ax0 : -9223372036854775808 ≤ x0) (cx0 : x0 ≤ 9223372036854775807) (ax1 : -9223372036854775808 ≤ x1) (cx1 : x1 ≤ 9223372036854775807) (ax2 : -9223372036854775808 ≤ x2) (cx2 : x2 ≤ 9223372036854775807) (ax3 : -9223372036854775808 ≤ x3) (cx3 : x3 ≤ 9223372036854775807) (ay0 : -9223372036854775808 ≤ y0) (cy0 : y0 ≤ 9223372036854775807) (ay1 : -9223372036854775808 ≤ y1) (cy1 : y1 ≤ 9223372036854775807) (ay2 : -9223372036854775808 ≤ y2) (cy2 : y2 ≤ 9223372036854775807) (ay3 : -9223372036854775808 ≤ y3) (cy3 : y3 ≤ 9223372036854775807) (av0 : -9223372036854775808 ≤ v0) (cv0 : v0 ≤ 9223372036854775807) (av1 : -9223372036854775808 ≤ v1) (cv1 : v1 ≤ 9223372036854775807) (av2 : -9223372036854775808 ≤ v2) (cv2 : v2 ≤ 9223372036854775807) (av3 : -9223372036854775808 ≤ v3) (cv3 : v3 ≤ 9223372036854775807) (w : World) (hR : Set5 w) : Calls Tryz.prog 7 #[.agg #[.int .i64 x0, .int .i64 x1, .int .i64 x2, .int .i64 x3], .agg #[.int .i64 y0, .int .i64 y1, .int .i64 y2, .int .i64 y3], .agg #[.int .i64 v0, .int .i64 v1, .int .i64 v2, .int .i64 v3]] w fun e w' => e = .returned (.bool true) ∧ Below w.heap.size w w' := by
  obtain ⟨W0, hW0, b0', s0, hcc⟩ := lay3 w (.int .i64 x0) [.int .i64 x1, .int .i64 x2, .int .i64 x3] 28 (.int .i64 y0) [.int .i64 y1, .int .i64 y2, .int .i64 y3] 28 (.int .i64 v0) [.int .i64 v1, .int .i64 v2, .int .i64 v3] 28
  have mx := fun W => made_any5 x0 x1 x2 x3 ax0 cx0 ax1 cx1 ax2 cx2 ax3 cx3 W
  have my := fun W => made_any5 y0 y1 y2 y3 ay0 cy0 ay1 cy1 ay2 cy2 ay3 cy3 W
  have mv := fun W => made_any5 v0 v1 v2 v3 av0 cv0 av1 cv1 av2 cv2 av3 cv3 W
  have oa := made_ok x0 x1 x2 x3; have ob0 := made_ok y0 y1 y2 y3; have oc0 := made_ok v0 v1 v2 v3
  generalize madeQt x0 x1 x2 x3 = a at *
  generalize madeQt y0 y1 y2 y3 = b0 at *
  generalize madeQt v0 v1 v2 v3 = c0 at *
  have ob := mix_ok5 ob0 oa; have oc := mix_ok5 oc0 oa
  obtain ⟨b, hb⟩ : ∃ b, mixQt5 b0 a = b := ⟨_, rfl⟩
  obtain ⟨c, hc⟩ : ∃ c, mixQt5 c0 a = c := ⟨_, rfl⟩
  have bn : b.n = b0.n := by rw [← hb]; rfl
  have bd : b.d = b0.d := by rw [← hb]; rfl
  have bt : b.t = a.t := by rw [← hb]; rfl
  have bb : b.b = a.b := by rw [← hb]; rfl
  have bm : b.m = a.m := by rw [← hb]; rfl
  have bc' : b.c = a.c := by rw [← hb]; rfl
  have cn : c.n = c0.n := by rw [← hc]; rfl
  have cd : c.d = c0.d := by rw [← hc]; rfl
  have ct : c.t = a.t := by rw [← hc]; rfl
  have cb : c.b = a.b := by rw [← hc]; rfl
  have cm : c.m = a.m := by rw [← hc]; rfl
  have cc : c.c = a.c := by rw [← hc]; rfl
  rw [hb] at ob
  rw [hc] at oc
  have sa := Qt.short_ok oa; have sb := Qt.short_ok ob; have sc := Qt.short_ok oc
  have ab' : sameB a b = true := sameB_iff.2 ⟨bt.symm, bb.symm, bm.symm, bc'.symm⟩
  have ac' : sameB a c = true := sameB_iff.2 ⟨ct.symm, cb.symm, cm.symm, cc.symm⟩
  have bc2 : sameB b c = true := sameB_iff.2 ⟨bt.trans ct.symm, bb.trans cb.symm, bm.trans cm.symm, bc'.trans cc.symm⟩
  have c1 := fun W h => cmp_u a b sa sb W h
  have c2 := fun W h => cmp_u b a sb sa W h
  have c3 := fun W h => cmp_u b c sb sc W h
  have c4 := fun W h => cmp_u a c sa sc W h
  rw [cmpX_of oa ob ab'] at c1
  rw [cmpX_of ob oa (by rw [sameB_comm]; exact ab'), cmpV_swap oa ob ab'] at c2
  rw [cmpX_of ob oc bc2] at c3
  rw [cmpX_of oa oc ac'] at c4
  have hz : cmpV a b = 0 ↔ (a.n = b.n ∧ a.d = b.d) := (cmpV_zero oa ob ab').trans ⟨fun e => by rw [e]; exact ⟨rfl, rfl⟩, fun e => Qt.ext' e.1 e.2 bt.symm bb.symm bm.symm bc'.symm⟩
  have ht := fun k1 k2 => cmpV_trans oa ob oc ab' bc2 ac' k1 k2
  have hr : (cmpV a b = -1 ∧ (∀ W : World, (Op.equalIn 10000 27 (.agg #[.string a.n, .string a.d, .int .i64 a.t, .int .i64 a.b, .int .i64 a.m, .int .i64 a.c]) (.agg #[.string b0.n, .string b0.d, .int .i64 a.t, .int .i64 a.b, .int .i64 a.m, .int .i64 a.c])).run Tryz.prog W = .ok false W)) ∨ (cmpV a b = 0 ∧ (∀ W : World, (Op.equalIn 10000 27 (.agg #[.string a.n, .string a.d, .int .i64 a.t, .int .i64 a.b, .int .i64 a.m, .int .i64 a.c]) (.agg #[.string b0.n, .string b0.d, .int .i64 a.t, .int .i64 a.b, .int .i64 a.m, .int .i64 a.c])).run Tryz.prog W = .ok true W)) ∨ (cmpV a b = 1 ∧ (∀ W : World, (Op.equalIn 10000 27 (.agg #[.string a.n, .string a.d, .int .i64 a.t, .int .i64 a.b, .int .i64 a.m, .int .i64 a.c]) (.agg #[.string b0.n, .string b0.d, .int .i64 a.t, .int .i64 a.b, .int .i64 a.m, .int .i64 a.c])).run Tryz.prog W = .ok false W)) := by
    have hrr := cmpV_range a b
    by_cases hq : cmpV a b = 0
    · obtain ⟨k1, k2⟩ := hz.1 hq
      exact .inr (.inl ⟨hq, fun W => by rw [eq_qty6, decide_eq_true ⟨k1.trans bn, k2.trans bd, rfl, rfl, rfl, rfl⟩]⟩)
    · have hF : (∀ W : World, (Op.equalIn 10000 27 (.agg #[.string a.n, .string a.d, .int .i64 a.t, .int .i64 a.b, .int .i64 a.m, .int .i64 a.c]) (.agg #[.string b0.n, .string b0.d, .int .i64 a.t, .int .i64 a.b, .int .i64 a.m, .int .i64 a.c])).run Tryz.prog W = .ok false W) := fun W => by rw [eq_qty6, decide_eq_false (fun k => hq (hz.2 ⟨k.1.trans bn.symm, k.2.1.trans bd.symm⟩))]
      rcases (show cmpV a b = -1 ∨ cmpV a b = 1 by omega) with k | k
      · exact .inl ⟨k, hF⟩
      · exact .inr (.inr ⟨k, hF⟩)
  have c5 := fun W h => add_u a c sa sc W h
  have c6 := fun W h => add_u b c sb sc W h
  have c7 := fun W h => cmp_u (addQt a c) (addQt b c) (addQt_short a c) (addQt_short b c) W h
  have c8 := fun W h => sub_u a b sa sb W h
  have sd := subQt_short a b
  have c9 := fun W h => cmp_q (subQt a b).n (subQt a b).d ⟨#[48]⟩ ⟨#[49]⟩ (Nat.le_trans sd.1 (by decide)) (Nat.le_trans sd.2 (by decide)) (by decide) (by decide) W h
  have h1 : addX a c = true → addX b c = true → cmpX (addQt a c) (addQt b c) = true ∧ cmpV (addQt a c) (addQt b c) = cmpV a b := fun k1 k2 => cmp_sum k1 k2 ab'
  have h2 : subX a b = true → cmpQ (subQt a b).n (subQt a b).d ⟨#[48]⟩ ⟨#[49]⟩ = cmpV a b := fun k => cmp_dif k
  clear sd
  generalize cmpQ (subQt a b).n (subQt a b).d ⟨#[48]⟩ ⟨#[49]⟩ = sg at *
  generalize cmpV (addQt a c) (addQt b c) = pq at *
  generalize cmpX (addQt a c) (addQt b c) = XC at *
  generalize cmpV a b = ab at *
  generalize cmpV b c = bc at *
  generalize cmpV a c = ac at *
  generalize addX a c = X1 at *
  generalize addX b c = X2 at *
  generalize subX a b = X3 at *
  generalize addQt a c = r1 at *
  generalize addQt b c = r2 at *
  generalize subQt a b = r3 at *
  clear hz
  rw [bn, bd, bt, bb, bm, bc'] at c1 c2 c8
  rw [cn, cd, ct, cb, cm, cc] at c4 c5
  rw [bn, bd, bt, bb, bm, bc', cn, cd, ct, cb, cm, cc] at c3 c6
  have HW := Lib.hid hW0; have B0 := Lib.hid b0'; have HC := Lib.hid hcc; have HR := Lib.hid (hR.below b0'); have LOW := Lib.hid (show w.heap.size ≤ w.heap.size from Nat.le_refl _)
  have SANE := Lib.hid (fun W h => sane_any5 W h); have Mx := Lib.hid mx; have My := Lib.hid my; have Mv := Lib.hid mv
  have C1 := Lib.hid c1
  have C2 := Lib.hid c2
  have C3 := Lib.hid c3
  have C4 := Lib.hid c4
  have C5 := Lib.hid c5
  have C6 := Lib.hid c6
  have C7 := Lib.hid c7
  have C8 := Lib.hid c8
  have C9 := Lib.hid c9
  have H1 := Lib.hid h1; have H2 := Lib.hid h2; have HT := Lib.hid ht; have HAB := Lib.hid hr
  clear hW0 b0' s0 hcc hR mx my mv oa ob ob0 oc oc0 hb hc bn bd bt bb bm bc' cn cd ct cb cm cc sa sb sc ab' ac' bc2 c1 c2 c3 c4 c5 c6 c7 c8 c9 h1 h2 ht hr ax0 cx0 ax1 cx1 ax2 cx2 ax3 cx3 ay0 cy0 ay1 cy1 ay2 cy2 ay3 cy3 av0 cv0 av1 cv1 av2 cv2 av3 cv3
  go_enter Tryz.func7, Tryz.ntmps7
  have P0 := Lib.hid (Below.refl W0.heap.size W0)
  have E0 := Lib.hid (fun W (b : Below W0.heap.size W0 W) => And.intro (HC.out W b).2.2 (And.intro (HC.out W b).2.1 (And.intro (HC.out W b).1 trivial)))
  go_wp2_with (rw [HW.out])
  refine (SANE.out _ (HR.out.below P0.out)).mono ?_
  rintro e z1 ⟨rfl, b1⟩
  have B1 := Lib.hid b1
  have P1 := Lib.hid (below_up P0.out b1)
  have E1 := Lib.hid (fun W (b : Below z1.heap.size z1 W) => E0.out W (below_up B1.out b))
  clear b1
  obtain ⟨⟨m0, m1, m2, m3⟩, ⟨mf0, mf1, mf2, mf3⟩⟩ := four_facts (E1.out z1 (Below.refl _ _)).2.2.1
  go_wp2_with fail
  refine (Mx.out _).mono ?_
  rintro e z2 ⟨rfl, b2⟩
  have B2 := Lib.hid b2
  have P2 := Lib.hid (below_up P1.out b2)
  have E2 := Lib.hid (fun W (b : Below z2.heap.size z2 W) => E1.out W (below_up B2.out b))
  clear b2
  clear m0 m1 m2 m3 mf0 mf1 mf2 mf3
  obtain ⟨z3, hz3, b3, sz3, f3⟩ := lay1 z2 (.string a.n) [.string a.d, .int .i64 a.t, .int .i64 a.b, .int .i64 a.m, .int .i64 a.c] 27
  have V3 := Lib.hid hz3
  clear hz3 sz3
  have B3 := Lib.hid b3
  have P3 := Lib.hid (below_up P2.out b3)
  have E3 := Lib.hid (fun W (b : Below z3.heap.size z3 W) => And.intro (f3 W b) (E2.out W (below_up B3.out b)))
  clear b3 f3
  obtain ⟨⟨m0, m1, m2, m3⟩, ⟨mf0, mf1, mf2, mf3⟩⟩ := four_facts (E3.out z3 (Below.refl _ _)).2.2.1
  go_wp2_with (rw [V3.out])
  refine (My.out _).mono ?_
  rintro e z4 ⟨rfl, b4⟩
  have B4 := Lib.hid b4
  have P4 := Lib.hid (below_up P3.out b4)
  have E4 := Lib.hid (fun W (b : Below z4.heap.size z4 W) => E3.out W (below_up B4.out b))
  clear b4
  clear m0 m1 m2 m3 mf0 mf1 mf2 mf3
  obtain ⟨z5, hz5, b5, sz5, f5⟩ := lay1 z4 (.string b0.n) [.string b0.d, .int .i64 b0.t, .int .i64 b0.b, .int .i64 b0.m, .int .i64 b0.c] 27
  have V5 := Lib.hid hz5
  clear hz5 sz5
  have B5 := Lib.hid b5
  have P5 := Lib.hid (below_up P4.out b5)
  have E5 := Lib.hid (fun W (b : Below z5.heap.size z5 W) => And.intro (f5 W b) (E4.out W (below_up B5.out b)))
  clear b5 f5
  obtain ⟨⟨m0, m1, m2, m3⟩, ⟨mf0, mf1, mf2, mf3⟩⟩ := four_facts (E5.out z5 (Below.refl _ _)).2.2.1
  go_wp2_with (rw [V5.out])
  refine (Mv.out _).mono ?_
  rintro e z6 ⟨rfl, b6⟩
  have B6 := Lib.hid b6
  have P6 := Lib.hid (below_up P5.out b6)
  have E6 := Lib.hid (fun W (b : Below z6.heap.size z6 W) => E5.out W (below_up B6.out b))
  clear b6
  clear m0 m1 m2 m3 mf0 mf1 mf2 mf3
  obtain ⟨z7, hz7, b7, sz7, f7⟩ := lay1 z6 (.string c0.n) [.string c0.d, .int .i64 c0.t, .int .i64 c0.b, .int .i64 c0.m, .int .i64 c0.c] 27
  have V7 := Lib.hid hz7
  clear hz7 sz7
  have B7 := Lib.hid b7
  have P7 := Lib.hid (below_up P6.out b7)
  have E7 := Lib.hid (fun W (b : Below z7.heap.size z7 W) => And.intro (f7 W b) (E6.out W (below_up B7.out b)))
  clear b7 f7
  obtain ⟨⟨qa0, qa1, qa2, qa3, qa4, qa5⟩, ⟨qaf0, qaf1, qaf2, qaf3, qaf4, qaf5⟩⟩ := six_facts (E7.out z7 (Below.refl _ _)).2.2.1
  obtain ⟨⟨qb0, qb1, qb2, qb3, qb4, qb5⟩, ⟨qbf0, qbf1, qbf2, qbf3, qbf4, qbf5⟩⟩ := six_facts (E7.out z7 (Below.refl _ _)).2.1
  go_upto_region 6 with (rw [V7.out])
  obtain ⟨z8, hz8⟩ : ∃ y, ((((z7.setCell ⟨z4.heap.size, 2, none⟩ (.int .i64 a.t)).setCell ⟨z4.heap.size, 3, none⟩ (.int .i64 a.b)).setCell ⟨z4.heap.size, 4, none⟩ (.int .i64 a.m)).setCell ⟨z4.heap.size, 5, none⟩ (.int .i64 a.c)) = y := ⟨_, rfl⟩
  have P8 := Lib.hid (show Below W0.heap.size W0 z8 by rw [← hz8]; exact (Below.setCell (p := ⟨z4.heap.size, 5, none⟩) (Below.setCell (p := ⟨z4.heap.size, 4, none⟩) (Below.setCell (p := ⟨z4.heap.size, 3, none⟩) (Below.setCell (p := ⟨z4.heap.size, 2, none⟩) P7.out (by first | exact Nat.le_refl _ | exact P4.out.size | exact LOW.out) _) (by first | exact Nat.le_refl _ | exact P4.out.size | exact LOW.out) _) (by first | exact Nat.le_refl _ | exact P4.out.size | exact LOW.out) _) (by first | exact Nat.le_refl _ | exact P4.out.size | exact LOW.out) _))
  have E8 := Lib.hid (fun W (hqq : Below z8.heap.size z8 W) => And.intro (CellsAt.below (show CellsAt z8 (z6.heap.size) [.string c0.n, .string c0.d, .int .i64 c0.t, .int .i64 c0.b, .int .i64 c0.m, .int .i64 c0.c] by rw [← hz8]; exact (CellsAt.far (CellsAt.far (CellsAt.far (CellsAt.far (E7.out z7 (Below.refl _ _)).1 (Nat.ne_of_lt (lt_cells ((E6.out z6 (Below.refl _ _)).1)))) (Nat.ne_of_lt (lt_cells ((E6.out z6 (Below.refl _ _)).1)))) (Nat.ne_of_lt (lt_cells ((E6.out z6 (Below.refl _ _)).1)))) (Nat.ne_of_lt (lt_cells ((E6.out z6 (Below.refl _ _)).1))))) hqq) (And.intro (CellsAt.below (show CellsAt z8 (z4.heap.size) [.string b0.n, .string b0.d, .int .i64 a.t, .int .i64 a.b, .int .i64 a.m, .int .i64 a.c] by rw [← hz8]; exact (CellsAt.put (CellsAt.put (CellsAt.put (CellsAt.put (E7.out z7 (Below.refl _ _)).2.1 2 (.int .i64 a.t)) 3 (.int .i64 a.b)) 4 (.int .i64 a.m)) 5 (.int .i64 a.c))) hqq) (And.intro (CellsAt.below (show CellsAt z8 (z2.heap.size) [.string a.n, .string a.d, .int .i64 a.t, .int .i64 a.b, .int .i64 a.m, .int .i64 a.c] by rw [← hz8]; exact (CellsAt.far (CellsAt.far (CellsAt.far (CellsAt.far (E7.out z7 (Below.refl _ _)).2.2.1 (Ne.symm (Nat.ne_of_lt (lt_cells ((E4.out z4 (Below.refl _ _)).1))))) (Ne.symm (Nat.ne_of_lt (lt_cells ((E4.out z4 (Below.refl _ _)).1))))) (Ne.symm (Nat.ne_of_lt (lt_cells ((E4.out z4 (Below.refl _ _)).1))))) (Ne.symm (Nat.ne_of_lt (lt_cells ((E4.out z4 (Below.refl _ _)).1)))))) hqq) (And.intro (CellsAt.below (show CellsAt z8 (w.heap.size + 1 + 1) [.int .i64 v0, .int .i64 v1, .int .i64 v2, .int .i64 v3] by rw [← hz8]; exact (CellsAt.far (CellsAt.far (CellsAt.far (CellsAt.far (E7.out z7 (Below.refl _ _)).2.2.2.1 (Ne.symm (Nat.ne_of_lt (lt_cells ((E4.out z4 (Below.refl _ _)).2.1))))) (Ne.symm (Nat.ne_of_lt (lt_cells ((E4.out z4 (Below.refl _ _)).2.1))))) (Ne.symm (Nat.ne_of_lt (lt_cells ((E4.out z4 (Below.refl _ _)).2.1))))) (Ne.symm (Nat.ne_of_lt (lt_cells ((E4.out z4 (Below.refl _ _)).2.1)))))) hqq) (And.intro (CellsAt.below (show CellsAt z8 (w.heap.size + 1) [.int .i64 y0, .int .i64 y1, .int .i64 y2, .int .i64 y3] by rw [← hz8]; exact (CellsAt.far (CellsAt.far (CellsAt.far (CellsAt.far (E7.out z7 (Below.refl _ _)).2.2.2.2.1 (Ne.symm (Nat.ne_of_lt (lt_cells ((E4.out z4 (Below.refl _ _)).2.2.1))))) (Ne.symm (Nat.ne_of_lt (lt_cells ((E4.out z4 (Below.refl _ _)).2.2.1))))) (Ne.symm (Nat.ne_of_lt (lt_cells ((E4.out z4 (Below.refl _ _)).2.2.1))))) (Ne.symm (Nat.ne_of_lt (lt_cells ((E4.out z4 (Below.refl _ _)).2.2.1)))))) hqq) (And.intro (CellsAt.below (show CellsAt z8 (w.heap.size) [.int .i64 x0, .int .i64 x1, .int .i64 x2, .int .i64 x3] by rw [← hz8]; exact (CellsAt.far (CellsAt.far (CellsAt.far (CellsAt.far (E7.out z7 (Below.refl _ _)).2.2.2.2.2.1 (Ne.symm (Nat.ne_of_lt (lt_cells ((E4.out z4 (Below.refl _ _)).2.2.2.1))))) (Ne.symm (Nat.ne_of_lt (lt_cells ((E4.out z4 (Below.refl _ _)).2.2.2.1))))) (Ne.symm (Nat.ne_of_lt (lt_cells ((E4.out z4 (Below.refl _ _)).2.2.2.1))))) (Ne.symm (Nat.ne_of_lt (lt_cells ((E4.out z4 (Below.refl _ _)).2.2.2.1)))))) hqq) (trivial)))))))
  have V8 := Lib.hid hz8
  clear hz8
  clear qa0 qa1 qa2 qa3 qa4 qa5 qaf0 qaf1 qaf2 qaf3 qaf4 qaf5 qb0 qb1 qb2 qb3 qb4 qb5 qbf0 qbf1 qbf2 qbf3 qbf4 qbf5
  obtain ⟨⟨qa0, qa1, qa2, qa3, qa4, qa5⟩, ⟨qaf0, qaf1, qaf2, qaf3, qaf4, qaf5⟩⟩ := six_facts (E8.out z8 (Below.refl _ _)).2.2.1
  obtain ⟨⟨qc0, qc1, qc2, qc3, qc4, qc5⟩, ⟨qcf0, qcf1, qcf2, qcf3, qcf4, qcf5⟩⟩ := six_facts (E8.out z8 (Below.refl _ _)).1
  go_upto_region 7 with (rw [V8.out])
  obtain ⟨z9, hz9⟩ : ∃ y, ((((z8.setCell ⟨z6.heap.size, 2, none⟩ (.int .i64 a.t)).setCell ⟨z6.heap.size, 3, none⟩ (.int .i64 a.b)).setCell ⟨z6.heap.size, 4, none⟩ (.int .i64 a.m)).setCell ⟨z6.heap.size, 5, none⟩ (.int .i64 a.c)) = y := ⟨_, rfl⟩
  have P9 := Lib.hid (show Below W0.heap.size W0 z9 by rw [← hz9]; exact (Below.setCell (p := ⟨z6.heap.size, 5, none⟩) (Below.setCell (p := ⟨z6.heap.size, 4, none⟩) (Below.setCell (p := ⟨z6.heap.size, 3, none⟩) (Below.setCell (p := ⟨z6.heap.size, 2, none⟩) P8.out (by first | exact Nat.le_refl _ | exact P6.out.size | exact LOW.out) _) (by first | exact Nat.le_refl _ | exact P6.out.size | exact LOW.out) _) (by first | exact Nat.le_refl _ | exact P6.out.size | exact LOW.out) _) (by first | exact Nat.le_refl _ | exact P6.out.size | exact LOW.out) _))
  have E9 := Lib.hid (fun W (hqq : Below z9.heap.size z9 W) => And.intro (CellsAt.below (show CellsAt z9 (z6.heap.size) [.string c0.n, .string c0.d, .int .i64 a.t, .int .i64 a.b, .int .i64 a.m, .int .i64 a.c] by rw [← hz9]; exact (CellsAt.put (CellsAt.put (CellsAt.put (CellsAt.put (E8.out z8 (Below.refl _ _)).1 2 (.int .i64 a.t)) 3 (.int .i64 a.b)) 4 (.int .i64 a.m)) 5 (.int .i64 a.c))) hqq) (And.intro (CellsAt.below (show CellsAt z9 (z4.heap.size) [.string b0.n, .string b0.d, .int .i64 a.t, .int .i64 a.b, .int .i64 a.m, .int .i64 a.c] by rw [← hz9]; exact (CellsAt.far (CellsAt.far (CellsAt.far (CellsAt.far (E8.out z8 (Below.refl _ _)).2.1 (Ne.symm (Nat.ne_of_lt (lt_cells ((E6.out z6 (Below.refl _ _)).1))))) (Ne.symm (Nat.ne_of_lt (lt_cells ((E6.out z6 (Below.refl _ _)).1))))) (Ne.symm (Nat.ne_of_lt (lt_cells ((E6.out z6 (Below.refl _ _)).1))))) (Ne.symm (Nat.ne_of_lt (lt_cells ((E6.out z6 (Below.refl _ _)).1)))))) hqq) (And.intro (CellsAt.below (show CellsAt z9 (z2.heap.size) [.string a.n, .string a.d, .int .i64 a.t, .int .i64 a.b, .int .i64 a.m, .int .i64 a.c] by rw [← hz9]; exact (CellsAt.far (CellsAt.far (CellsAt.far (CellsAt.far (E8.out z8 (Below.refl _ _)).2.2.1 (Ne.symm (Nat.ne_of_lt (lt_cells ((E6.out z6 (Below.refl _ _)).2.1))))) (Ne.symm (Nat.ne_of_lt (lt_cells ((E6.out z6 (Below.refl _ _)).2.1))))) (Ne.symm (Nat.ne_of_lt (lt_cells ((E6.out z6 (Below.refl _ _)).2.1))))) (Ne.symm (Nat.ne_of_lt (lt_cells ((E6.out z6 (Below.refl _ _)).2.1)))))) hqq) (And.intro (CellsAt.below (show CellsAt z9 (w.heap.size + 1 + 1) [.int .i64 v0, .int .i64 v1, .int .i64 v2, .int .i64 v3] by rw [← hz9]; exact (CellsAt.far (CellsAt.far (CellsAt.far (CellsAt.far (E8.out z8 (Below.refl _ _)).2.2.2.1 (Ne.symm (Nat.ne_of_lt (lt_cells ((E6.out z6 (Below.refl _ _)).2.2.1))))) (Ne.symm (Nat.ne_of_lt (lt_cells ((E6.out z6 (Below.refl _ _)).2.2.1))))) (Ne.symm (Nat.ne_of_lt (lt_cells ((E6.out z6 (Below.refl _ _)).2.2.1))))) (Ne.symm (Nat.ne_of_lt (lt_cells ((E6.out z6 (Below.refl _ _)).2.2.1)))))) hqq) (And.intro (CellsAt.below (show CellsAt z9 (w.heap.size + 1) [.int .i64 y0, .int .i64 y1, .int .i64 y2, .int .i64 y3] by rw [← hz9]; exact (CellsAt.far (CellsAt.far (CellsAt.far (CellsAt.far (E8.out z8 (Below.refl _ _)).2.2.2.2.1 (Ne.symm (Nat.ne_of_lt (lt_cells ((E6.out z6 (Below.refl _ _)).2.2.2.1))))) (Ne.symm (Nat.ne_of_lt (lt_cells ((E6.out z6 (Below.refl _ _)).2.2.2.1))))) (Ne.symm (Nat.ne_of_lt (lt_cells ((E6.out z6 (Below.refl _ _)).2.2.2.1))))) (Ne.symm (Nat.ne_of_lt (lt_cells ((E6.out z6 (Below.refl _ _)).2.2.2.1)))))) hqq) (And.intro (CellsAt.below (show CellsAt z9 (w.heap.size) [.int .i64 x0, .int .i64 x1, .int .i64 x2, .int .i64 x3] by rw [← hz9]; exact (CellsAt.far (CellsAt.far (CellsAt.far (CellsAt.far (E8.out z8 (Below.refl _ _)).2.2.2.2.2.1 (Ne.symm (Nat.ne_of_lt (lt_cells ((E6.out z6 (Below.refl _ _)).2.2.2.2.1))))) (Ne.symm (Nat.ne_of_lt (lt_cells ((E6.out z6 (Below.refl _ _)).2.2.2.2.1))))) (Ne.symm (Nat.ne_of_lt (lt_cells ((E6.out z6 (Below.refl _ _)).2.2.2.2.1))))) (Ne.symm (Nat.ne_of_lt (lt_cells ((E6.out z6 (Below.refl _ _)).2.2.2.2.1)))))) hqq) (trivial)))))))
  have V9 := Lib.hid hz9
  clear hz9
  clear qa0 qa1 qa2 qa3 qa4 qa5 qaf0 qaf1 qaf2 qaf3 qaf4 qaf5 qc0 qc1 qc2 qc3 qc4 qc5 qcf0 qcf1 qcf2 qcf3 qcf4 qcf5
  obtain ⟨⟨qp0, qp1, qp2, qp3, qp4, qp5⟩, ⟨qpf0, qpf1, qpf2, qpf3, qpf4, qpf5⟩⟩ := six_facts (E9.out z9 (Below.refl _ _)).2.2.1
  obtain ⟨⟨qq0, qq1, qq2, qq3, qq4, qq5⟩, ⟨qqf0, qqf1, qqf2, qqf3, qqf4, qqf5⟩⟩ := six_facts (E9.out z9 (Below.refl _ _)).2.1
  go_wp2_with (rw [V9.out])
  refine (C1.out _ ((HR.out.below P9.out)).1).mono ?_
  rintro e z10 ⟨rfl, b10⟩
  have B10 := Lib.hid b10
  have P10 := Lib.hid (below_up P9.out b10)
  have E10 := Lib.hid (fun W (b : Below z10.heap.size z10 W) => E9.out W (below_up B10.out b))
  clear b10
  clear qp0 qp1 qp2 qp3 qp4 qp5 qpf0 qpf1 qpf2 qpf3 qpf4 qpf5 qq0 qq1 qq2 qq3 qq4 qq5 qqf0 qqf1 qqf2 qqf3 qqf4 qqf5
  obtain ⟨⟨qp0, qp1, qp2, qp3, qp4, qp5⟩, ⟨qpf0, qpf1, qpf2, qpf3, qpf4, qpf5⟩⟩ := six_facts (E10.out z10 (Below.refl _ _)).2.1
  obtain ⟨⟨qq0, qq1, qq2, qq3, qq4, qq5⟩, ⟨qqf0, qqf1, qqf2, qqf3, qqf4, qqf5⟩⟩ := six_facts (E10.out z10 (Below.refl _ _)).2.2.1
  go_wp2_with fail
  refine (C2.out _ ((HR.out.below P10.out)).1).mono ?_
  rintro e z11 ⟨rfl, b11⟩
  have B11 := Lib.hid b11
  have P11 := Lib.hid (below_up P10.out b11)
  have E11 := Lib.hid (fun W (b : Below z11.heap.size z11 W) => E10.out W (below_up B11.out b))
  clear b11
  clear qp0 qp1 qp2 qp3 qp4 qp5 qpf0 qpf1 qpf2 qpf3 qpf4 qpf5 qq0 qq1 qq2 qq3 qq4 qq5 qqf0 qqf1 qqf2 qqf3 qqf4 qqf5
  obtain ⟨⟨qp0, qp1, qp2, qp3, qp4, qp5⟩, ⟨qpf0, qpf1, qpf2, qpf3, qpf4, qpf5⟩⟩ := six_facts (E11.out z11 (Below.refl _ _)).2.1
  obtain ⟨⟨qq0, qq1, qq2, qq3, qq4, qq5⟩, ⟨qqf0, qqf1, qqf2, qqf3, qqf4, qqf5⟩⟩ := six_facts (E11.out z11 (Below.refl _ _)).1
  go_wp2_with fail
  refine (C3.out _ ((HR.out.below P11.out)).1).mono ?_
  rintro e z12 ⟨rfl, b12⟩
  have B12 := Lib.hid b12
  have P12 := Lib.hid (below_up P11.out b12)
  have E12 := Lib.hid (fun W (b : Below z12.heap.size z12 W) => E11.out W (below_up B12.out b))
  clear b12
  clear qp0 qp1 qp2 qp3 qp4 qp5 qpf0 qpf1 qpf2 qpf3 qpf4 qpf5 qq0 qq1 qq2 qq3 qq4 qq5 qqf0 qqf1 qqf2 qqf3 qqf4 qqf5
  obtain ⟨⟨qp0, qp1, qp2, qp3, qp4, qp5⟩, ⟨qpf0, qpf1, qpf2, qpf3, qpf4, qpf5⟩⟩ := six_facts (E12.out z12 (Below.refl _ _)).2.2.1
  obtain ⟨⟨qq0, qq1, qq2, qq3, qq4, qq5⟩, ⟨qqf0, qqf1, qqf2, qqf3, qqf4, qqf5⟩⟩ := six_facts (E12.out z12 (Below.refl _ _)).1
  go_wp2_with fail
  refine (C4.out _ ((HR.out.below P12.out)).1).mono ?_
  rintro e z13 ⟨rfl, b13⟩
  have B13 := Lib.hid b13
  have P13 := Lib.hid (below_up P12.out b13)
  have E13 := Lib.hid (fun W (b : Below z13.heap.size z13 W) => E12.out W (below_up B13.out b))
  clear b13
  clear qp0 qp1 qp2 qp3 qp4 qp5 qpf0 qpf1 qpf2 qpf3 qpf4 qpf5 qq0 qq1 qq2 qq3 qq4 qq5 qqf0 qqf1 qqf2 qqf3 qqf4 qqf5
  go_upto_region 11 with fail
  go_cut [104] from 65 to 104 (fun sv wx => sv = .bool false ∧ wx = z13)
  case first =>
    obtain ⟨⟨q10, q11, q12, q13, q14, q15⟩, ⟨q1f0, q1f1, q1f2, q1f3, q1f4, q1f5⟩⟩ := six_facts (E13.out z13 (Below.refl _ _)).2.2.1
    obtain ⟨⟨q20, q21, q22, q23, q24, q25⟩, ⟨q2f0, q2f1, q2f2, q2f3, q2f4, q2f5⟩⟩ := six_facts (E13.out z13 (Below.refl _ _)).2.1
    have ht := HT.out
    rcases HAB.out with ⟨h, e⟩ | ⟨h, e⟩ | ⟨h, e⟩
    · subst h
      by_cases hbc : bc ≤ 0
      · have hac : ¬ 0 < ac := by have := ht (by decide) hbc; omega
        clear ht
        go_wp2_with fail
        go_meet
        exact ⟨rfl, rfl⟩
      · clear ht
        go_wp2_with fail
        go_meet
        exact ⟨rfl, rfl⟩
    · subst h
      by_cases hbc : bc ≤ 0
      · have hac : ¬ 0 < ac := by have := ht (by decide) hbc; omega
        clear ht
        go_wp2_with fail
        go_meet
        exact ⟨rfl, rfl⟩
      · clear ht
        go_wp2_with fail
        go_meet
        exact ⟨rfl, rfl⟩
    · subst h
      clear ht
      go_wp2_with fail
      go_meet
      exact ⟨rfl, rfl⟩
  case rest =>
    obtain ⟨rfl, rfl⟩ := hcut
    generalize wc = z13 at *
    obtain ⟨⟨qp0, qp1, qp2, qp3, qp4, qp5⟩, ⟨qpf0, qpf1, qpf2, qpf3, qpf4, qpf5⟩⟩ := six_facts (E13.out z13 (Below.refl _ _)).2.2.1
    obtain ⟨⟨qq0, qq1, qq2, qq3, qq4, qq5⟩, ⟨qqf0, qqf1, qqf2, qqf3, qqf4, qqf5⟩⟩ := six_facts (E13.out z13 (Below.refl _ _)).1
    go_wp2_with fail
    refine (C5.out _ ((HR.out.below P13.out)).1).mono ?_
    rintro e z14 ⟨rfl, b14⟩
    have B14 := Lib.hid b14
    have P14 := Lib.hid (below_up P13.out b14)
    have E14 := Lib.hid (fun W (b : Below z14.heap.size z14 W) => E13.out W (below_up B14.out b))
    clear b14
    clear qp0 qp1 qp2 qp3 qp4 qp5 qpf0 qpf1 qpf2 qpf3 qpf4 qpf5 qq0 qq1 qq2 qq3 qq4 qq5 qqf0 qqf1 qqf2 qqf3 qqf4 qqf5
    obtain ⟨z15, hz15, b15, sz15, f15⟩ := lay1 z14 (.string r1.n) [.string r1.d, .int .i64 r1.t, .int .i64 r1.b, .int .i64 r1.m, .int .i64 r1.c] 27
    have V15 := Lib.hid hz15
    clear hz15 sz15
    have B15 := Lib.hid b15
    have P15 := Lib.hid (below_up P14.out b15)
    have E15 := Lib.hid (fun W (b : Below z15.heap.size z15 W) => And.intro (f15 W b) (E14.out W (below_up B15.out b)))
    clear b15 f15
    obtain ⟨⟨qp0, qp1, qp2, qp3, qp4, qp5⟩, ⟨qpf0, qpf1, qpf2, qpf3, qpf4, qpf5⟩⟩ := six_facts (E15.out z15 (Below.refl _ _)).2.2.1
    obtain ⟨⟨qq0, qq1, qq2, qq3, qq4, qq5⟩, ⟨qqf0, qqf1, qqf2, qqf3, qqf4, qqf5⟩⟩ := six_facts (E15.out z15 (Below.refl _ _)).2.1
    go_wp2_with (rw [V15.out])
    refine (C6.out _ ((HR.out.below P15.out)).1).mono ?_
    rintro e z16 ⟨rfl, b16⟩
    have B16 := Lib.hid b16
    have P16 := Lib.hid (below_up P15.out b16)
    have E16 := Lib.hid (fun W (b : Below z16.heap.size z16 W) => E15.out W (below_up B16.out b))
    clear b16
    clear qp0 qp1 qp2 qp3 qp4 qp5 qpf0 qpf1 qpf2 qpf3 qpf4 qpf5 qq0 qq1 qq2 qq3 qq4 qq5 qqf0 qqf1 qqf2 qqf3 qqf4 qqf5
    obtain ⟨z17, hz17, b17, sz17, f17⟩ := lay1 z16 (.string r2.n) [.string r2.d, .int .i64 r2.t, .int .i64 r2.b, .int .i64 r2.m, .int .i64 r2.c] 27
    have V17 := Lib.hid hz17
    clear hz17 sz17
    have B17 := Lib.hid b17
    have P17 := Lib.hid (below_up P16.out b17)
    have E17 := Lib.hid (fun W (b : Below z17.heap.size z17 W) => And.intro (f17 W b) (E16.out W (below_up B17.out b)))
    clear b17 f17
    obtain ⟨⟨qp0, qp1, qp2, qp3, qp4, qp5⟩, ⟨qpf0, qpf1, qpf2, qpf3, qpf4, qpf5⟩⟩ := six_facts (E17.out z17 (Below.refl _ _)).2.1
    obtain ⟨⟨qq0, qq1, qq2, qq3, qq4, qq5⟩, ⟨qqf0, qqf1, qqf2, qqf3, qqf4, qqf5⟩⟩ := six_facts (E17.out z17 (Below.refl _ _)).1
    go_wp2_with (rw [V17.out])
    refine (C7.out _ ((HR.out.below P17.out)).1).mono ?_
    rintro e z18 ⟨rfl, b18⟩
    have B18 := Lib.hid b18
    have P18 := Lib.hid (below_up P17.out b18)
    have E18 := Lib.hid (fun W (b : Below z18.heap.size z18 W) => E17.out W (below_up B18.out b))
    clear b18
    clear qp0 qp1 qp2 qp3 qp4 qp5 qpf0 qpf1 qpf2 qpf3 qpf4 qpf5 qq0 qq1 qq2 qq3 qq4 qq5 qqf0 qqf1 qqf2 qqf3 qqf4 qqf5
    obtain ⟨⟨qp0, qp1, qp2, qp3, qp4, qp5⟩, ⟨qpf0, qpf1, qpf2, qpf3, qpf4, qpf5⟩⟩ := six_facts (E18.out z18 (Below.refl _ _)).2.2.2.2.1
    obtain ⟨⟨qq0, qq1, qq2, qq3, qq4, qq5⟩, ⟨qqf0, qqf1, qqf2, qqf3, qqf4, qqf5⟩⟩ := six_facts (E18.out z18 (Below.refl _ _)).2.2.2.1
    go_wp2_with fail
    refine (C8.out _ ((HR.out.below P18.out)).1).mono ?_
    rintro e z19 ⟨rfl, b19⟩
    have B19 := Lib.hid b19
    have P19 := Lib.hid (below_up P18.out b19)
    have E19 := Lib.hid (fun W (b : Below z19.heap.size z19 W) => E18.out W (below_up B19.out b))
    clear b19
    clear qp0 qp1 qp2 qp3 qp4 qp5 qpf0 qpf1 qpf2 qpf3 qpf4 qpf5 qq0 qq1 qq2 qq3 qq4 qq5 qqf0 qqf1 qqf2 qqf3 qqf4 qqf5
    obtain ⟨z20, hz20, b20, sz20, f20⟩ := lay1 z19 (.string r3.n) [.string r3.d, .int .i64 r3.t, .int .i64 r3.b, .int .i64 r3.m, .int .i64 r3.c] 27
    have V20 := Lib.hid hz20
    clear hz20 sz20
    have B20 := Lib.hid b20
    have P20 := Lib.hid (below_up P19.out b20)
    have E20 := Lib.hid (fun W (b : Below z20.heap.size z20 W) => And.intro (f20 W b) (E19.out W (below_up B20.out b)))
    clear b20 f20
    obtain ⟨⟨qd0, qd1, qd2, qd3, qd4, qd5⟩, ⟨qdf0, qdf1, qdf2, qdf3, qdf4, qdf5⟩⟩ := six_facts (E20.out z20 (Below.refl _ _)).1
    go_wp2_with (rw [V20.out])
    refine (C9.out _ ((HR.out.below P20.out)).1).mono ?_
    rintro e z21 ⟨rfl, b21⟩
    have B21 := Lib.hid b21
    have P21 := Lib.hid (below_up P20.out b21)
    have E21 := Lib.hid (fun W (b : Below z21.heap.size z21 W) => E20.out W (below_up B21.out b))
    clear b21
    clear qd0 qd1 qd2 qd3 qd4 qd5 qdf0 qdf1 qdf2 qdf3 qdf4 qdf5
    have PE := Lib.hid (below_up B0.out P21.out)
    have oy := eU_true; have on := eU_false
    cases X1 with
    | false =>
      cases X3 with
      | false => go_wp2; go_ret; exact ⟨rfl, PE.out⟩
      | true =>
        obtain rfl := H2.out rfl
        go_wp2; go_ret; exact ⟨rfl, PE.out⟩
    | true =>
      cases X2 with
      | false =>
        cases X3 with
        | false => go_wp2; go_ret; exact ⟨rfl, PE.out⟩
        | true =>
          obtain rfl := H2.out rfl
          go_wp2; go_ret; exact ⟨rfl, PE.out⟩
      | true =>
        obtain ⟨e1, e2⟩ := H1.out rfl rfl
        subst e1 e2
        cases X3 with
        | false => go_wp2; go_ret; exact ⟨rfl, PE.out⟩
        | true =>
          obtain rfl := H2.out rfl
          go_wp2; go_ret; exact ⟨rfl, PE.out⟩
end Go.Proofs.YtcglcgphgahnpaaGreatDoor
