/-
  UnitDimensions: its walk.
-/
import Derived.Test.YtcglcgphgahnpaaGreatDoorK24
import Derived.Deep.CutRange
import Derived.Deep.DeepCutAuto
import Derived.Deep.RegionHeld3
import Derived.WalkKit
import Derived.Below
import Derived.Lib.ConvBytes
import Derived.Lib.SlBytesRow
import Derived.Laws.Rows
import Derived.OwnWalk
import Derived.OwnWalkIn
import Derived.BigQuiet
import Derived.IntWalk
import Derived.RegionTactic
import Derived.Deep.RegionLaw
import Derived.Deep.RegionWith
import Derived.Deep.QuietTactic
import Derived.Shelf.Abstract
import Derived.Laws.AppendOwn
import Derived.WalkLawsBesides
import Derived.Outline
import Derived.Lib.Hide
import Derived.Laws.MakeOwn
import Derived.Stop.RegionWithIn
import Derived.RangeFuncNested
import Derived.RangeFuncBound
import Derived.RangeFuncCalls
import Derived.RangeFuncLeaves
import Derived.RangeFuncBox
import Derived.TacticsInMore
import Derived.LoopNIn
import Derived.LoopIn
import Derived.Shelf.AbstractIn
import Derived.Laws.CopyOwn
import Derived.Shelf.LaysM
import Derived.Shelf.LaysC
import Derived.Shelf.Strconv.Itoa3
import Derived.Shelf.Strconv.AtoiAll
import Derived.Shelf.Strconv.ErrVarAll
import Derived.Shelf.Strconv.AppendIntPublic10
import Derived.Lib.ItoaNum
import Derived.Lib.AtoiAll
import Derived.WalkMore
import Derived.ScopeJumps
import Derived.Laws.AppendOwnNone
import Derived.Shelf.Strconv.Clone
import Derived.Shelf.Strings.Search2
import Derived.Shelf.Strings.Repeat
import Derived.ChangeAlike
import Derived.Lib.Varint
import Derived.Lib.Strings
import Derived.RangeFuncRecord
import Derived.Maps.AppendAt
import Derived.Laws.StructEq
namespace Go.Proofs.YtcglcgphgahnpaaGreatDoor
open Go Go.Proofs Go.RowKit Go.Lib

theorem unit_true {t b m c t' b' m' c' : Int} (h : t = t' ∧ b = b' ∧ m = m' ∧ c = c') (W : World) : (Op.equalIn 10000 25 (.agg #[.int .i64 t, .int .i64 b, .int .i64 m, .int .i64 c]) (.agg #[.int .i64 t', .int .i64 b', .int .i64 m', .int .i64 c'])).run Tryz.prog W = .ok true W := by
  rw [eq_unit4, decide_eq_true h]
theorem unit_same (p q : Qt) (W : World) : (Op.equalIn 10000 25 (.agg #[.int .i64 p.t, .int .i64 p.b, .int .i64 p.m, .int .i64 p.c]) (.agg #[.int .i64 q.t, .int .i64 q.b, .int .i64 q.m, .int .i64 q.c])).run Tryz.prog W = .ok (sameB p q) W := by
  rw [eq_unit4, show decide (p.t = q.t ∧ p.b = q.b ∧ p.m = q.m ∧ p.c = q.c) = sameB p q by rw [Bool.eq_iff_iff, sameB_iff, decide_eq_true_iff]]
theorem field_val (n d : ByteArray) (t b m c : Int) (w : World) : (Instr.field 27 (.agg #[.string n, .string d, .int .i64 t, .int .i64 b, .int .i64 m, .int .i64 c]) 0).run Tryz.prog w = .ok (.agg #[.string n, .string d]) w := by kernel_rfl
theorem inE_b {x : Int} (h : InE x) : -3 ≤ x ∧ x ≤ 3 := h
theorem cells_ok {q : Qt} (h : q.ok = true) : (-3 ≤ q.t ∧ q.t ≤ 3) ∧ (-3 ≤ q.b ∧ q.b ≤ 3) ∧ (-3 ≤ q.m ∧ q.m ≤ 3) ∧ (-3 ≤ q.c ∧ q.c ≤ 3) := by
  obtain ⟨h1, h2, h3, h4⟩ := okE_in (okU_parts h).1
  exact ⟨inE_b h1, inE_b h2, inE_b h3, inE_b h4⟩

set_option maxRecDepth 100000 in
set_option maxHeartbeats 16000000 in
theorem unitDimensions_walk (x0 x1 x2 x3 y0 y1 y2 y3 v0 v1 : Int) (ax0 : -9223372036854775808 ≤ x0) (cx0 : x0 ≤ 9223372036854775807) (ax1 : -9223372036854775808 ≤ x1) (cx1 : x1 ≤ 9223372036854775807) (ax2 : -9223372036854775808 ≤ x2) (cx2 : x2 ≤ 9223372036854775807) (ax3 : -9223372036854775808 ≤ x3) (cx3 : x3 ≤ 9223372036854775807) (ay0 : -9223372036854775808 ≤ y0) (cy0 : y0 ≤ 9223372036854775807) (ay1 : -9223372036854775808 ≤ y1) (cy1 : y1 ≤ 9223372036854775807) (ay2 : -9223372036854775808 ≤ y2) (cy2 : y2 ≤ 9223372036854775807) (ay3 : -9223372036854775808 ≤ y3) (cy3 : y3 ≤ 9223372036854775807) (av0 : -9223372036854775808 ≤ v0) (cv0 : v0 ≤ 9223372036854775807) (av1 : -9223372036854775808 ≤ v1) (cv1 : v1 ≤ 9223372036854775807) (w : World) (hR : Set5 w) : Calls Tryz.prog 6 #[.agg #[.int .i64 x0, .int .i64 x1, .int .i64 x2, .int .i64 x3], .agg #[.int .i64 y0, .int .i64 y1, .int .i64 y2, .int .i64 y3], .agg #[.int .i64 v0, .int .i64 v1]] w fun e w' => e = .returned (.bool true) ∧ Below w.heap.size w w' := by
  obtain ⟨W0, hW0, b0', s0, hcc⟩ := lay3 w (.int .i64 x0) [.int .i64 x1, .int .i64 x2, .int .i64 x3] 28 (.int .i64 y0) [.int .i64 y1, .int .i64 y2, .int .i64 y3] 28 (.int .i64 v0) [.int .i64 v1] 52
  have mx := fun W => made_any5 x0 x1 x2 x3 ax0 cx0 ax1 cx1 ax2 cx2 ax3 cx3 W
  have my := fun W => made_any5 y0 y1 y2 y3 ay0 cy0 ay1 cy1 ay2 cy2 ay3 cy3 W
  have w1 := fun W => made_any5 v0 v1 0 0 av0 cv0 av1 cv1 (by decide) (by decide) (by decide) (by decide) W
  have w2 := fun W => made_any5 v1 v0 0 0 av1 cv1 av0 cv0 (by decide) (by decide) (by decide) (by decide) W
  have oa := made_ok x0 x1 x2 x3; have ob := made_ok y0 y1 y2 y3; have o1 := made_ok v0 v1 0 0; have o2 := made_ok v1 v0 0 0
  generalize madeQt x0 x1 x2 x3 = a at *
  generalize madeQt y0 y1 y2 y3 = b at *
  generalize madeQt v0 v1 0 0 = m1 at *
  generalize madeQt v1 v0 0 0 = m2 at *
  have HW := Lib.hid hW0; have B0 := Lib.hid b0'; have HC := Lib.hid hcc; have HR := Lib.hid (hR.below b0'); have LOW := Lib.hid (show w.heap.size ≤ w.heap.size from Nat.le_refl _)
  have SANE := Lib.hid (fun W h => sane_any5 W h); have Mx := Lib.hid mx; have My := Lib.hid my; have M1 := Lib.hid w1; have M2 := Lib.hid w2
  have OAB := Lib.hid (And.intro oa ob); have OM := Lib.hid (And.intro o1 o2)
  clear hW0 b0' s0 hcc hR mx my w1 w2 oa ob o1 o2 ax0 cx0 ax1 cx1 ax2 cx2 ax3 cx3 ay0 cy0 ay1 cy1 ay2 cy2 ay3 cy3 av0 cv0 av1 cv1
  go_enter Tryz.func6, Tryz.ntmps6
  have P0 := Lib.hid (Below.refl W0.heap.size W0)
  have E0 := Lib.hid (fun W (b : Below W0.heap.size W0 W) => And.intro (HC.out W b).2.2 (And.intro (HC.out W b).2.1 (And.intro (HC.out W b).1 trivial)))
  go_wp2_with (rw [HW.out])
  refine (SANE.out _ (HR.out.below P0.out)).mono ?_
  rintro e z1 ⟨rfl, b1⟩
  have B1 := Lib.hid b1
  have P1 := Lib.hid (below_up P0.out b1)
  have E1 := Lib.hid (fun W (b : Below z1.heap.size z1 W) => E0.out W (below_up B1.out b))
  clear b1
  obtain ⟨⟨m0, m1, m2, m3⟩, ⟨mf0, mf1, mf2, mf3⟩⟩ := four_facts (E1.out z1 (Below.refl _ _)).2.2.1
  go_wp2_with fail
  refine (Mx.out _).mono ?_
  rintro e z2 ⟨rfl, b2⟩
  have B2 := Lib.hid b2
  have P2 := Lib.hid (below_up P1.out b2)
  have E2 := Lib.hid (fun W (b : Below z2.heap.size z2 W) => E1.out W (below_up B2.out b))
  clear b2
  clear m0 m1 m2 m3 mf0 mf1 mf2 mf3
  obtain ⟨z3, hz3, b3, sz3, f3⟩ := lay1 z2 (.string a.n) [.string a.d, .int .i64 a.t, .int .i64 a.b, .int .i64 a.m, .int .i64 a.c] 27
  have V3 := Lib.hid hz3
  clear hz3 sz3
  have B3 := Lib.hid b3
  have P3 := Lib.hid (below_up P2.out b3)
  have E3 := Lib.hid (fun W (b : Below z3.heap.size z3 W) => And.intro (f3 W b) (E2.out W (below_up B3.out b)))
  clear b3 f3
  obtain ⟨⟨m0, m1, m2, m3⟩, ⟨mf0, mf1, mf2, mf3⟩⟩ := four_facts (E3.out z3 (Below.refl _ _)).2.2.1
  go_wp2_with (rw [V3.out])
  refine (My.out _).mono ?_
  rintro e z4 ⟨rfl, b4⟩
  have B4 := Lib.hid b4
  have P4 := Lib.hid (below_up P3.out b4)
  have E4 := Lib.hid (fun W (b : Below z4.heap.size z4 W) => E3.out W (below_up B4.out b))
  clear b4
  clear m0 m1 m2 m3 mf0 mf1 mf2 mf3
  obtain ⟨z5, hz5, b5, sz5, f5⟩ := lay1 z4 (.string b.n) [.string b.d, .int .i64 b.t, .int .i64 b.b, .int .i64 b.m, .int .i64 b.c] 27
  have V5 := Lib.hid hz5
  clear hz5 sz5
  have B5 := Lib.hid b5
  have P5 := Lib.hid (below_up P4.out b5)
  have E5 := Lib.hid (fun W (b : Below z5.heap.size z5 W) => And.intro (f5 W b) (E4.out W (below_up B5.out b)))
  clear b5 f5
  go_wp2_with (rw [V5.out])
  have NAB := Lib.hid (show z2.heap.size ≠ z4.heap.size from (Nat.ne_of_lt (lt_cells ((E4.out z4 (Below.refl _ _)).1))))
  have NVA := Lib.hid (show w.heap.size + 1 + 1 ≠ z2.heap.size from (Nat.ne_of_lt (lt_cells ((E2.out z2 (Below.refl _ _)).1))))
  have NVB := Lib.hid (show w.heap.size + 1 + 1 ≠ z4.heap.size from (Nat.ne_of_lt (lt_cells ((E4.out z4 (Below.refl _ _)).2.1))))
  have J0 := E5.out z5 (Below.refl _ _)
  go_loopw [10] (fun i wr => ∃ (k : Nat) (p q : Qt), k ≤ 2 ∧ i = .int .i64 k ∧ Hid (p.ok = true ∧ q.ok = true) ∧ Hid (CellsAt wr (z2.heap.size) [.string p.n, .string p.d, .int .i64 p.t, .int .i64 p.b, .int .i64 p.m, .int .i64 p.c] ∧ CellsAt wr (z4.heap.size) [.string q.n, .string q.d, .int .i64 q.t, .int .i64 q.b, .int .i64 q.m, .int .i64 q.c] ∧ CellsAt wr (w.heap.size + 1 + 1) [.int .i64 v0, .int .i64 v1]) ∧ Hid (Below W0.heap.size W0 wr)) (fun i _ => 2 - (RowKit.intOf i).toNat)
  case atStart => exact ⟨0, a, b, by omega, rfl, OAB, Lib.hid ⟨J0.2.1, J0.1, J0.2.2.1⟩, P5⟩
  case round =>
    obtain ⟨k, p, q, hk, rfl, OPQ, HJ, HBW⟩ := hrel
    clear J0
    by_cases hk2 : k < 2
    · skip
      generalize wr = zr at *
      have P100 := HBW
      have E100 := Lib.hid (fun W (b : Below zr.heap.size zr W) => And.intro (HJ.out.2.1.below b) (And.intro (HJ.out.1.below b) (And.intro (HJ.out.2.2.below b) trivial)))
      have op := OPQ.out.1; have oq := OPQ.out.2
      have sp := Qt.short_ok op; have sq := Qt.short_ok oq
      have c1 := fun W h => add_u p q sp sq W h
      have c2 := fun W h => sub_u p q sp sq W h
      have c3 := fun W h => mul_u p q sp sq W h
      have c4 := fun W h => div_u p q sp sq W h
      have c5 := fun W h => cmp_u p q sp sq W h
      have hS : cmpX p q = sameB p q := by unfold cmpX; rw [op, oq]; rfl
      have hv : sameB p q = false → cmpV p q = 0 := fun h => cmpV_no (hS.trans h)
      rw [hS] at c5
      have eqs := fun W => unit_same p q W
      have h0 : sameB p q = false → addX p q = false ∧ subX p q = false ∧ addQt p q = zeroQt ∧ subQt p q = zeroQt := fun h => ⟨addX_no h, subX_no h, addQt_no (addX_no h), subQt_no (subX_no h)⟩
      have h1 : addX p q = true → ∀ W : World, (Op.equalIn 10000 25 (.agg #[.int .i64 (addQt p q).t, .int .i64 (addQt p q).b, .int .i64 (addQt p q).m, .int .i64 (addQt p q).c]) (.agg #[.int .i64 p.t, .int .i64 p.b, .int .i64 p.m, .int .i64 p.c])).run Tryz.prog W = .ok true W := fun h W => unit_true (by rw [addQt_eq h]; exact ⟨rfl, rfl, rfl, rfl⟩) W
      have h2 : subX p q = true → ∀ W : World, (Op.equalIn 10000 25 (.agg #[.int .i64 (subQt p q).t, .int .i64 (subQt p q).b, .int .i64 (subQt p q).m, .int .i64 (subQt p q).c]) (.agg #[.int .i64 p.t, .int .i64 p.b, .int .i64 p.m, .int .i64 p.c])).run Tryz.prog W = .ok true W := fun h W => unit_true (by rw [subQt_eq h]; exact ⟨rfl, rfl, rfl, rfl⟩) W
      have h3 : mulX p q = true → ∀ W : World, (Op.equalIn 10000 25 (.agg #[.int .i64 (mulQt p q).t, .int .i64 (mulQt p q).b, .int .i64 (mulQt p q).m, .int .i64 (mulQt p q).c]) (.agg #[.int .i64 (p.t + q.t), .int .i64 (p.b + q.b), .int .i64 (p.m + q.m), .int .i64 (p.c + q.c)])).run Tryz.prog W = .ok true W := fun h W => unit_true (by rw [mulQt_eq h]; exact ⟨rfl, rfl, rfl, rfl⟩) W
      have h4 : divX p q = true → ∀ W : World, (Op.equalIn 10000 25 (.agg #[.int .i64 (divQt p q).t, .int .i64 (divQt p q).b, .int .i64 (divQt p q).m, .int .i64 (divQt p q).c]) (.agg #[.int .i64 (p.t - q.t), .int .i64 (p.b - q.b), .int .i64 (p.m - q.m), .int .i64 (p.c - q.c)])).run Tryz.prog W = .ok true W := fun h W => unit_true (by rw [divQt_eq h]; exact ⟨rfl, rfl, rfl, rfl⟩) W
      have hbp := cells_ok op; have hbq := cells_ok oq
      generalize sameB p q = S at *
      generalize cmpV p q = cv at *
      generalize addX p q = X1 at *
      generalize subX p q = X2 at *
      generalize mulX p q = X3 at *
      generalize divX p q = X4 at *
      generalize addQt p q = r1 at *
      generalize subQt p q = r2 at *
      generalize mulQt p q = r3 at *
      generalize divQt p q = r4 at *
      have C1 := Lib.hid c1; have C2 := Lib.hid c2; have C3 := Lib.hid c3; have C4 := Lib.hid c4; have C5 := Lib.hid c5
      have EQS := Lib.hid eqs; have H0 := Lib.hid h0; have H1 := Lib.hid h1; have H2 := Lib.hid h2; have H3 := Lib.hid h3; have H4 := Lib.hid h4; have HV := Lib.hid hv; have HBP := Lib.hid hbp; have HBQ := Lib.hid hbq
      have hki : (k : Int) < 2 := by omega
      have HK2 := Lib.hid hk2; have HKI := Lib.hid hki
      clear op oq sp sq c1 c2 c3 c4 c5 hS hv eqs h0 h1 h2 h3 h4 hbp hbq hk hk2
      obtain ⟨⟨qa0, qa1, qa2, qa3, qa4, qa5⟩, ⟨qaf0, qaf1, qaf2, qaf3, qaf4, qaf5⟩⟩ := six_facts (E100.out zr (Below.refl _ _)).2.1
      go_upto_region 7 with fail
      clear hki
      obtain ⟨z101, hz101, b101, sz101, f101⟩ := lay1 zr (.int .i64 p.t) [.int .i64 p.b, .int .i64 p.m, .int .i64 p.c] 25
      have V101 := Lib.hid hz101
      clear hz101 sz101
      have B101 := Lib.hid b101
      have P101 := Lib.hid (below_up P100.out b101)
      have E101 := Lib.hid (fun W (b : Below z101.heap.size z101 W) => And.intro (f101 W b) (E100.out W (below_up B101.out b)))
      clear b101 f101
      go_upto_region 8 with (rw [V101.out])
      clear qa0 qa1 qa2 qa3 qa4 qa5 qaf0 qaf1 qaf2 qaf3 qaf4 qaf5
      obtain ⟨⟨qb0, qb1, qb2, qb3, qb4, qb5⟩, ⟨qbf0, qbf1, qbf2, qbf3, qbf4, qbf5⟩⟩ := six_facts (E101.out z101 (Below.refl _ _)).2.1
      obtain ⟨z102, hz102, b102, sz102, f102⟩ := lay1 z101 (.int .i64 q.t) [.int .i64 q.b, .int .i64 q.m, .int .i64 q.c] 25
      have V102 := Lib.hid hz102
      clear hz102 sz102
      have B102 := Lib.hid b102
      have P102 := Lib.hid (below_up P101.out b102)
      have E102 := Lib.hid (fun W (b : Below z102.heap.size z102 W) => And.intro (f102 W b) (E101.out W (below_up B102.out b)))
      clear b102 f102
      go_upto_region 9 with (rw [V102.out])
      clear qb0 qb1 qb2 qb3 qb4 qb5 qbf0 qbf1 qbf2 qbf3 qbf4 qbf5
      obtain ⟨⟨qp0, qp1, qp2, qp3, qp4, qp5⟩, ⟨qpf0, qpf1, qpf2, qpf3, qpf4, qpf5⟩⟩ := six_facts (E102.out z102 (Below.refl _ _)).2.2.2.1
      obtain ⟨⟨qq0, qq1, qq2, qq3, qq4, qq5⟩, ⟨qqf0, qqf1, qqf2, qqf3, qqf4, qqf5⟩⟩ := six_facts (E102.out z102 (Below.refl _ _)).2.2.1
      go_wp2_with fail
      refine (C1.out _ ((HR.out.below P102.out)).1).mono ?_
      rintro e z103 ⟨rfl, b103⟩
      have B103 := Lib.hid b103
      have P103 := Lib.hid (below_up P102.out b103)
      have E103 := Lib.hid (fun W (b : Below z103.heap.size z103 W) => E102.out W (below_up B103.out b))
      clear b103
      clear qp0 qp1 qp2 qp3 qp4 qp5 qpf0 qpf1 qpf2 qpf3 qpf4 qpf5 qq0 qq1 qq2 qq3 qq4 qq5 qqf0 qqf1 qqf2 qqf3 qqf4 qqf5
      obtain ⟨z104, hz104, b104, sz104, f104⟩ := lay1 z103 (.string r1.n) [.string r1.d, .int .i64 r1.t, .int .i64 r1.b, .int .i64 r1.m, .int .i64 r1.c] 27
      have V104 := Lib.hid hz104
      clear hz104 sz104
      have B104 := Lib.hid b104
      have P104 := Lib.hid (below_up P103.out b104)
      have E104 := Lib.hid (fun W (b : Below z104.heap.size z104 W) => And.intro (f104 W b) (E103.out W (below_up B104.out b)))
      clear b104 f104
      obtain ⟨⟨qp0, qp1, qp2, qp3, qp4, qp5⟩, ⟨qpf0, qpf1, qpf2, qpf3, qpf4, qpf5⟩⟩ := six_facts (E104.out z104 (Below.refl _ _)).2.2.2.2.1
      obtain ⟨⟨qq0, qq1, qq2, qq3, qq4, qq5⟩, ⟨qqf0, qqf1, qqf2, qqf3, qqf4, qqf5⟩⟩ := six_facts (E104.out z104 (Below.refl _ _)).2.2.2.1
      go_wp2_with (rw [V104.out])
      refine (C2.out _ ((HR.out.below P104.out)).1).mono ?_
      rintro e z105 ⟨rfl, b105⟩
      have B105 := Lib.hid b105
      have P105 := Lib.hid (below_up P104.out b105)
      have E105 := Lib.hid (fun W (b : Below z105.heap.size z105 W) => E104.out W (below_up B105.out b))
      clear b105
      clear qp0 qp1 qp2 qp3 qp4 qp5 qpf0 qpf1 qpf2 qpf3 qpf4 qpf5 qq0 qq1 qq2 qq3 qq4 qq5 qqf0 qqf1 qqf2 qqf3 qqf4 qqf5
      obtain ⟨z106, hz106, b106, sz106, f106⟩ := lay1 z105 (.string r2.n) [.string r2.d, .int .i64 r2.t, .int .i64 r2.b, .int .i64 r2.m, .int .i64 r2.c] 27
      have V106 := Lib.hid hz106
      clear hz106 sz106
      have B106 := Lib.hid b106
      have P106 := Lib.hid (below_up P105.out b106)
      have E106 := Lib.hid (fun W (b : Below z106.heap.size z106 W) => And.intro (f106 W b) (E105.out W (below_up B106.out b)))
      clear b106 f106
      go_upto_region 11 with (rw [V106.out])
      go_cut [68] from 48 to 68 (fun sv wx => sv = .bool false ∧ wx = z106)
      case first =>
        obtain ⟨⟨q10, q11, q12, q13⟩, ⟨q1f0, q1f1, q1f2, q1f3⟩⟩ := four_facts (E106.out z106 (Below.refl _ _)).2.2.2.1
        obtain ⟨⟨q20, q21, q22, q23⟩, ⟨q2f0, q2f1, q2f2, q2f3⟩⟩ := four_facts (E106.out z106 (Below.refl _ _)).2.2.1
        obtain ⟨⟨q30, q31, q32, q33, q34, q35⟩, ⟨q3f0, q3f1, q3f2, q3f3, q3f4, q3f5⟩⟩ := six_facts (E106.out z106 (Below.refl _ _)).2.1
        obtain ⟨⟨q40, q41, q42, q43, q44, q45⟩, ⟨q4f0, q4f1, q4f2, q4f3, q4f4, q4f5⟩⟩ := six_facts (E106.out z106 (Below.refl _ _)).1
        have oy := eU_true; have on := eU_false
        have eqs := EQS.out
        cases S with
        | true =>
          go_wp2_with fail
          go_meet
          exact ⟨rfl, rfl⟩
        | false =>
          obtain ⟨e1, e2, e3, e4⟩ := H0.out rfl
          subst e1 e2 e3 e4
          simp only [zeroQt] at q30 q31 q32 q33 q34 q35 q40 q41 q42 q43 q44 q45
          go_wp2_with fail
          go_meet
          exact ⟨rfl, rfl⟩
      case rest =>
        obtain ⟨rfl, rfl⟩ := hcut
        generalize wc = z106 at *
        go_upto_region 13 with fail
        go_cut [86] from 69 to 86 (fun sv wx => sv = .bool false ∧ wx = z106)
        case first =>
          obtain ⟨⟨q10, q11, q12, q13⟩, ⟨q1f0, q1f1, q1f2, q1f3⟩⟩ := four_facts (E106.out z106 (Below.refl _ _)).2.2.2.1
          obtain ⟨⟨q30, q31, q32, q33, q34, q35⟩, ⟨q3f0, q3f1, q3f2, q3f3, q3f4, q3f5⟩⟩ := six_facts (E106.out z106 (Below.refl _ _)).2.1
          obtain ⟨⟨q40, q41, q42, q43, q44, q45⟩, ⟨q4f0, q4f1, q4f2, q4f3, q4f4, q4f5⟩⟩ := six_facts (E106.out z106 (Below.refl _ _)).1
          have oy := eU_true; have on := eU_false
          cases X1 with
          | false =>
            cases X2 with
            | false =>
              go_wp2_with fail
              go_meet
              exact ⟨rfl, rfl⟩
            | true =>
              have eb := H2.out rfl
              go_wp2_with fail
              go_meet
              exact ⟨rfl, rfl⟩
          | true =>
            have ea := H1.out rfl
            cases X2 with
            | false =>
              go_wp2_with fail
              go_meet
              exact ⟨rfl, rfl⟩
            | true =>
              have eb := H2.out rfl
              go_wp2_with fail
              go_meet
              exact ⟨rfl, rfl⟩
        case rest =>
          obtain ⟨rfl, rfl⟩ := hcut
          generalize wc = z106 at *
          obtain ⟨⟨qp0, qp1, qp2, qp3, qp4, qp5⟩, ⟨qpf0, qpf1, qpf2, qpf3, qpf4, qpf5⟩⟩ := six_facts (E106.out z106 (Below.refl _ _)).2.2.2.2.2.1
          obtain ⟨⟨qq0, qq1, qq2, qq3, qq4, qq5⟩, ⟨qqf0, qqf1, qqf2, qqf3, qqf4, qqf5⟩⟩ := six_facts (E106.out z106 (Below.refl _ _)).2.2.2.2.1
          go_wp2_with fail
          refine (C3.out _ ((HR.out.below P106.out)).1).mono ?_
          rintro e z107 ⟨rfl, b107⟩
          have B107 := Lib.hid b107
          have P107 := Lib.hid (below_up P106.out b107)
          have E107 := Lib.hid (fun W (b : Below z107.heap.size z107 W) => E106.out W (below_up B107.out b))
          clear b107
          clear qp0 qp1 qp2 qp3 qp4 qp5 qpf0 qpf1 qpf2 qpf3 qpf4 qpf5 qq0 qq1 qq2 qq3 qq4 qq5 qqf0 qqf1 qqf2 qqf3 qqf4 qqf5
          obtain ⟨z108, hz108, b108, sz108, f108⟩ := lay1 z107 (.string r3.n) [.string r3.d, .int .i64 r3.t, .int .i64 r3.b, .int .i64 r3.m, .int .i64 r3.c] 27
          have V108 := Lib.hid hz108
          clear hz108 sz108
          have B108 := Lib.hid b108
          have P108 := Lib.hid (below_up P107.out b108)
          have E108 := Lib.hid (fun W (b : Below z108.heap.size z108 W) => And.intro (f108 W b) (E107.out W (below_up B108.out b)))
          clear b108 f108
          obtain ⟨⟨qp0, qp1, qp2, qp3, qp4, qp5⟩, ⟨qpf0, qpf1, qpf2, qpf3, qpf4, qpf5⟩⟩ := six_facts (E108.out z108 (Below.refl _ _)).2.2.2.2.2.2.1
          obtain ⟨⟨qq0, qq1, qq2, qq3, qq4, qq5⟩, ⟨qqf0, qqf1, qqf2, qqf3, qqf4, qqf5⟩⟩ := six_facts (E108.out z108 (Below.refl _ _)).2.2.2.2.2.1
          go_wp2_with (rw [V108.out])
          refine (C4.out _ ((HR.out.below P108.out)).1).mono ?_
          rintro e z109 ⟨rfl, b109⟩
          have B109 := Lib.hid b109
          have P109 := Lib.hid (below_up P108.out b109)
          have E109 := Lib.hid (fun W (b : Below z109.heap.size z109 W) => E108.out W (below_up B109.out b))
          clear b109
          clear qp0 qp1 qp2 qp3 qp4 qp5 qpf0 qpf1 qpf2 qpf3 qpf4 qpf5 qq0 qq1 qq2 qq3 qq4 qq5 qqf0 qqf1 qqf2 qqf3 qqf4 qqf5
          obtain ⟨z110, hz110, b110, sz110, f110⟩ := lay1 z109 (.string r4.n) [.string r4.d, .int .i64 r4.t, .int .i64 r4.b, .int .i64 r4.m, .int .i64 r4.c] 27
          have V110 := Lib.hid hz110
          clear hz110 sz110
          have B110 := Lib.hid b110
          have P110 := Lib.hid (below_up P109.out b110)
          have E110 := Lib.hid (fun W (b : Below z110.heap.size z110 W) => And.intro (f110 W b) (E109.out W (below_up B110.out b)))
          clear b110 f110
          go_upto_region 17 with (rw [V110.out])
          go_cut [156] from 99 to 156 (fun sv wx => sv = .bool false ∧ wx = z110)
          case first =>
            obtain ⟨⟨q10, q11, q12, q13⟩, ⟨q1f0, q1f1, q1f2, q1f3⟩⟩ := four_facts (E110.out z110 (Below.refl _ _)).2.2.2.2.2.1
            obtain ⟨⟨q20, q21, q22, q23⟩, ⟨q2f0, q2f1, q2f2, q2f3⟩⟩ := four_facts (E110.out z110 (Below.refl _ _)).2.2.2.2.1
            obtain ⟨⟨q30, q31, q32, q33, q34, q35⟩, ⟨q3f0, q3f1, q3f2, q3f3, q3f4, q3f5⟩⟩ := six_facts (E110.out z110 (Below.refl _ _)).2.1
            obtain ⟨⟨q40, q41, q42, q43, q44, q45⟩, ⟨q4f0, q4f1, q4f2, q4f3, q4f4, q4f5⟩⟩ := six_facts (E110.out z110 (Below.refl _ _)).1
            have oy := eU_true; have on := eU_false
            obtain ⟨⟨p1, p2⟩, ⟨p3, p4⟩, ⟨p5, p6⟩, ⟨p7, p8⟩⟩ := HBP.out
            obtain ⟨⟨o1, o2⟩, ⟨o3, o4⟩, ⟨o5, o6⟩, ⟨o7, o8⟩⟩ := HBQ.out
            cases X3 with
            | false =>
              cases X4 with
              | false =>
                go_wp2_with fail
                go_meet
                exact ⟨rfl, rfl⟩
              | true =>
                have eb := H4.out rfl
                go_wp2_with fail
                go_meet
                exact ⟨rfl, rfl⟩
            | true =>
              have ea := H3.out rfl
              cases X4 with
              | false =>
                go_wp2_with fail
                go_meet
                exact ⟨rfl, rfl⟩
              | true =>
                have eb := H4.out rfl
                go_wp2_with fail
                go_meet
                exact ⟨rfl, rfl⟩
          case rest =>
            obtain ⟨rfl, rfl⟩ := hcut
            generalize wc = z110 at *
            obtain ⟨⟨qp0, qp1, qp2, qp3, qp4, qp5⟩, ⟨qpf0, qpf1, qpf2, qpf3, qpf4, qpf5⟩⟩ := six_facts (E110.out z110 (Below.refl _ _)).2.2.2.2.2.2.2.1
            obtain ⟨⟨qq0, qq1, qq2, qq3, qq4, qq5⟩, ⟨qqf0, qqf1, qqf2, qqf3, qqf4, qqf5⟩⟩ := six_facts (E110.out z110 (Below.refl _ _)).2.2.2.2.2.2.1
            go_wp2_with fail
            refine (C5.out _ ((HR.out.below P110.out)).1).mono ?_
            rintro e z111 ⟨rfl, b111⟩
            have B111 := Lib.hid b111
            have P111 := Lib.hid (below_up P110.out b111)
            have E111 := Lib.hid (fun W (b : Below z111.heap.size z111 W) => E110.out W (below_up B111.out b))
            clear b111
            clear qp0 qp1 qp2 qp3 qp4 qp5 qpf0 qpf1 qpf2 qpf3 qpf4 qpf5 qq0 qq1 qq2 qq3 qq4 qq5 qqf0 qqf1 qqf2 qqf3 qqf4 qqf5
            go_upto_region 20 with fail
            go_cut [176] from 163 to 176 (fun sv wx => sv = .bool false ∧ wx = z111)
            case first =>
              obtain ⟨⟨q10, q11, q12, q13⟩, ⟨q1f0, q1f1, q1f2, q1f3⟩⟩ := four_facts (E111.out z111 (Below.refl _ _)).2.2.2.2.2.1
              obtain ⟨⟨q20, q21, q22, q23⟩, ⟨q2f0, q2f1, q2f2, q2f3⟩⟩ := four_facts (E111.out z111 (Below.refl _ _)).2.2.2.2.1
              have oy := eU_true; have on := eU_false
              have eqs := EQS.out
              cases S with
              | true =>
                go_wp2_with fail
                go_meet
                exact ⟨rfl, rfl⟩
              | false =>
                have e1 := HV.out rfl
                subst e1
                go_wp2_with fail
                go_meet
                exact ⟨rfl, rfl⟩
            case rest =>
              obtain ⟨rfl, rfl⟩ := hcut
              generalize wc = z111 at *
              obtain ⟨⟨qv0, qv1⟩, ⟨qvf0, qvf1⟩⟩ := two_facts (E111.out z111 (Below.refl _ _)).2.2.2.2.2.2.2.2.1
              go_wp2_with fail
              refine (M1.out _).mono ?_
              rintro e z112 ⟨rfl, b112⟩
              have B112 := Lib.hid b112
              have P112 := Lib.hid (below_up P111.out b112)
              have E112 := Lib.hid (fun W (b : Below z112.heap.size z112 W) => E111.out W (below_up B112.out b))
              clear b112
              clear qv0 qv1 qvf0 qvf1
              have hfv := fun W => field_val m1.n m1.d m1.t m1.b m1.m m1.c W
              obtain ⟨⟨qa0, qa1, qa2, qa3, qa4, qa5⟩, ⟨qaf0, qaf1, qaf2, qaf3, qaf4, qaf5⟩⟩ := six_facts (E112.out z112 (Below.refl _ _)).2.2.2.2.2.2.2.1
              go_upto_region 23 with fail
              obtain ⟨z113, hz113⟩ : ∃ y, ((z112.setCell ⟨z2.heap.size, 0, none⟩ (.string m1.n)).setCell ⟨z2.heap.size, 1, none⟩ (.string m1.d)) = y := ⟨_, rfl⟩
              have P113 := Lib.hid (show Below W0.heap.size W0 z113 by rw [← hz113]; exact (Below.setCell (p := ⟨z2.heap.size, 1, none⟩) (Below.setCell (p := ⟨z2.heap.size, 0, none⟩) P112.out (by first | exact Nat.le_refl _ | exact P2.out.size | exact LOW.out) _) (by first | exact Nat.le_refl _ | exact P2.out.size | exact LOW.out) _))
              have E113 := Lib.hid (fun W (hqq : Below z113.heap.size z113 W) => And.intro (CellsAt.below (show CellsAt z113 (z109.heap.size) [.string r4.n, .string r4.d, .int .i64 r4.t, .int .i64 r4.b, .int .i64 r4.m, .int .i64 r4.c] by rw [← hz113]; exact (CellsAt.far (CellsAt.far (E112.out z112 (Below.refl _ _)).1 (Nat.ne_of_lt (lt_cells ((E109.out z109 (Below.refl _ _)).2.2.2.2.2.2.1)))) (Nat.ne_of_lt (lt_cells ((E109.out z109 (Below.refl _ _)).2.2.2.2.2.2.1))))) hqq) (And.intro (CellsAt.below (show CellsAt z113 (z107.heap.size) [.string r3.n, .string r3.d, .int .i64 r3.t, .int .i64 r3.b, .int .i64 r3.m, .int .i64 r3.c] by rw [← hz113]; exact (CellsAt.far (CellsAt.far (E112.out z112 (Below.refl _ _)).2.1 (Nat.ne_of_lt (lt_cells ((E107.out z107 (Below.refl _ _)).2.2.2.2.2.1)))) (Nat.ne_of_lt (lt_cells ((E107.out z107 (Below.refl _ _)).2.2.2.2.2.1))))) hqq) (And.intro (CellsAt.below (show CellsAt z113 (z105.heap.size) [.string r2.n, .string r2.d, .int .i64 r2.t, .int .i64 r2.b, .int .i64 r2.m, .int .i64 r2.c] by rw [← hz113]; exact (CellsAt.far (CellsAt.far (E112.out z112 (Below.refl _ _)).2.2.1 (Nat.ne_of_lt (lt_cells ((E105.out z105 (Below.refl _ _)).2.2.2.2.1)))) (Nat.ne_of_lt (lt_cells ((E105.out z105 (Below.refl _ _)).2.2.2.2.1))))) hqq) (And.intro (CellsAt.below (show CellsAt z113 (z103.heap.size) [.string r1.n, .string r1.d, .int .i64 r1.t, .int .i64 r1.b, .int .i64 r1.m, .int .i64 r1.c] by rw [← hz113]; exact (CellsAt.far (CellsAt.far (E112.out z112 (Below.refl _ _)).2.2.2.1 (Nat.ne_of_lt (lt_cells ((E103.out z103 (Below.refl _ _)).2.2.2.1)))) (Nat.ne_of_lt (lt_cells ((E103.out z103 (Below.refl _ _)).2.2.2.1))))) hqq) (And.intro (CellsAt.below (show CellsAt z113 (z101.heap.size) [.int .i64 q.t, .int .i64 q.b, .int .i64 q.m, .int .i64 q.c] by rw [← hz113]; exact (CellsAt.far (CellsAt.far (E112.out z112 (Below.refl _ _)).2.2.2.2.1 (Nat.ne_of_lt (lt_cells ((E101.out z101 (Below.refl _ _)).2.2.1)))) (Nat.ne_of_lt (lt_cells ((E101.out z101 (Below.refl _ _)).2.2.1))))) hqq) (And.intro (CellsAt.below (show CellsAt z113 (zr.heap.size) [.int .i64 p.t, .int .i64 p.b, .int .i64 p.m, .int .i64 p.c] by rw [← hz113]; exact (CellsAt.far (CellsAt.far (E112.out z112 (Below.refl _ _)).2.2.2.2.2.1 (Nat.ne_of_lt (lt_cells ((E100.out zr (Below.refl _ _)).2.1)))) (Nat.ne_of_lt (lt_cells ((E100.out zr (Below.refl _ _)).2.1))))) hqq) (And.intro (CellsAt.below (show CellsAt z113 (z4.heap.size) [.string q.n, .string q.d, .int .i64 q.t, .int .i64 q.b, .int .i64 q.m, .int .i64 q.c] by rw [← hz113]; exact (CellsAt.far (CellsAt.far (E112.out z112 (Below.refl _ _)).2.2.2.2.2.2.1 NAB.out) NAB.out)) hqq) (And.intro (CellsAt.below (show CellsAt z113 (z2.heap.size) [.string m1.n, .string m1.d, .int .i64 p.t, .int .i64 p.b, .int .i64 p.m, .int .i64 p.c] by rw [← hz113]; exact (CellsAt.put (CellsAt.put (E112.out z112 (Below.refl _ _)).2.2.2.2.2.2.2.1 0 (.string m1.n)) 1 (.string m1.d))) hqq) (And.intro (CellsAt.below (show CellsAt z113 (w.heap.size + 1 + 1) [.int .i64 v0, .int .i64 v1] by rw [← hz113]; exact (CellsAt.far (CellsAt.far (E112.out z112 (Below.refl _ _)).2.2.2.2.2.2.2.2.1 (Ne.symm NVA.out)) (Ne.symm NVA.out))) hqq) (trivial))))))))))
              have V113 := Lib.hid hz113
              clear hz113
              clear qa0 qa1 qa2 qa3 qa4 qa5 qaf0 qaf1 qaf2 qaf3 qaf4 qaf5
              clear hfv
              obtain ⟨⟨qv0, qv1⟩, ⟨qvf0, qvf1⟩⟩ := two_facts (E113.out z113 (Below.refl _ _)).2.2.2.2.2.2.2.2.1
              go_wp2_with (rw [V113.out])
              refine (M2.out _).mono ?_
              rintro e z114 ⟨rfl, b114⟩
              have B114 := Lib.hid b114
              have P114 := Lib.hid (below_up P113.out b114)
              have E114 := Lib.hid (fun W (b : Below z114.heap.size z114 W) => E113.out W (below_up B114.out b))
              clear b114
              clear qv0 qv1 qvf0 qvf1
              have hfv := fun W => field_val m2.n m2.d m2.t m2.b m2.m m2.c W
              obtain ⟨⟨qb0, qb1, qb2, qb3, qb4, qb5⟩, ⟨qbf0, qbf1, qbf2, qbf3, qbf4, qbf5⟩⟩ := six_facts (E114.out z114 (Below.refl _ _)).2.2.2.2.2.2.1
              obtain ⟨z115, hz115⟩ : ∃ y, ((z114.setCell ⟨z4.heap.size, 0, none⟩ (.string m2.n)).setCell ⟨z4.heap.size, 1, none⟩ (.string m2.d)) = y := ⟨_, rfl⟩
              have P115 := Lib.hid (show Below W0.heap.size W0 z115 by rw [← hz115]; exact (Below.setCell (p := ⟨z4.heap.size, 1, none⟩) (Below.setCell (p := ⟨z4.heap.size, 0, none⟩) P114.out (by first | exact Nat.le_refl _ | exact P4.out.size | exact LOW.out) _) (by first | exact Nat.le_refl _ | exact P4.out.size | exact LOW.out) _))
              have E115 := Lib.hid (fun W (hqq : Below z115.heap.size z115 W) => And.intro (CellsAt.below (show CellsAt z115 (z109.heap.size) [.string r4.n, .string r4.d, .int .i64 r4.t, .int .i64 r4.b, .int .i64 r4.m, .int .i64 r4.c] by rw [← hz115]; exact (CellsAt.far (CellsAt.far (E114.out z114 (Below.refl _ _)).1 (Nat.ne_of_lt (lt_cells ((E109.out z109 (Below.refl _ _)).2.2.2.2.2.1)))) (Nat.ne_of_lt (lt_cells ((E109.out z109 (Below.refl _ _)).2.2.2.2.2.1))))) hqq) (And.intro (CellsAt.below (show CellsAt z115 (z107.heap.size) [.string r3.n, .string r3.d, .int .i64 r3.t, .int .i64 r3.b, .int .i64 r3.m, .int .i64 r3.c] by rw [← hz115]; exact (CellsAt.far (CellsAt.far (E114.out z114 (Below.refl _ _)).2.1 (Nat.ne_of_lt (lt_cells ((E107.out z107 (Below.refl _ _)).2.2.2.2.1)))) (Nat.ne_of_lt (lt_cells ((E107.out z107 (Below.refl _ _)).2.2.2.2.1))))) hqq) (And.intro (CellsAt.below (show CellsAt z115 (z105.heap.size) [.string r2.n, .string r2.d, .int .i64 r2.t, .int .i64 r2.b, .int .i64 r2.m, .int .i64 r2.c] by rw [← hz115]; exact (CellsAt.far (CellsAt.far (E114.out z114 (Below.refl _ _)).2.2.1 (Nat.ne_of_lt (lt_cells ((E105.out z105 (Below.refl _ _)).2.2.2.1)))) (Nat.ne_of_lt (lt_cells ((E105.out z105 (Below.refl _ _)).2.2.2.1))))) hqq) (And.intro (CellsAt.below (show CellsAt z115 (z103.heap.size) [.string r1.n, .string r1.d, .int .i64 r1.t, .int .i64 r1.b, .int .i64 r1.m, .int .i64 r1.c] by rw [← hz115]; exact (CellsAt.far (CellsAt.far (E114.out z114 (Below.refl _ _)).2.2.2.1 (Nat.ne_of_lt (lt_cells ((E103.out z103 (Below.refl _ _)).2.2.1)))) (Nat.ne_of_lt (lt_cells ((E103.out z103 (Below.refl _ _)).2.2.1))))) hqq) (And.intro (CellsAt.below (show CellsAt z115 (z101.heap.size) [.int .i64 q.t, .int .i64 q.b, .int .i64 q.m, .int .i64 q.c] by rw [← hz115]; exact (CellsAt.far (CellsAt.far (E114.out z114 (Below.refl _ _)).2.2.2.2.1 (Nat.ne_of_lt (lt_cells ((E101.out z101 (Below.refl _ _)).2.1)))) (Nat.ne_of_lt (lt_cells ((E101.out z101 (Below.refl _ _)).2.1))))) hqq) (And.intro (CellsAt.below (show CellsAt z115 (zr.heap.size) [.int .i64 p.t, .int .i64 p.b, .int .i64 p.m, .int .i64 p.c] by rw [← hz115]; exact (CellsAt.far (CellsAt.far (E114.out z114 (Below.refl _ _)).2.2.2.2.2.1 (Nat.ne_of_lt (lt_cells ((E100.out zr (Below.refl _ _)).1)))) (Nat.ne_of_lt (lt_cells ((E100.out zr (Below.refl _ _)).1))))) hqq) (And.intro (CellsAt.below (show CellsAt z115 (z4.heap.size) [.string m2.n, .string m2.d, .int .i64 q.t, .int .i64 q.b, .int .i64 q.m, .int .i64 q.c] by rw [← hz115]; exact (CellsAt.put (CellsAt.put (E114.out z114 (Below.refl _ _)).2.2.2.2.2.2.1 0 (.string m2.n)) 1 (.string m2.d))) hqq) (And.intro (CellsAt.below (show CellsAt z115 (z2.heap.size) [.string m1.n, .string m1.d, .int .i64 p.t, .int .i64 p.b, .int .i64 p.m, .int .i64 p.c] by rw [← hz115]; exact (CellsAt.far (CellsAt.far (E114.out z114 (Below.refl _ _)).2.2.2.2.2.2.2.1 (Ne.symm NAB.out)) (Ne.symm NAB.out))) hqq) (And.intro (CellsAt.below (show CellsAt z115 (w.heap.size + 1 + 1) [.int .i64 v0, .int .i64 v1] by rw [← hz115]; exact (CellsAt.far (CellsAt.far (E114.out z114 (Below.refl _ _)).2.2.2.2.2.2.2.2.1 (Ne.symm NVB.out)) (Ne.symm NVB.out))) hqq) (trivial))))))))))
              have V115 := Lib.hid hz115
              clear hz115
              have hki := HKI.out; have hk2 := HK2.out
              go_wp2_with (rw [V115.out])
              have JE := E115.out z115 (Below.refl _ _)
              go_roundw
              case rel => exact ⟨k + 1, mixQt5 m1 p, mixQt5 m2 q, by omega, by go_num, Lib.hid ⟨mix_ok5 OM.out.1 OPQ.out.1, mix_ok5 OM.out.2 OPQ.out.2⟩, Lib.hid ⟨JE.2.2.2.2.2.2.2.1, JE.2.2.2.2.2.2.1, JE.2.2.2.2.2.2.2.2.1⟩, P115⟩
              case measure => simp [RowKit.intOf]; omega
    · have hki : ¬ (k : Int) < 2 := by omega
      have PE := Lib.hid (below_up B0.out HBW.out)
      go_wp2
      go_ret
      exact ⟨rfl, PE.out⟩
end Go.Proofs.YtcglcgphgahnpaaGreatDoor
