/-
  UnitRoundTrip: its walk.
-/
import Derived.Test.YtcglcgphgahnpaaGreatDoorK24
import Derived.Deep.CutRange
import Derived.Deep.DeepCutAuto
import Derived.Deep.RegionHeld3
import Derived.WalkKit
import Derived.Below
import Derived.Lib.ConvBytes
import Derived.Lib.SlBytesRow
import Derived.Laws.Rows
import Derived.OwnWalk
import Derived.OwnWalkIn
import Derived.BigQuiet
import Derived.IntWalk
import Derived.RegionTactic
import Derived.Deep.RegionLaw
import Derived.Deep.RegionWith
import Derived.Deep.QuietTactic
import Derived.Shelf.Abstract
import Derived.Laws.AppendOwn
import Derived.WalkLawsBesides
import Derived.Outline
import Derived.Lib.Hide
import Derived.Laws.MakeOwn
import Derived.Stop.RegionWithIn
import Derived.RangeFuncNested
import Derived.RangeFuncBound
import Derived.RangeFuncCalls
import Derived.RangeFuncLeaves
import Derived.RangeFuncBox
import Derived.TacticsInMore
import Derived.LoopNIn
import Derived.LoopIn
import Derived.Shelf.AbstractIn
import Derived.Laws.CopyOwn
import Derived.Shelf.LaysM
import Derived.Shelf.LaysC
import Derived.Shelf.Strconv.Itoa3
import Derived.Shelf.Strconv.AtoiAll
import Derived.Shelf.Strconv.ErrVarAll
import Derived.Shelf.Strconv.AppendIntPublic10
import Derived.Lib.ItoaNum
import Derived.Lib.AtoiAll
import Derived.WalkMore
import Derived.ScopeJumps
import Derived.Laws.AppendOwnNone
import Derived.Shelf.Strconv.Clone
import Derived.Shelf.Strings.Search2
import Derived.Shelf.Strings.Repeat
import Derived.ChangeAlike
import Derived.Lib.Varint
import Derived.Lib.Strings
import Derived.RangeFuncRecord
import Derived.Maps.AppendAt
import Derived.Laws.StructEq
namespace Go.Proofs.YtcglcgphgahnpaaGreatDoor
open Go Go.Proofs Go.RowKit Go.Lib

theorem ne_list5 {a b : ByteArray} (h : ¬ a = b) : (¬ a.toList = b.toList) ∧ (a.toList == b.toList) = false := ⟨fun e => h (bytes_eq5 e), beq_eq_false_iff_ne.2 fun e => h (bytes_eq5 e)⟩

set_option maxRecDepth 100000 in
set_option maxHeartbeats 16000000 in
theorem unitRoundTrip_walk (x0 x1 x2 x3 y0 y1 y2 y3 : Int) (before after : ByteArray) (ax0 : -9223372036854775808 ≤ x0) (cx0 : x0 ≤ 9223372036854775807) (ax1 : -9223372036854775808 ≤ x1) (cx1 : x1 ≤ 9223372036854775807) (ax2 : -9223372036854775808 ≤ x2) (cx2 : x2 ≤ 9223372036854775807) (ax3 : -9223372036854775808 ≤ x3) (cx3 : x3 ≤ 9223372036854775807) (ay0 : -9223372036854775808 ≤ y0) (cy0 : y0 ≤ 9223372036854775807) (ay1 : -9223372036854775808 ≤ y1) (cy1 : y1 ≤ 9223372036854775807) (ay2 : -9223372036854775808 ≤ y2) (cy2 : y2 ≤ 9223372036854775807) (ay3 : -9223372036854775808 ≤ y3) (cy3 : y3 ≤ 9223372036854775807) (hb4 : before.size ≤ maxLen) (haf : after.size ≤ maxLen) (w : World) (hR : Set5 w) : Calls Tryz.prog 8 #[.agg #[.int .i64 x0, .int .i64 x1, .int .i64 x2, .int .i64 x3], .agg #[.int .i64 y0, .int .i64 y1, .int .i64 y2, .int .i64 y3], .string before, .string after] w fun e w' => e = .returned (.bool true) ∧ Below w.heap.size w w' := by
  obtain ⟨W0, hW0, b0', s0, hcc⟩ := lay2 w (.int .i64 x0) [.int .i64 x1, .int .i64 x2, .int .i64 x3] 28 (.int .i64 y0) [.int .i64 y1, .int .i64 y2, .int .i64 y3] 28
  have mx := fun W => made_any5 x0 x1 x2 x3 ax0 cx0 ax1 cx1 ax2 cx2 ax3 cx3 W
  have my := fun W => made_any5 y0 y1 y2 y3 ay0 cy0 ay1 cy1 ay2 cy2 ay3 cy3 W
  have oa := made_ok x0 x1 x2 x3; have ob := made_ok y0 y1 y2 y3
  generalize madeQt x0 x1 x2 x3 = a at *
  generalize madeQt y0 y1 y2 y3 = b at *
  have sa := Qt.short_ok oa; have sb := Qt.short_ok ob
  unfold maxLen at hb4 haf
  have hi : (0 ≤ min (before.size : Int) 100 ∧ min (before.size : Int) 100 ≤ before.size ∧ 0 ≤ min (after.size : Int) 100 ∧ min (after.size : Int) 100 ≤ after.size) := by omega
  obtain ⟨XB, hx⟩ : ∃ t, before.extract 0 (min (before.size : Int) 100).toNat = t := ⟨_, rfl⟩
  obtain ⟨YA, hy⟩ : ∃ t, after.extract 0 (min (after.size : Int) 100).toNat = t := ⟨_, rfl⟩
  have zx : XB.size ≤ 100 := by rw [← hx, ByteArray.size_extract]; omega
  have zy : YA.size ≤ 100 := by rw [← hy, ByteArray.size_extract]; omega
  have za := code5_size a; have zta := text5_size a; have ztb := text5_size b
  have pa := fun W h => print_q5 a sa W h
  have pb := fun W h => print_q5 b sb W h
  have ps := fun W h => parse_u a.text5 (by omega) W h
  rw [(par_text5 oa).1, (par_text5 oa).2] at ps
  have ea := fun W h => encode_q5 a sa W h
  have eb := fun W h => encode_q5 b sb W h
  rw [oa] at ea
  rw [ob] at eb
  have de := fun W h => decode_u (XB ++ a.code5 ++ YA) (by simp only [ByteArray.size_append]; omega) ((XB.size : Nat) : Int) W h
  obtain ⟨d1, d2, d3⟩ := dec_code oa XB YA
  rw [d1, d2, d3, Int.natCast_add] at de
  have hj : XB.size + a.code5.size ≤ 9223372036854775807 ∧ XB.size + a.code5.size + YA.size ≤ 9223372036854775807 := by omega
  have hwr : IntKind.i64.wrap ((XB.size : Int) + (a.code5.size : Int)) = (XB.size : Int) + (a.code5.size : Int) := IntWalk.i64_in _ (by omega)
  have eaa := fun W => eq_qty6 a.n a.d a.n a.d a.t a.b a.m a.c a.t a.b a.m a.c W
  rw [decide_eq_true (show a.n = a.n ∧ a.d = a.d ∧ a.t = a.t ∧ a.b = a.b ∧ a.m = a.m ∧ a.c = a.c from ⟨rfl, rfl, rfl, rfl, rfl, rfl⟩)] at eaa
  have hab : ((∀ W : World, (Op.equalIn 10000 27 (.agg #[.string a.n, .string a.d, .int .i64 a.t, .int .i64 a.b, .int .i64 a.m, .int .i64 a.c]) (.agg #[.string b.n, .string b.d, .int .i64 b.t, .int .i64 b.b, .int .i64 b.m, .int .i64 b.c])).run Tryz.prog W = .ok true W) ∧ a.code5 = b.code5 ∧ a.text5 = b.text5) ∨ ((∀ W : World, (Op.equalIn 10000 27 (.agg #[.string a.n, .string a.d, .int .i64 a.t, .int .i64 a.b, .int .i64 a.m, .int .i64 a.c]) (.agg #[.string b.n, .string b.d, .int .i64 b.t, .int .i64 b.b, .int .i64 b.m, .int .i64 b.c])).run Tryz.prog W = .ok false W) ∧ ((¬ a.code5.toList = b.code5.toList) ∧ (a.code5.toList == b.code5.toList) = false) ∧ ((¬ a.text5.toList = b.text5.toList) ∧ (a.text5.toList == b.text5.toList) = false)) := by
    by_cases h : a = b
    · subst h; exact .inl ⟨eaa, rfl, rfl⟩
    · refine .inr ⟨fun W => ?_, ne_list5 fun k => h (code5_inj oa ob k), ne_list5 fun k => h (text5_inj oa ob k)⟩
      rw [eq_qty6 a.n a.d b.n b.d a.t a.b a.m a.c b.t b.b b.m b.c W, decide_eq_false (fun k => h (Qt.ext' k.1 k.2.1 k.2.2.1 k.2.2.2.1 k.2.2.2.2.1 k.2.2.2.2.2))]
  generalize a.code5 = CA at *
  generalize b.code5 = CB at *
  generalize a.text5 = TA at *
  generalize b.text5 = TB at *
  have HW := Lib.hid hW0; have B0 := Lib.hid b0'; have HC := Lib.hid hcc; have HR := Lib.hid (hR.below b0'); have LOW := Lib.hid (show w.heap.size ≤ w.heap.size from Nat.le_refl _)
  have SANE := Lib.hid (fun W h => sane_any5 W h); have Mx := Lib.hid mx; have My := Lib.hid my
  have PA := Lib.hid pa; have PB := Lib.hid pb; have PS := Lib.hid ps; have EA := Lib.hid ea; have EB := Lib.hid eb; have DE := Lib.hid de
  have HI := Lib.hid hi; have HX1 := Lib.hid hx; have HY1 := Lib.hid hy; have HJ := Lib.hid hj; have HWR := Lib.hid hwr; have EAA := Lib.hid eaa; have HAB := Lib.hid hab
  clear hW0 b0' s0 hcc hR mx my oa ob sa sb hb4 haf hi hx hy zx zy za zta ztb pa pb ps ea eb de d1 d2 d3 hj hwr eaa hab ax0 cx0 ax1 cx1 ax2 cx2 ax3 cx3 ay0 cy0 ay1 cy1 ay2 cy2 ay3 cy3
  go_enter Tryz.func8, Tryz.ntmps8
  have P0 := Lib.hid (Below.refl W0.heap.size W0)
  have E0 := Lib.hid (fun W (b : Below W0.heap.size W0 W) => And.intro (HC.out W b).2 (And.intro (HC.out W b).1 trivial))
  go_wp2_with (rw [HW.out])
  refine (SANE.out _ (HR.out.below P0.out)).mono ?_
  rintro e z1 ⟨rfl, b1⟩
  have B1 := Lib.hid b1
  have P1 := Lib.hid (below_up P0.out b1)
  have E1 := Lib.hid (fun W (b : Below z1.heap.size z1 W) => E0.out W (below_up B1.out b))
  clear b1
  obtain ⟨⟨m0, m1, m2, m3⟩, ⟨mf0, mf1, mf2, mf3⟩⟩ := four_facts (E1.out z1 (Below.refl _ _)).2.1
  go_wp2_with fail
  refine (Mx.out _).mono ?_
  rintro e z2 ⟨rfl, b2⟩
  have B2 := Lib.hid b2
  have P2 := Lib.hid (below_up P1.out b2)
  have E2 := Lib.hid (fun W (b : Below z2.heap.size z2 W) => E1.out W (below_up B2.out b))
  clear b2
  clear m0 m1 m2 m3 mf0 mf1 mf2 mf3
  obtain ⟨z3, hz3, b3, sz3, f3⟩ := lay1 z2 (.string a.n) [.string a.d, .int .i64 a.t, .int .i64 a.b, .int .i64 a.m, .int .i64 a.c] 27
  have V3 := Lib.hid hz3
  clear hz3 sz3
  have B3 := Lib.hid b3
  have P3 := Lib.hid (below_up P2.out b3)
  have E3 := Lib.hid (fun W (b : Below z3.heap.size z3 W) => And.intro (f3 W b) (E2.out W (below_up B3.out b)))
  clear b3 f3
  obtain ⟨⟨m0, m1, m2, m3⟩, ⟨mf0, mf1, mf2, mf3⟩⟩ := four_facts (E3.out z3 (Below.refl _ _)).2.1
  go_wp2_with (rw [V3.out])
  refine (My.out _).mono ?_
  rintro e z4 ⟨rfl, b4⟩
  have B4 := Lib.hid b4
  have P4 := Lib.hid (below_up P3.out b4)
  have E4 := Lib.hid (fun W (b : Below z4.heap.size z4 W) => E3.out W (below_up B4.out b))
  clear b4
  clear m0 m1 m2 m3 mf0 mf1 mf2 mf3
  obtain ⟨z5, hz5, b5, sz5, f5⟩ := lay1 z4 (.string b.n) [.string b.d, .int .i64 b.t, .int .i64 b.b, .int .i64 b.m, .int .i64 b.c] 27
  have V5 := Lib.hid hz5
  clear hz5 sz5
  have B5 := Lib.hid b5
  have P5 := Lib.hid (below_up P4.out b5)
  have E5 := Lib.hid (fun W (b : Below z5.heap.size z5 W) => And.intro (f5 W b) (E4.out W (below_up B5.out b)))
  clear b5 f5
  obtain ⟨i1, i2, i3, i4⟩ := HI.out
  go_upto_region 6 with (rw [V5.out])
  rw [HX1.out, HY1.out]
  clear i1 i2 i3 i4
  obtain ⟨⟨qa0, qa1, qa2, qa3, qa4, qa5⟩, ⟨qaf0, qaf1, qaf2, qaf3, qaf4, qaf5⟩⟩ := six_facts (E5.out z5 (Below.refl _ _)).2.1
  go_wp2_with fail
  refine (PA.out _ (HR.out.below P5.out)).mono ?_
  rintro e z6 ⟨rfl, b6⟩
  have B6 := Lib.hid b6
  have P6 := Lib.hid (below_up P5.out b6)
  have E6 := Lib.hid (fun W (b : Below z6.heap.size z6 W) => E5.out W (below_up B6.out b))
  clear b6
  go_wp2_with fail
  refine (PS.out _ (HR.out.below P6.out)).mono ?_
  rintro e z7 ⟨rfl, b7⟩
  have B7 := Lib.hid b7
  have P7 := Lib.hid (below_up P6.out b7)
  have E7 := Lib.hid (fun W (b : Below z7.heap.size z7 W) => E6.out W (below_up B7.out b))
  clear b7
  clear qa0 qa1 qa2 qa3 qa4 qa5 qaf0 qaf1 qaf2 qaf3 qaf4 qaf5
  obtain ⟨z8, hz8, b8, sz8, f8⟩ := lay1 z7 (.string a.n) [.string a.d, .int .i64 a.t, .int .i64 a.b, .int .i64 a.m, .int .i64 a.c] 27
  have V8 := Lib.hid hz8
  clear hz8 sz8
  have B8 := Lib.hid b8
  have P8 := Lib.hid (below_up P7.out b8)
  have E8 := Lib.hid (fun W (b : Below z8.heap.size z8 W) => And.intro (f8 W b) (E7.out W (below_up B8.out b)))
  clear b8 f8
  obtain ⟨⟨qa0, qa1, qa2, qa3, qa4, qa5⟩, ⟨qaf0, qaf1, qaf2, qaf3, qaf4, qaf5⟩⟩ := six_facts (E8.out z8 (Below.refl _ _)).2.2.1
  go_wp2_with (rw [V8.out])
  refine (EA.out _ ((HR.out.below P8.out)).1).mono ?_
  rintro e z9 ⟨rfl, b9⟩
  have B9 := Lib.hid b9
  have P9 := Lib.hid (below_up P8.out b9)
  have E9 := Lib.hid (fun W (b : Below z9.heap.size z9 W) => E8.out W (below_up B9.out b))
  clear b9
  clear qa0 qa1 qa2 qa3 qa4 qa5 qaf0 qaf1 qaf2 qaf3 qaf4 qaf5
  obtain ⟨⟨qb0, qb1, qb2, qb3, qb4, qb5⟩, ⟨qbf0, qbf1, qbf2, qbf3, qbf4, qbf5⟩⟩ := six_facts (E9.out z9 (Below.refl _ _)).2.1
  go_wp2_with fail
  refine (EB.out _ ((HR.out.below P9.out)).1).mono ?_
  rintro e z10 ⟨rfl, b10⟩
  have B10 := Lib.hid b10
  have P10 := Lib.hid (below_up P9.out b10)
  have E10 := Lib.hid (fun W (b : Below z10.heap.size z10 W) => E9.out W (below_up B10.out b))
  clear b10
  clear qb0 qb1 qb2 qb3 qb4 qb5 qbf0 qbf1 qbf2 qbf3 qbf4 qbf5
  obtain ⟨j1, j2⟩ := HJ.out
  go_wp2_with fail
  refine (DE.out _ ((HR.out.below P10.out)).1).mono ?_
  rintro e z11 ⟨rfl, b11⟩
  have B11 := Lib.hid b11
  have P11 := Lib.hid (below_up P10.out b11)
  have E11 := Lib.hid (fun W (b : Below z11.heap.size z11 W) => E10.out W (below_up B11.out b))
  clear b11
  obtain ⟨z12, hz12, b12, sz12, f12⟩ := lay1 z11 (.string a.n) [.string a.d, .int .i64 a.t, .int .i64 a.b, .int .i64 a.m, .int .i64 a.c] 27
  have V12 := Lib.hid hz12
  clear hz12 sz12
  have B12 := Lib.hid b12
  have P12 := Lib.hid (below_up P11.out b12)
  have E12 := Lib.hid (fun W (b : Below z12.heap.size z12 W) => And.intro (f12 W b) (E11.out W (below_up B12.out b)))
  clear b12 f12
  go_upto_region 10 with (rw [V12.out])
  have hw := HWR.out
  have ea := EAA.out
  rcases HAB.out with h | h
  · obtain ⟨h1, h2⟩ := h
    obtain ⟨e1, e2⟩ := h2
    subst e1 e2
    have eb := h1
    clear h1
    have K := Lib.hid (show ∀ W, Below z12.heap.size z12 W → ((W.cell? ⟨z2.heap.size, 0, none⟩ = some (.string a.n) ∧ W.cell? ⟨z2.heap.size, 1, none⟩ = some (.string a.d) ∧ W.cell? ⟨z2.heap.size, 2, none⟩ = some (.int .i64 a.t) ∧ W.cell? ⟨z2.heap.size, 3, none⟩ = some (.int .i64 a.b) ∧ W.cell? ⟨z2.heap.size, 4, none⟩ = some (.int .i64 a.m) ∧ W.cell? ⟨z2.heap.size, 5, none⟩ = some (.int .i64 a.c)) ∧ (W.cell? ⟨z4.heap.size, 0, none⟩ = some (.string b.n) ∧ W.cell? ⟨z4.heap.size, 1, none⟩ = some (.string b.d) ∧ W.cell? ⟨z4.heap.size, 2, none⟩ = some (.int .i64 b.t) ∧ W.cell? ⟨z4.heap.size, 3, none⟩ = some (.int .i64 b.b) ∧ W.cell? ⟨z4.heap.size, 4, none⟩ = some (.int .i64 b.m) ∧ W.cell? ⟨z4.heap.size, 5, none⟩ = some (.int .i64 b.c)) ∧ (W.cell? ⟨z7.heap.size, 0, none⟩ = some (.string a.n) ∧ W.cell? ⟨z7.heap.size, 1, none⟩ = some (.string a.d) ∧ W.cell? ⟨z7.heap.size, 2, none⟩ = some (.int .i64 a.t) ∧ W.cell? ⟨z7.heap.size, 3, none⟩ = some (.int .i64 a.b) ∧ W.cell? ⟨z7.heap.size, 4, none⟩ = some (.int .i64 a.m) ∧ W.cell? ⟨z7.heap.size, 5, none⟩ = some (.int .i64 a.c)) ∧ (W.cell? ⟨z11.heap.size, 0, none⟩ = some (.string a.n) ∧ W.cell? ⟨z11.heap.size, 1, none⟩ = some (.string a.d) ∧ W.cell? ⟨z11.heap.size, 2, none⟩ = some (.int .i64 a.t) ∧ W.cell? ⟨z11.heap.size, 3, none⟩ = some (.int .i64 a.b) ∧ W.cell? ⟨z11.heap.size, 4, none⟩ = some (.int .i64 a.m) ∧ W.cell? ⟨z11.heap.size, 5, none⟩ = some (.int .i64 a.c))) from fun W b => ⟨(six_facts (E12.out W b).2.2.2.1).1, (six_facts (E12.out W b).2.2.1).1, (six_facts (E12.out W b).2.1).1, (six_facts (E12.out W b).1).1⟩)
    have HRz := Lib.hid (HR.out.below P12.out)
    have g := Below.refl z12.heap.size z12
    go_region_held3 (fun W => (W.cell? ⟨z2.heap.size, 0, none⟩ = some (.string a.n) ∧ W.cell? ⟨z2.heap.size, 1, none⟩ = some (.string a.d) ∧ W.cell? ⟨z2.heap.size, 2, none⟩ = some (.int .i64 a.t) ∧ W.cell? ⟨z2.heap.size, 3, none⟩ = some (.int .i64 a.b) ∧ W.cell? ⟨z2.heap.size, 4, none⟩ = some (.int .i64 a.m) ∧ W.cell? ⟨z2.heap.size, 5, none⟩ = some (.int .i64 a.c)) ∧ (W.cell? ⟨z4.heap.size, 0, none⟩ = some (.string b.n) ∧ W.cell? ⟨z4.heap.size, 1, none⟩ = some (.string b.d) ∧ W.cell? ⟨z4.heap.size, 2, none⟩ = some (.int .i64 b.t) ∧ W.cell? ⟨z4.heap.size, 3, none⟩ = some (.int .i64 b.b) ∧ W.cell? ⟨z4.heap.size, 4, none⟩ = some (.int .i64 b.m) ∧ W.cell? ⟨z4.heap.size, 5, none⟩ = some (.int .i64 b.c)) ∧ (W.cell? ⟨z7.heap.size, 0, none⟩ = some (.string a.n) ∧ W.cell? ⟨z7.heap.size, 1, none⟩ = some (.string a.d) ∧ W.cell? ⟨z7.heap.size, 2, none⟩ = some (.int .i64 a.t) ∧ W.cell? ⟨z7.heap.size, 3, none⟩ = some (.int .i64 a.b) ∧ W.cell? ⟨z7.heap.size, 4, none⟩ = some (.int .i64 a.m) ∧ W.cell? ⟨z7.heap.size, 5, none⟩ = some (.int .i64 a.c)) ∧ (W.cell? ⟨z11.heap.size, 0, none⟩ = some (.string a.n) ∧ W.cell? ⟨z11.heap.size, 1, none⟩ = some (.string a.d) ∧ W.cell? ⟨z11.heap.size, 2, none⟩ = some (.int .i64 a.t) ∧ W.cell? ⟨z11.heap.size, 3, none⟩ = some (.int .i64 a.b) ∧ W.cell? ⟨z11.heap.size, 4, none⟩ = some (.int .i64 a.m) ∧ W.cell? ⟨z11.heap.size, 5, none⟩ = some (.int .i64 a.c))) (first | exact K.out _ g | exact K.out _ ⟨g.os, g.tape, g.output, g.size, g.block⟩) (first | (go_at_call 29; (with_reducible refine (PA.out _ ?_).mono ?_); (first | exact (HRz.out.below g) | exact (HRz.out.below ⟨g.os, g.tape, g.output, g.size, g.block⟩)); (rintro e y ⟨rfl, k'⟩); (have g : Below z12.heap.size z12 y := below_up (by first | exact g | exact ⟨g.os, g.tape, g.output, g.size, g.block⟩) k')) | (go_at_call 29; (with_reducible refine (PB.out _ ?_).mono ?_); (first | exact (HRz.out.below g) | exact (HRz.out.below ⟨g.os, g.tape, g.output, g.size, g.block⟩)); (rintro e y ⟨rfl, k'⟩); (have g : Below z12.heap.size z12 y := below_up (by first | exact g | exact ⟨g.os, g.tape, g.output, g.size, g.block⟩) k')))
    all_goals (
      have PE := Lib.hid (below_up B0.out (below_up P12.out (show Below z12.heap.size z12 _ by first | exact g | exact ⟨g.os, g.tape, g.output, g.size, g.block⟩)))
      go_wp2
      go_ret
      first | exact ⟨rfl, PE.out⟩ | exact ⟨rfl, PE.out.os, PE.out.tape, PE.out.output, PE.out.size, PE.out.block⟩)
  · obtain ⟨eb, ⟨hs, hs2⟩, ⟨ht, ht2⟩⟩ := h
    have K := Lib.hid (show ∀ W, Below z12.heap.size z12 W → ((W.cell? ⟨z2.heap.size, 0, none⟩ = some (.string a.n) ∧ W.cell? ⟨z2.heap.size, 1, none⟩ = some (.string a.d) ∧ W.cell? ⟨z2.heap.size, 2, none⟩ = some (.int .i64 a.t) ∧ W.cell? ⟨z2.heap.size, 3, none⟩ = some (.int .i64 a.b) ∧ W.cell? ⟨z2.heap.size, 4, none⟩ = some (.int .i64 a.m) ∧ W.cell? ⟨z2.heap.size, 5, none⟩ = some (.int .i64 a.c)) ∧ (W.cell? ⟨z4.heap.size, 0, none⟩ = some (.string b.n) ∧ W.cell? ⟨z4.heap.size, 1, none⟩ = some (.string b.d) ∧ W.cell? ⟨z4.heap.size, 2, none⟩ = some (.int .i64 b.t) ∧ W.cell? ⟨z4.heap.size, 3, none⟩ = some (.int .i64 b.b) ∧ W.cell? ⟨z4.heap.size, 4, none⟩ = some (.int .i64 b.m) ∧ W.cell? ⟨z4.heap.size, 5, none⟩ = some (.int .i64 b.c)) ∧ (W.cell? ⟨z7.heap.size, 0, none⟩ = some (.string a.n) ∧ W.cell? ⟨z7.heap.size, 1, none⟩ = some (.string a.d) ∧ W.cell? ⟨z7.heap.size, 2, none⟩ = some (.int .i64 a.t) ∧ W.cell? ⟨z7.heap.size, 3, none⟩ = some (.int .i64 a.b) ∧ W.cell? ⟨z7.heap.size, 4, none⟩ = some (.int .i64 a.m) ∧ W.cell? ⟨z7.heap.size, 5, none⟩ = some (.int .i64 a.c)) ∧ (W.cell? ⟨z11.heap.size, 0, none⟩ = some (.string a.n) ∧ W.cell? ⟨z11.heap.size, 1, none⟩ = some (.string a.d) ∧ W.cell? ⟨z11.heap.size, 2, none⟩ = some (.int .i64 a.t) ∧ W.cell? ⟨z11.heap.size, 3, none⟩ = some (.int .i64 a.b) ∧ W.cell? ⟨z11.heap.size, 4, none⟩ = some (.int .i64 a.m) ∧ W.cell? ⟨z11.heap.size, 5, none⟩ = some (.int .i64 a.c))) from fun W b => ⟨(six_facts (E12.out W b).2.2.2.1).1, (six_facts (E12.out W b).2.2.1).1, (six_facts (E12.out W b).2.1).1, (six_facts (E12.out W b).1).1⟩)
    have HRz := Lib.hid (HR.out.below P12.out)
    have g := Below.refl z12.heap.size z12
    go_region_held3 (fun W => (W.cell? ⟨z2.heap.size, 0, none⟩ = some (.string a.n) ∧ W.cell? ⟨z2.heap.size, 1, none⟩ = some (.string a.d) ∧ W.cell? ⟨z2.heap.size, 2, none⟩ = some (.int .i64 a.t) ∧ W.cell? ⟨z2.heap.size, 3, none⟩ = some (.int .i64 a.b) ∧ W.cell? ⟨z2.heap.size, 4, none⟩ = some (.int .i64 a.m) ∧ W.cell? ⟨z2.heap.size, 5, none⟩ = some (.int .i64 a.c)) ∧ (W.cell? ⟨z4.heap.size, 0, none⟩ = some (.string b.n) ∧ W.cell? ⟨z4.heap.size, 1, none⟩ = some (.string b.d) ∧ W.cell? ⟨z4.heap.size, 2, none⟩ = some (.int .i64 b.t) ∧ W.cell? ⟨z4.heap.size, 3, none⟩ = some (.int .i64 b.b) ∧ W.cell? ⟨z4.heap.size, 4, none⟩ = some (.int .i64 b.m) ∧ W.cell? ⟨z4.heap.size, 5, none⟩ = some (.int .i64 b.c)) ∧ (W.cell? ⟨z7.heap.size, 0, none⟩ = some (.string a.n) ∧ W.cell? ⟨z7.heap.size, 1, none⟩ = some (.string a.d) ∧ W.cell? ⟨z7.heap.size, 2, none⟩ = some (.int .i64 a.t) ∧ W.cell? ⟨z7.heap.size, 3, none⟩ = some (.int .i64 a.b) ∧ W.cell? ⟨z7.heap.size, 4, none⟩ = some (.int .i64 a.m) ∧ W.cell? ⟨z7.heap.size, 5, none⟩ = some (.int .i64 a.c)) ∧ (W.cell? ⟨z11.heap.size, 0, none⟩ = some (.string a.n) ∧ W.cell? ⟨z11.heap.size, 1, none⟩ = some (.string a.d) ∧ W.cell? ⟨z11.heap.size, 2, none⟩ = some (.int .i64 a.t) ∧ W.cell? ⟨z11.heap.size, 3, none⟩ = some (.int .i64 a.b) ∧ W.cell? ⟨z11.heap.size, 4, none⟩ = some (.int .i64 a.m) ∧ W.cell? ⟨z11.heap.size, 5, none⟩ = some (.int .i64 a.c))) (first | exact K.out _ g | exact K.out _ ⟨g.os, g.tape, g.output, g.size, g.block⟩) (first | (go_at_call 29; (with_reducible refine (PA.out _ ?_).mono ?_); (first | exact (HRz.out.below g) | exact (HRz.out.below ⟨g.os, g.tape, g.output, g.size, g.block⟩)); (rintro e y ⟨rfl, k'⟩); (have g : Below z12.heap.size z12 y := below_up (by first | exact g | exact ⟨g.os, g.tape, g.output, g.size, g.block⟩) k')) | (go_at_call 29; (with_reducible refine (PB.out _ ?_).mono ?_); (first | exact (HRz.out.below g) | exact (HRz.out.below ⟨g.os, g.tape, g.output, g.size, g.block⟩)); (rintro e y ⟨rfl, k'⟩); (have g : Below z12.heap.size z12 y := below_up (by first | exact g | exact ⟨g.os, g.tape, g.output, g.size, g.block⟩) k')))
    all_goals (
      have PE := Lib.hid (below_up B0.out (below_up P12.out (show Below z12.heap.size z12 _ by first | exact g | exact ⟨g.os, g.tape, g.output, g.size, g.block⟩)))
      go_wp2
      go_ret
      first | exact ⟨rfl, PE.out⟩ | exact ⟨rfl, PE.out.os, PE.out.tape, PE.out.output, PE.out.size, PE.out.block⟩)
end Go.Proofs.YtcglcgphgahnpaaGreatDoor
