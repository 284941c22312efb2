/-
  RationalLowest: its walk.
-/
import Derived.Test.YtlcibnmcannapaaGreatDoorSaneQ
import Derived.Test.YtlcibnmcannapaaGreatDoorLongQ
namespace Go.Proofs.YtlcibnmcannapaaGreatDoor
open Go Go.Proofs Go.RowKit Go.Lib

theorem box_four (w : World) (x0 x1 x2 x3 : Int) : ∃ W0, w.alloc (.cells #[.int .i64 x0, .int .i64 x1, .int .i64 x2, .int .i64 x3] 24) = W0 ∧ Below w.heap.size w W0 ∧
    ∀ W, Below W0.heap.size W0 W → W.cell? ⟨w.heap.size, 0, none⟩ = some (.int .i64 x0) ∧ W.cell? ⟨w.heap.size, 1, none⟩ = some (.int .i64 x1) ∧ W.cell? ⟨w.heap.size, 2, none⟩ = some (.int .i64 x2) ∧ W.cell? ⟨w.heap.size, 3, none⟩ = some (.int .i64 x3) := by
  refine ⟨_, rfl, (Below.refl _ _).alloc (Nat.le_refl _) _, fun W hb => ?_⟩
  have e := (hb.block w.heap.size (by simp)).trans (heap_alloc_new w (.cells #[.int .i64 x0, .int .i64 x1, .int .i64 x2, .int .i64 x3] 24))
  exact ⟨by simp [World.cell?, e], by simp [World.cell?, e], by simp [World.cell?, e], by simp [World.cell?, e]⟩
theorem nT_zero : nT 0 = ⟨#[48]⟩ ∧ dT 0 = ⟨#[49]⟩ := by decide +kernel
theorem make_self {q : Rat} (h : FitsQ q) : makeB (nT q) (dT q) = true ∧ valQ (nT q) (dT q) = q := by
  have h0 : (q.den : Int) ≠ 0 := by have := q.den_pos; omega
  obtain ⟨h1, h2⟩ := make_texts h.1 h.2 h0
  exact ⟨h1, h2.trans (rat_self q)⟩
theorem low_fits {x k : Int} (hx : x.natAbs < 10 ^ 100) (hk : k.natAbs ≤ 1000000) : Fits (x * k) := by
  unfold Fits
  rw [Int.natAbs_mul]
  have h1 : x.natAbs * k.natAbs ≤ 10 ^ 100 * 10 ^ 6 := Nat.mul_le_mul (Nat.le_of_lt hx) hk
  have h2 : (10 : Nat) ^ 100 * 10 ^ 6 < 10 ^ 200 := by rw [← Nat.pow_add]; exact Nat.pow_lt_pow_right (by decide) (by decide)
  exact Nat.lt_of_le_of_lt h1 h2
theorem k_fits {k : Int} (hk : k.natAbs ≤ 1000000) : Fits k := by
  have := low_fits (x := 1) (k := k) (Nat.one_lt_pow (by decide) (by decide)) hk
  rwa [Int.one_mul] at this
theorem low_make {q : Rat} (h : LongQ q) {k : Int} (hk : k.natAbs ≤ 1000000) (h0 : k ≠ 0) : makeB (textI (q.num * k)) (textI ((q.den : Int) * k)) = true ∧ valQ (textI (q.num * k)) (textI ((q.den : Int) * k)) = q := by
  have hd : ((q.den : Int)).natAbs < 10 ^ 100 := by rw [Int.natAbs_natCast]; exact h.2
  have hz : (q.den : Int) * k ≠ 0 := Int.mul_ne_zero (by have := q.den_pos; omega) h0
  obtain ⟨h1, h2⟩ := make_texts (low_fits h.1 hk) (low_fits hd hk) hz
  refine ⟨h1, ?_⟩
  rw [h2, Rat.divInt_mul_right h0, rat_self]
theorem low_zero {k : Int} (hk : k.natAbs ≤ 1000000) (h0 : k ≠ 0) : makeB ⟨#[48]⟩ (textI k) = true ∧ valQ ⟨#[48]⟩ (textI k) = 0 := by
  have hz : Fits 0 := by unfold Fits; exact Nat.pos_of_ne_zero (by decide)
  have e : (⟨#[48]⟩ : ByteArray) = textI 0 := by decide +kernel
  obtain ⟨h1, h2⟩ := make_texts hz (k_fits hk) h0
  rw [e]
  exact ⟨h1, h2.trans (Rat.zero_divInt k)⟩
theorem cmp_same {q : Rat} (h : FitsQ q) : cmpQ (nT q) (dT q) (nT q) (dT q) = 0 := by
  obtain ⟨h1, h2⟩ := validQ_text h
  unfold cmpQ bothB
  rw [h1, h2]
  exact cmpR_self q
theorem print_size {q : Rat} (h : FitsQ q) : (nT q).size ≤ 1099511627776 ∧ (dT q).size ≤ 1099511627776 := by
  have := nT_size h
  have := dT_size h
  omega

set_option maxRecDepth 100000 in
set_option maxHeartbeats 16000000 in
theorem rationalLowest_walk (x0 x1 x2 x3 c : Int) (s : Bool) (a0 : -9223372036854775808 ≤ x0) (c0 : x0 ≤ 9223372036854775807) (a1 : -9223372036854775808 ≤ x1) (c1 : x1 ≤ 9223372036854775807) (a2 : -9223372036854775808 ≤ x2) (c2 : x2 ≤ 9223372036854775807) (a3 : -9223372036854775808 ≤ x3) (c3 : x3 ≤ 9223372036854775807) (d0 : -9223372036854775808 ≤ c) (d1 : c ≤ 9223372036854775807) (w : World) (hR : Ready w) :
    Calls Tryz.prog 9 #[.agg #[.int .i64 x0, .int .i64 x1, .int .i64 x2, .int .i64 x3], .int .i64 c, .bool s] w fun e w' => e = .returned (.bool true) ∧ Below w.heap.size w w' := by
  have hlong := fun W => longR_any x0 x1 x2 x3 a0 c0 a1 c1 a2 c2 a3 c3 W
  have hpick := fun W => pickL_any c 1000000 d0 d1 (by decide) (by decide) W
  have hr := pickI_range c (n := 1000000) (by decide)
  generalize pickI c 1000000 = y at *
  have q1 : IntKind.i64.wrap (1 + y) = 1 + y := IntWalk.i64_in _ (by omega)
  have q2 : IntKind.i64.wrap (-(1 + y)) = -(1 + y) := IntWalk.i64_in _ (by omega)
  have LONG := Lib.hid hlong; have PICK := Lib.hid hpick
  have SANE := Lib.hid sane_any; have IS := Lib.hid is_any
  obtain ⟨W0, hW0, b0, hcc⟩ := box_four w x0 x1 x2 x3
  have HW := Lib.hid hW0; have HC := Lib.hid hcc; have HB0 := Lib.hid b0
  have HR0 := Lib.hid (hR.below b0)
  clear hlong hpick hR a0 c0 a1 c1 a2 c2 a3 c3 d0 d1 hW0 hcc b0
  cases s with
  | false =>
    have hk : ((1 + y)).natAbs ≤ 1000000 ∧ (1 + y) ≠ 0 := by omega
    have hfrom := fun W => fromR_any (1 + y) (by omega) (by omega) W
    have FROM := Lib.hid hfrom; have HK := Lib.hid hk
    clear hfrom hk hr
    have P0 := Lib.hid (Below.refl W0.heap.size W0)
    go_enter Tryz.func9, Tryz.ntmps9
    go_wp2_with (rw [HW.out])
    refine (SANE.out _ (HR0.out.below P0.out)).mono ?_
    rintro e z1 ⟨rfl, b1⟩
    have B1 := Lib.hid b1
    have P1 := Lib.hid (below_up P0.out b1)
    clear b1
    obtain ⟨m0, m1, m2, m3⟩ := HC.out _ P1.out
    go_wp2_with fail
    refine (LONG.out _).mono ?_
    rintro e z2 ⟨q, hq, rfl, b2⟩
    have B2 := Lib.hid b2
    have P2 := Lib.hid (below_up P1.out b2)
    clear b2
    clear m0 m1 m2 m3
    have hf := hq.fits
    have hk := HK.out
    have f1 := low_fits hq.1 hk.1
    have f2 := low_fits (x := (q.den : Int)) (by rw [Int.natAbs_natCast]; exact hq.2) hk.1
    have fk := k_fits hk.1
    obtain ⟨z1', z2'⟩ := print_size hf
    have e1 := op_texts (· * ·) hf.1 fk
    have e2 := op_texts (· * ·) hf.2 fk
    have cm1 := fun W => mulR_any (nT q) (textI (1 + y)) z1' (le_of_fits fk) W
    have cm2 := fun W => mulR_any (dT q) (textI (1 + y)) z2' (le_of_fits fk) W
    rw [show nT q = textI q.num from rfl, e1.1, e1.2, (res_yes ((fitB_iff _).2 f1)).1, (res_yes ((fitB_iff _).2 f1)).2, show textI q.num = nT q from rfl] at cm1
    rw [show dT q = textI (q.den : Int) from rfl, e2.1, e2.2, (res_yes ((fitB_iff _).2 f2)).1, (res_yes ((fitB_iff _).2 f2)).2, show textI (q.den : Int) = dT q from rfl] at cm2
    have ma := fun W (h : Ready W) => make_q (textI (q.num * (1 + y))) (textI ((q.den : Int) * (1 + y))) (le_of_fits f1) (le_of_fits f2) W h
    rw [(low_make hq hk.1 hk.2).1, (low_make hq hk.1 hk.2).2, show outN true q = nT q from rfl, show outD true q = dT q from rfl, show outE true = 0 from rfl] at ma
    have mb := fun W (h : Ready W) => make_q (nT q) (dT q) z1' z2' W h
    rw [(make_self hf).1, (make_self hf).2, show outN true q = nT q from rfl, show outD true q = dT q from rfl, show outE true = 0 from rfl] at mb
    have mc := fun W (h : Ready W) => make_q ⟨#[48]⟩ (textI (1 + y)) (by decide) (le_of_fits fk) W h
    rw [(low_zero hk.1 hk.2).1, (low_zero hk.1 hk.2).2, show outN true 0 = ⟨#[48]⟩ from nT_zero.1, show outD true 0 = ⟨#[49]⟩ from nT_zero.2, show outE true = 0 from rfl] at mc
    have va := fun W (h : Ready W) => valid_q (nT q) (dT q) z1' z2' W h
    rw [(validQ_text hf).1] at va
    have vc := fun W (h : Ready W) => cmp_q (nT q) (dT q) (nT q) (dT q) z1' z2' z1' z2' W h
    rw [cmp_same hf] at vc
    have vp := fun W (h : Ready W) => print_q (nT q) (dT q) z1' z2' W h
    generalize printB (nT q) (dT q) = PT at *
    generalize nT q = N at *
    generalize dT q = D at *
    generalize textI (q.num * (1 + y)) = X at *
    generalize textI ((q.den : Int) * (1 + y)) = Y at *
    have CM1 := Lib.hid cm1; have CM2 := Lib.hid cm2; have MA := Lib.hid ma; have MB := Lib.hid mb; have MC := Lib.hid mc; have VA := Lib.hid va; have VC := Lib.hid vc; have VP := Lib.hid vp
    clear cm1 cm2 ma mb mc va vc vp hq hf hk f1 f2 fk z1' z2' e1 e2
    obtain ⟨z3, hz3, b3, f3⟩ := box_one z2 N D
    have V3 := Lib.hid hz3; have F3 := Lib.hid f3
    clear hz3 f3
    have B3 := Lib.hid b3
    have P3 := Lib.hid (below_up P2.out b3)
    clear b3
    go_wp2_with (rw [V3.out])
    refine (PICK.out _).mono ?_
    rintro e zq103 ⟨rfl, rfl⟩
    go_wp2_with fail
    refine (FROM.out _).mono ?_
    rintro e z4 ⟨rfl, b4⟩
    have B4 := Lib.hid b4
    have P4 := Lib.hid (below_up P3.out b4)
    clear b4
    generalize textI (1 + y) = KT at *
    obtain ⟨qr0, qr1, qr2, qr3⟩ := F3.out z4 (below_up B4.out (Below.refl _ _))
    go_wp2_with fail
    refine (CM1.out _).mono ?_
    rintro e z5 ⟨rfl, b5⟩
    have B5 := Lib.hid b5
    have P5 := Lib.hid (below_up P4.out b5)
    clear b5
    clear qr0 qr1 qr2 qr3
    obtain ⟨qr0, qr1, qr2, qr3⟩ := F3.out z5 (below_up B4.out (below_up B5.out (Below.refl _ _)))
    go_wp2_with fail
    refine (CM2.out _).mono ?_
    rintro e z6 ⟨rfl, b6⟩
    have B6 := Lib.hid b6
    have P6 := Lib.hid (below_up P5.out b6)
    clear b6
    clear qr0 qr1 qr2 qr3
    go_wp2_with fail
    refine (MA.out _ (HR0.out.below P6.out)).mono ?_
    rintro e z7 ⟨rfl, b7⟩
    have B7 := Lib.hid b7
    have P7 := Lib.hid (below_up P6.out b7)
    clear b7
    obtain ⟨z8, hz8, b8, f8⟩ := box_one z7 N D
    have V8 := Lib.hid hz8; have F8 := Lib.hid f8
    clear hz8 f8
    have B8 := Lib.hid b8
    have P8 := Lib.hid (below_up P7.out b8)
    clear b8
    obtain ⟨qr0, qr1, qr2, qr3⟩ := F3.out z8 (below_up B4.out (below_up B5.out (below_up B6.out (below_up B7.out (below_up B8.out (Below.refl _ _))))))
    go_wp2_with (rw [V8.out])
    refine (MB.out _ (HR0.out.below P8.out)).mono ?_
    rintro e z9 ⟨rfl, b9⟩
    have B9 := Lib.hid b9
    have P9 := Lib.hid (below_up P8.out b9)
    clear b9
    clear qr0 qr1 qr2 qr3
    obtain ⟨z10, hz10, b10, f10⟩ := box_one z9 N D
    have V10 := Lib.hid hz10; have F10 := Lib.hid f10
    clear hz10 f10
    have B10 := Lib.hid b10
    have P10 := Lib.hid (below_up P9.out b10)
    clear b10
    go_wp2_with (rw [V10.out])
    refine (MC.out _ (HR0.out.below P10.out)).mono ?_
    rintro e z11 ⟨rfl, b11⟩
    have B11 := Lib.hid b11
    have P11 := Lib.hid (below_up P10.out b11)
    clear b11
    obtain ⟨z12, hz12, b12, f12⟩ := box_one z11 ⟨#[48]⟩ ⟨#[49]⟩
    have V12 := Lib.hid hz12; have F12 := Lib.hid f12
    clear hz12 f12
    have B12 := Lib.hid b12
    have P12 := Lib.hid (below_up P11.out b12)
    clear b12
    go_wp2_with (rw [V12.out])
    have K := Lib.hid (show ∀ W, Below z12.heap.size z12 W → ((W.cell? ⟨z2.heap.size, 0, none⟩ = some (.string N) ∧ W.cell? ⟨z2.heap.size, 1, none⟩ = some (.string D)) ∧ (W.cell? ⟨z7.heap.size, 0, none⟩ = some (.string N) ∧ W.cell? ⟨z7.heap.size, 1, none⟩ = some (.string D)) ∧ (W.cell? ⟨z9.heap.size, 0, none⟩ = some (.string N) ∧ W.cell? ⟨z9.heap.size, 1, none⟩ = some (.string D)) ∧ (W.cell? ⟨z11.heap.size, 0, none⟩ = some (.string ⟨#[48]⟩) ∧ W.cell? ⟨z11.heap.size, 1, none⟩ = some (.string ⟨#[49]⟩))) from fun W b => ⟨⟨(F3.out W (below_up B4.out (below_up B5.out (below_up B6.out (below_up B7.out (below_up B8.out (below_up B9.out (below_up B10.out (below_up B11.out (below_up B12.out b)))))))))).1, (F3.out W (below_up B4.out (below_up B5.out (below_up B6.out (below_up B7.out (below_up B8.out (below_up B9.out (below_up B10.out (below_up B11.out (below_up B12.out b)))))))))).2.1⟩, ⟨(F8.out W (below_up B9.out (below_up B10.out (below_up B11.out (below_up B12.out b))))).1, (F8.out W (below_up B9.out (below_up B10.out (below_up B11.out (below_up B12.out b))))).2.1⟩, ⟨(F10.out W (below_up B11.out (below_up B12.out b))).1, (F10.out W (below_up B11.out (below_up B12.out b))).2.1⟩, ⟨(F12.out W b).1, (F12.out W b).2.1⟩⟩)
    have HRz := Lib.hid (HR0.out.below P12.out)
    have g := Below.refl z12.heap.size z12
    go_region_held3 (fun W => (W.cell? ⟨z2.heap.size, 0, none⟩ = some (.string N) ∧ W.cell? ⟨z2.heap.size, 1, none⟩ = some (.string D)) ∧ (W.cell? ⟨z7.heap.size, 0, none⟩ = some (.string N) ∧ W.cell? ⟨z7.heap.size, 1, none⟩ = some (.string D)) ∧ (W.cell? ⟨z9.heap.size, 0, none⟩ = some (.string N) ∧ W.cell? ⟨z9.heap.size, 1, none⟩ = some (.string D)) ∧ (W.cell? ⟨z11.heap.size, 0, none⟩ = some (.string ⟨#[48]⟩) ∧ W.cell? ⟨z11.heap.size, 1, none⟩ = some (.string ⟨#[49]⟩))) (first | exact K.out _ g | exact K.out _ ⟨g.os, g.tape, g.output, g.size, g.block⟩) (first | (go_at_call 29; (with_reducible refine (VA.out _ ?_).mono ?_); (first | exact HRz.out.below g | exact HRz.out.below ⟨g.os, g.tape, g.output, g.size, g.block⟩); (rintro e y ⟨rfl, k'⟩); (have g : Below z12.heap.size z12 y := below_up (by first | exact g | exact ⟨g.os, g.tape, g.output, g.size, g.block⟩) k')) | (go_at_call 20; (with_reducible refine (VC.out _ ?_).mono ?_); (first | exact HRz.out.below g | exact HRz.out.below ⟨g.os, g.tape, g.output, g.size, g.block⟩); (rintro e y ⟨rfl, k'⟩); (have g : Below z12.heap.size z12 y := below_up (by first | exact g | exact ⟨g.os, g.tape, g.output, g.size, g.block⟩) k')) | (go_at_call 41; (with_reducible refine (IS.out _ _ _).mono ?_); (rintro e y ⟨rfl, k'⟩); (have g : Below z12.heap.size z12 y := below_up (by first | exact g | exact ⟨g.os, g.tape, g.output, g.size, g.block⟩) k')) | (go_at_call 33; (with_reducible refine (VP.out _ ?_).mono ?_); (first | exact HRz.out.below g | exact HRz.out.below ⟨g.os, g.tape, g.output, g.size, g.block⟩); (rintro e y ⟨rfl, k'⟩); (have g : Below z12.heap.size z12 y := below_up (by first | exact g | exact ⟨g.os, g.tape, g.output, g.size, g.block⟩) k')))
    all_goals (
      have PE := Lib.hid (below_up P12.out (show Below z12.heap.size z12 _ by first | exact g | exact ⟨g.os, g.tape, g.output, g.size, g.block⟩))
      go_wp2
      go_ret
      first | exact ⟨rfl, below_up HB0.out PE.out⟩ | exact ⟨rfl, below_up HB0.out ⟨PE.out.os, PE.out.tape, PE.out.output, PE.out.size, PE.out.block⟩⟩)
  | true =>
    have hk : ((-(1 + y))).natAbs ≤ 1000000 ∧ (-(1 + y)) ≠ 0 := by omega
    have hfrom := fun W => fromR_any (-(1 + y)) (by omega) (by omega) W
    have FROM := Lib.hid hfrom; have HK := Lib.hid hk
    clear hfrom hk hr
    have P0 := Lib.hid (Below.refl W0.heap.size W0)
    go_enter Tryz.func9, Tryz.ntmps9
    go_wp2_with (rw [HW.out])
    refine (SANE.out _ (HR0.out.below P0.out)).mono ?_
    rintro e z1 ⟨rfl, b1⟩
    have B1 := Lib.hid b1
    have P1 := Lib.hid (below_up P0.out b1)
    clear b1
    obtain ⟨m0, m1, m2, m3⟩ := HC.out _ P1.out
    go_wp2_with fail
    refine (LONG.out _).mono ?_
    rintro e z2 ⟨q, hq, rfl, b2⟩
    have B2 := Lib.hid b2
    have P2 := Lib.hid (below_up P1.out b2)
    clear b2
    clear m0 m1 m2 m3
    have hf := hq.fits
    have hk := HK.out
    have f1 := low_fits hq.1 hk.1
    have f2 := low_fits (x := (q.den : Int)) (by rw [Int.natAbs_natCast]; exact hq.2) hk.1
    have fk := k_fits hk.1
    obtain ⟨z1', z2'⟩ := print_size hf
    have e1 := op_texts (· * ·) hf.1 fk
    have e2 := op_texts (· * ·) hf.2 fk
    have cm1 := fun W => mulR_any (nT q) (textI (-(1 + y))) z1' (le_of_fits fk) W
    have cm2 := fun W => mulR_any (dT q) (textI (-(1 + y))) z2' (le_of_fits fk) W
    rw [show nT q = textI q.num from rfl, e1.1, e1.2, (res_yes ((fitB_iff _).2 f1)).1, (res_yes ((fitB_iff _).2 f1)).2, show textI q.num = nT q from rfl] at cm1
    rw [show dT q = textI (q.den : Int) from rfl, e2.1, e2.2, (res_yes ((fitB_iff _).2 f2)).1, (res_yes ((fitB_iff _).2 f2)).2, show textI (q.den : Int) = dT q from rfl] at cm2
    have ma := fun W (h : Ready W) => make_q (textI (q.num * (-(1 + y)))) (textI ((q.den : Int) * (-(1 + y)))) (le_of_fits f1) (le_of_fits f2) W h
    rw [(low_make hq hk.1 hk.2).1, (low_make hq hk.1 hk.2).2, show outN true q = nT q from rfl, show outD true q = dT q from rfl, show outE true = 0 from rfl] at ma
    have mb := fun W (h : Ready W) => make_q (nT q) (dT q) z1' z2' W h
    rw [(make_self hf).1, (make_self hf).2, show outN true q = nT q from rfl, show outD true q = dT q from rfl, show outE true = 0 from rfl] at mb
    have mc := fun W (h : Ready W) => make_q ⟨#[48]⟩ (textI (-(1 + y))) (by decide) (le_of_fits fk) W h
    rw [(low_zero hk.1 hk.2).1, (low_zero hk.1 hk.2).2, show outN true 0 = ⟨#[48]⟩ from nT_zero.1, show outD true 0 = ⟨#[49]⟩ from nT_zero.2, show outE true = 0 from rfl] at mc
    have va := fun W (h : Ready W) => valid_q (nT q) (dT q) z1' z2' W h
    rw [(validQ_text hf).1] at va
    have vc := fun W (h : Ready W) => cmp_q (nT q) (dT q) (nT q) (dT q) z1' z2' z1' z2' W h
    rw [cmp_same hf] at vc
    have vp := fun W (h : Ready W) => print_q (nT q) (dT q) z1' z2' W h
    generalize printB (nT q) (dT q) = PT at *
    generalize nT q = N at *
    generalize dT q = D at *
    generalize textI (q.num * (-(1 + y))) = X at *
    generalize textI ((q.den : Int) * (-(1 + y))) = Y at *
    have CM1 := Lib.hid cm1; have CM2 := Lib.hid cm2; have MA := Lib.hid ma; have MB := Lib.hid mb; have MC := Lib.hid mc; have VA := Lib.hid va; have VC := Lib.hid vc; have VP := Lib.hid vp
    clear cm1 cm2 ma mb mc va vc vp hq hf hk f1 f2 fk z1' z2' e1 e2
    obtain ⟨z3, hz3, b3, f3⟩ := box_one z2 N D
    have V3 := Lib.hid hz3; have F3 := Lib.hid f3
    clear hz3 f3
    have B3 := Lib.hid b3
    have P3 := Lib.hid (below_up P2.out b3)
    clear b3
    go_wp2_with (rw [V3.out])
    refine (PICK.out _).mono ?_
    rintro e zq103 ⟨rfl, rfl⟩
    go_wp2_with fail
    refine (FROM.out _).mono ?_
    rintro e z4 ⟨rfl, b4⟩
    have B4 := Lib.hid b4
    have P4 := Lib.hid (below_up P3.out b4)
    clear b4
    generalize textI (-(1 + y)) = KT at *
    obtain ⟨qr0, qr1, qr2, qr3⟩ := F3.out z4 (below_up B4.out (Below.refl _ _))
    go_wp2_with fail
    refine (CM1.out _).mono ?_
    rintro e z5 ⟨rfl, b5⟩
    have B5 := Lib.hid b5
    have P5 := Lib.hid (below_up P4.out b5)
    clear b5
    clear qr0 qr1 qr2 qr3
    obtain ⟨qr0, qr1, qr2, qr3⟩ := F3.out z5 (below_up B4.out (below_up B5.out (Below.refl _ _)))
    go_wp2_with fail
    refine (CM2.out _).mono ?_
    rintro e z6 ⟨rfl, b6⟩
    have B6 := Lib.hid b6
    have P6 := Lib.hid (below_up P5.out b6)
    clear b6
    clear qr0 qr1 qr2 qr3
    go_wp2_with fail
    refine (MA.out _ (HR0.out.below P6.out)).mono ?_
    rintro e z7 ⟨rfl, b7⟩
    have B7 := Lib.hid b7
    have P7 := Lib.hid (below_up P6.out b7)
    clear b7
    obtain ⟨z8, hz8, b8, f8⟩ := box_one z7 N D
    have V8 := Lib.hid hz8; have F8 := Lib.hid f8
    clear hz8 f8
    have B8 := Lib.hid b8
    have P8 := Lib.hid (below_up P7.out b8)
    clear b8
    obtain ⟨qr0, qr1, qr2, qr3⟩ := F3.out z8 (below_up B4.out (below_up B5.out (below_up B6.out (below_up B7.out (below_up B8.out (Below.refl _ _))))))
    go_wp2_with (rw [V8.out])
    refine (MB.out _ (HR0.out.below P8.out)).mono ?_
    rintro e z9 ⟨rfl, b9⟩
    have B9 := Lib.hid b9
    have P9 := Lib.hid (below_up P8.out b9)
    clear b9
    clear qr0 qr1 qr2 qr3
    obtain ⟨z10, hz10, b10, f10⟩ := box_one z9 N D
    have V10 := Lib.hid hz10; have F10 := Lib.hid f10
    clear hz10 f10
    have B10 := Lib.hid b10
    have P10 := Lib.hid (below_up P9.out b10)
    clear b10
    go_wp2_with (rw [V10.out])
    refine (MC.out _ (HR0.out.below P10.out)).mono ?_
    rintro e z11 ⟨rfl, b11⟩
    have B11 := Lib.hid b11
    have P11 := Lib.hid (below_up P10.out b11)
    clear b11
    obtain ⟨z12, hz12, b12, f12⟩ := box_one z11 ⟨#[48]⟩ ⟨#[49]⟩
    have V12 := Lib.hid hz12; have F12 := Lib.hid f12
    clear hz12 f12
    have B12 := Lib.hid b12
    have P12 := Lib.hid (below_up P11.out b12)
    clear b12
    go_wp2_with (rw [V12.out])
    have K := Lib.hid (show ∀ W, Below z12.heap.size z12 W → ((W.cell? ⟨z2.heap.size, 0, none⟩ = some (.string N) ∧ W.cell? ⟨z2.heap.size, 1, none⟩ = some (.string D)) ∧ (W.cell? ⟨z7.heap.size, 0, none⟩ = some (.string N) ∧ W.cell? ⟨z7.heap.size, 1, none⟩ = some (.string D)) ∧ (W.cell? ⟨z9.heap.size, 0, none⟩ = some (.string N) ∧ W.cell? ⟨z9.heap.size, 1, none⟩ = some (.string D)) ∧ (W.cell? ⟨z11.heap.size, 0, none⟩ = some (.string ⟨#[48]⟩) ∧ W.cell? ⟨z11.heap.size, 1, none⟩ = some (.string ⟨#[49]⟩))) from fun W b => ⟨⟨(F3.out W (below_up B4.out (below_up B5.out (below_up B6.out (below_up B7.out (below_up B8.out (below_up B9.out (below_up B10.out (below_up B11.out (below_up B12.out b)))))))))).1, (F3.out W (below_up B4.out (below_up B5.out (below_up B6.out (below_up B7.out (below_up B8.out (below_up B9.out (below_up B10.out (below_up B11.out (below_up B12.out b)))))))))).2.1⟩, ⟨(F8.out W (below_up B9.out (below_up B10.out (below_up B11.out (below_up B12.out b))))).1, (F8.out W (below_up B9.out (below_up B10.out (below_up B11.out (below_up B12.out b))))).2.1⟩, ⟨(F10.out W (below_up B11.out (below_up B12.out b))).1, (F10.out W (below_up B11.out (below_up B12.out b))).2.1⟩, ⟨(F12.out W b).1, (F12.out W b).2.1⟩⟩)
    have HRz := Lib.hid (HR0.out.below P12.out)
    have g := Below.refl z12.heap.size z12
    go_region_held3 (fun W => (W.cell? ⟨z2.heap.size, 0, none⟩ = some (.string N) ∧ W.cell? ⟨z2.heap.size, 1, none⟩ = some (.string D)) ∧ (W.cell? ⟨z7.heap.size, 0, none⟩ = some (.string N) ∧ W.cell? ⟨z7.heap.size, 1, none⟩ = some (.string D)) ∧ (W.cell? ⟨z9.heap.size, 0, none⟩ = some (.string N) ∧ W.cell? ⟨z9.heap.size, 1, none⟩ = some (.string D)) ∧ (W.cell? ⟨z11.heap.size, 0, none⟩ = some (.string ⟨#[48]⟩) ∧ W.cell? ⟨z11.heap.size, 1, none⟩ = some (.string ⟨#[49]⟩))) (first | exact K.out _ g | exact K.out _ ⟨g.os, g.tape, g.output, g.size, g.block⟩) (first | (go_at_call 29; (with_reducible refine (VA.out _ ?_).mono ?_); (first | exact HRz.out.below g | exact HRz.out.below ⟨g.os, g.tape, g.output, g.size, g.block⟩); (rintro e y ⟨rfl, k'⟩); (have g : Below z12.heap.size z12 y := below_up (by first | exact g | exact ⟨g.os, g.tape, g.output, g.size, g.block⟩) k')) | (go_at_call 20; (with_reducible refine (VC.out _ ?_).mono ?_); (first | exact HRz.out.below g | exact HRz.out.below ⟨g.os, g.tape, g.output, g.size, g.block⟩); (rintro e y ⟨rfl, k'⟩); (have g : Below z12.heap.size z12 y := below_up (by first | exact g | exact ⟨g.os, g.tape, g.output, g.size, g.block⟩) k')) | (go_at_call 41; (with_reducible refine (IS.out _ _ _).mono ?_); (rintro e y ⟨rfl, k'⟩); (have g : Below z12.heap.size z12 y := below_up (by first | exact g | exact ⟨g.os, g.tape, g.output, g.size, g.block⟩) k')) | (go_at_call 33; (with_reducible refine (VP.out _ ?_).mono ?_); (first | exact HRz.out.below g | exact HRz.out.below ⟨g.os, g.tape, g.output, g.size, g.block⟩); (rintro e y ⟨rfl, k'⟩); (have g : Below z12.heap.size z12 y := below_up (by first | exact g | exact ⟨g.os, g.tape, g.output, g.size, g.block⟩) k')))
    all_goals (
      have PE := Lib.hid (below_up P12.out (show Below z12.heap.size z12 _ by first | exact g | exact ⟨g.os, g.tape, g.output, g.size, g.block⟩))
      go_wp2
      go_ret
      first | exact ⟨rfl, below_up HB0.out PE.out⟩ | exact ⟨rfl, below_up HB0.out ⟨PE.out.os, PE.out.tape, PE.out.output, PE.out.size, PE.out.block⟩⟩)
end Go.Proofs.YtlcibnmcannapaaGreatDoor
