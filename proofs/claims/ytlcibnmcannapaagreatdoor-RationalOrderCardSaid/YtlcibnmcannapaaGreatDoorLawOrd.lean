/-
  RationalOrder: its walk.
-/
import Derived.Test.YtlcibnmcannapaaGreatDoorSaneQ
import Derived.Test.YtlcibnmcannapaaGreatDoorOrdQ
import Derived.Test.YtlcibnmcannapaaGreatDoorLongQ
import Derived.Test.YtlcibnmcannapaaGreatDoorSmallQ
namespace Go.Proofs.YtlcibnmcannapaaGreatDoor
open Go Go.Proofs Go.RowKit Go.Lib

theorem bytes_eq {a b : ByteArray} (h : a.toList = b.toList) : a = b := by
  rw [ByteArray.toList_eq, ByteArray.toList_eq] at h
  exact ByteArray.ext (Array.toList_inj.1 h)
theorem rat_ltO {W : World} {B : Nat} {n d : ByteArray} (h : RatAt W B n d) : B < W.heap.size := World.block_lt_of_cell? W ⟨B, 0, none⟩ h.1
theorem rat_set_farO {W : World} {A B : Nat} {n d x y : ByteArray} (hne : A ≠ B) (h : RatAt W B n d) : RatAt ((W.setCell ⟨A, 0, none⟩ (.string x)).setCell ⟨A, 1, none⟩ (.string y)) B n d := ratAt_far hne (ratAt_far hne h)
theorem below_setO {w W : World} {A : Nat} {x y : ByteArray} (hA : w.heap.size ≤ A) (h : Below w.heap.size w W) : Below w.heap.size w ((W.setCell ⟨A, 0, none⟩ (.string x)).setCell ⟨A, 1, none⟩ (.string y)) :=
  (h.setCell (p := ⟨A, 0, none⟩) hA _).setCell (p := ⟨A, 1, none⟩) hA _
theorem outE_yes {b : Bool} (h : b = true) : outE b = 0 := by subst h; rfl
theorem outE_no {b : Bool} (h : b = false) : outE b = 40 := by subst h; rfl
theorem box_order (w : World) (x0 x1 x2 x3 y0 y1 y2 y3 z0 z1 z2 z3 s0 s1 : Int) : ∃ W0, (((w.alloc (.cells #[.int .i64 x0, .int .i64 x1, .int .i64 x2, .int .i64 x3] 24)).alloc (.cells #[.int .i64 y0, .int .i64 y1, .int .i64 y2, .int .i64 y3] 24)).alloc (.cells #[.int .i64 z0, .int .i64 z1, .int .i64 z2, .int .i64 z3] 24)).alloc (.cells #[.int .i64 s0, .int .i64 s1] 25) = W0 ∧ Below w.heap.size w W0 ∧
    ∀ W, Below W0.heap.size W0 W →
      (W.cell? ⟨w.heap.size, 0, none⟩ = some (.int .i64 x0) ∧ W.cell? ⟨w.heap.size, 1, none⟩ = some (.int .i64 x1) ∧ W.cell? ⟨w.heap.size, 2, none⟩ = some (.int .i64 x2) ∧ W.cell? ⟨w.heap.size, 3, none⟩ = some (.int .i64 x3)) ∧
      (W.cell? ⟨w.heap.size + 1, 0, none⟩ = some (.int .i64 y0) ∧ W.cell? ⟨w.heap.size + 1, 1, none⟩ = some (.int .i64 y1) ∧ W.cell? ⟨w.heap.size + 1, 2, none⟩ = some (.int .i64 y2) ∧ W.cell? ⟨w.heap.size + 1, 3, none⟩ = some (.int .i64 y3)) ∧
      (W.cell? ⟨w.heap.size + 1 + 1, 0, none⟩ = some (.int .i64 z0) ∧ W.cell? ⟨w.heap.size + 1 + 1, 1, none⟩ = some (.int .i64 z1) ∧ W.cell? ⟨w.heap.size + 1 + 1, 2, none⟩ = some (.int .i64 z2) ∧ W.cell? ⟨w.heap.size + 1 + 1, 3, none⟩ = some (.int .i64 z3)) ∧
      (W.cell? ⟨w.heap.size + 1 + 1 + 1, 0, none⟩ = some (.int .i64 s0) ∧ W.cell? ⟨w.heap.size + 1 + 1 + 1, 1, none⟩ = some (.int .i64 s1)) := by
  obtain ⟨W1, h1⟩ : ∃ W, w.alloc (.cells #[.int .i64 x0, .int .i64 x1, .int .i64 x2, .int .i64 x3] 24) = W := ⟨_, rfl⟩
  obtain ⟨W2, h2⟩ : ∃ W, W1.alloc (.cells #[.int .i64 y0, .int .i64 y1, .int .i64 y2, .int .i64 y3] 24) = W := ⟨_, rfl⟩
  obtain ⟨W3, h3⟩ : ∃ W, W2.alloc (.cells #[.int .i64 z0, .int .i64 z1, .int .i64 z2, .int .i64 z3] 24) = W := ⟨_, rfl⟩
  obtain ⟨W4, h4⟩ : ∃ W, W3.alloc (.cells #[.int .i64 s0, .int .i64 s1] 25) = W := ⟨_, rfl⟩
  have k1 := heap_alloc_new w (.cells #[.int .i64 x0, .int .i64 x1, .int .i64 x2, .int .i64 x3] 24)
  have k2 := heap_alloc_new W1 (.cells #[.int .i64 y0, .int .i64 y1, .int .i64 y2, .int .i64 y3] 24)
  have k3 := heap_alloc_new W2 (.cells #[.int .i64 z0, .int .i64 z1, .int .i64 z2, .int .i64 z3] 24)
  have k4 := heap_alloc_new W3 (.cells #[.int .i64 s0, .int .i64 s1] 25)
  have u1 : W1.heap.size = w.heap.size + 1 := by rw [← h1]; simp
  have u2 : W2.heap.size = w.heap.size + 1 + 1 := by rw [← h2]; simp [u1]
  have u3 : W3.heap.size = w.heap.size + 1 + 1 + 1 := by rw [← h3]; simp [u2]
  have u4 : W4.heap.size = w.heap.size + 1 + 1 + 1 + 1 := by rw [← h4]; simp [u3]
  rw [h1] at k1
  rw [h2, u1] at k2
  rw [h3, u2] at k3
  rw [h4, u3] at k4
  have b1 : Below w.heap.size w W1 := by rw [← h1]; exact (Below.refl _ _).alloc (Nat.le_refl _) _
  have b2 : Below W1.heap.size W1 W2 := by rw [← h2]; exact (Below.refl _ _).alloc (Nat.le_refl _) _
  have b3 : Below W2.heap.size W2 W3 := by rw [← h3]; exact (Below.refl _ _).alloc (Nat.le_refl _) _
  have b4 : Below W3.heap.size W3 W4 := by rw [← h4]; exact (Below.refl _ _).alloc (Nat.le_refl _) _
  refine ⟨W4, by rw [h1, h2, h3, h4], below_up b1 (below_up b2 (below_up b3 b4)), fun W hb => ?_⟩
  have e1 := ((below_up b2 (below_up b3 (below_up b4 hb))).block w.heap.size (by omega)).trans k1
  have e2 := ((below_up b3 (below_up b4 hb)).block (w.heap.size + 1) (by omega)).trans k2
  have e3 := ((below_up b4 hb).block (w.heap.size + 1 + 1) (by omega)).trans k3
  have e4 := (hb.block (w.heap.size + 1 + 1 + 1) (by omega)).trans k4
  exact ⟨⟨by simp [World.cell?, e1], by simp [World.cell?, e1], by simp [World.cell?, e1], by simp [World.cell?, e1]⟩, ⟨by simp [World.cell?, e2], by simp [World.cell?, e2], by simp [World.cell?, e2], by simp [World.cell?, e2]⟩, ⟨by simp [World.cell?, e3], by simp [World.cell?, e3], by simp [World.cell?, e3], by simp [World.cell?, e3]⟩, by simp [World.cell?, e4], by simp [World.cell?, e4]⟩

set_option maxRecDepth 100000 in
set_option maxHeartbeats 16000000 in
theorem rationalOrder_walk (x0 x1 x2 x3 y0 y1 y2 y3 z0 z1 z2 z3 s0 s1 : Int) (ax0 : -9223372036854775808 ≤ x0) (cx0 : x0 ≤ 9223372036854775807) (ax1 : -9223372036854775808 ≤ x1) (cx1 : x1 ≤ 9223372036854775807) (ax2 : -9223372036854775808 ≤ x2) (cx2 : x2 ≤ 9223372036854775807) (ax3 : -9223372036854775808 ≤ x3) (cx3 : x3 ≤ 9223372036854775807) (ay0 : -9223372036854775808 ≤ y0) (cy0 : y0 ≤ 9223372036854775807) (ay1 : -9223372036854775808 ≤ y1) (cy1 : y1 ≤ 9223372036854775807) (ay2 : -9223372036854775808 ≤ y2) (cy2 : y2 ≤ 9223372036854775807) (ay3 : -9223372036854775808 ≤ y3) (cy3 : y3 ≤ 9223372036854775807) (az0 : -9223372036854775808 ≤ z0) (cz0 : z0 ≤ 9223372036854775807) (az1 : -9223372036854775808 ≤ z1) (cz1 : z1 ≤ 9223372036854775807) (az2 : -9223372036854775808 ≤ z2) (cz2 : z2 ≤ 9223372036854775807) (az3 : -9223372036854775808 ≤ z3) (cz3 : z3 ≤ 9223372036854775807) (as0 : -9223372036854775808 ≤ s0) (cs0 : s0 ≤ 9223372036854775807) (as1 : -9223372036854775808 ≤ s1) (cs1 : s1 ≤ 9223372036854775807) (w : World) (hR : Ready w) :
    Calls Tryz.prog 7 #[.agg #[.int .i64 x0, .int .i64 x1, .int .i64 x2, .int .i64 x3], .agg #[.int .i64 y0, .int .i64 y1, .int .i64 y2, .int .i64 y3], .agg #[.int .i64 z0, .int .i64 z1, .int .i64 z2, .int .i64 z3], .agg #[.int .i64 s0, .int .i64 s1]] w fun e w' => e = .returned (.bool true) ∧ Below w.heap.size w w' := by
  have hlX := fun W => longR_any x0 x1 x2 x3 ax0 cx0 ax1 cx1 ax2 cx2 ax3 cx3 W
  have hlY := fun W => longR_any y0 y1 y2 y3 ay0 cy0 ay1 cy1 ay2 cy2 ay3 cy3 W
  have hlZ := fun W => longR_any z0 z1 z2 z3 az0 cz0 az1 cz1 az2 cz2 az3 cz3 W
  have hls := fun W => smallR_any s0 s1 as0 cs0 as1 cs1 W
  have fT := smallQ_fits s0 s1
  generalize smallQ s0 s1 = t at *
  have LX := Lib.hid hlX; have LY := Lib.hid hlY; have LZ := Lib.hid hlZ; have LS := Lib.hid hls; have FT := Lib.hid fT
  have SANE := Lib.hid sane_any; have IS := Lib.hid is_any
  obtain ⟨W0, hW0, b0, hcc⟩ := box_order w x0 x1 x2 x3 y0 y1 y2 y3 z0 z1 z2 z3 s0 s1
  have HW := Lib.hid hW0; have HC := Lib.hid hcc; have HB0 := Lib.hid b0
  have HR0 := Lib.hid (hR.below b0)
  clear hlX hlY hlZ hls fT hR hW0 hcc b0 ax0 cx0 ax1 cx1 ax2 cx2 ax3 cx3 ay0 cy0 ay1 cy1 ay2 cy2 ay3 cy3 az0 cz0 az1 cz1 az2 cz2 az3 cz3 as0 cs0 as1 cs1
  have P0 := Lib.hid (Below.refl W0.heap.size W0)
  go_enter Tryz.func7, Tryz.ntmps7
  go_wp2_with (rw [HW.out])
  refine (SANE.out _ (HR0.out.below P0.out)).mono ?_
  rintro e z1 ⟨rfl, b1⟩
  have B1 := Lib.hid b1
  have P1 := Lib.hid (below_up P0.out b1)
  clear b1
  obtain ⟨⟨m0, m1, m2, m3⟩, ⟨m4, m5, m6, m7⟩, ⟨m8, m9, ma, mb⟩, ⟨mc, md⟩⟩ := HC.out _ P1.out
  go_wp2_with fail
  refine (LX.out _).mono ?_
  rintro e z2 ⟨qa, hqa, rfl, b2⟩
  have B2 := Lib.hid b2
  have P2 := Lib.hid (below_up P1.out b2)
  clear b2
  clear m0 m1 m2 m3 m4 m5 m6 m7 m8 m9 ma mb mc md
  have Hqa := Lib.hid hqa
  clear hqa
  obtain ⟨z3, hz3, b3, f3⟩ := box_one z2 (nT qa) (dT qa)
  have V3 := Lib.hid hz3; have F3 := Lib.hid f3
  clear hz3 f3
  have B3 := Lib.hid b3
  have P3 := Lib.hid (below_up P2.out b3)
  clear b3
  obtain ⟨⟨m0, m1, m2, m3⟩, ⟨m4, m5, m6, m7⟩, ⟨m8, m9, ma, mb⟩, ⟨mc, md⟩⟩ := HC.out _ P3.out
  go_wp2_with (rw [V3.out])
  refine (LY.out _).mono ?_
  rintro e z4 ⟨qb, hqb, rfl, b4⟩
  have B4 := Lib.hid b4
  have P4 := Lib.hid (below_up P3.out b4)
  clear b4
  clear m0 m1 m2 m3 m4 m5 m6 m7 m8 m9 ma mb mc md
  have Hqb := Lib.hid hqb
  clear hqb
  obtain ⟨z5, hz5, b5, f5⟩ := box_one z4 (nT qb) (dT qb)
  have V5 := Lib.hid hz5; have F5 := Lib.hid f5
  clear hz5 f5
  have B5 := Lib.hid b5
  have P5 := Lib.hid (below_up P4.out b5)
  clear b5
  obtain ⟨⟨m0, m1, m2, m3⟩, ⟨m4, m5, m6, m7⟩, ⟨m8, m9, ma, mb⟩, ⟨mc, md⟩⟩ := HC.out _ P5.out
  go_wp2_with (rw [V5.out])
  refine (LZ.out _).mono ?_
  rintro e z6 ⟨qc, hqc, rfl, b6⟩
  have B6 := Lib.hid b6
  have P6 := Lib.hid (below_up P5.out b6)
  clear b6
  clear m0 m1 m2 m3 m4 m5 m6 m7 m8 m9 ma mb mc md
  have Hqc := Lib.hid hqc
  clear hqc
  obtain ⟨z7, hz7, b7, f7⟩ := box_one z6 (nT qc) (dT qc)
  have V7 := Lib.hid hz7; have F7 := Lib.hid f7
  clear hz7 f7
  have B7 := Lib.hid b7
  have P7 := Lib.hid (below_up P6.out b7)
  clear b7
  obtain ⟨⟨m0, m1, m2, m3⟩, ⟨m4, m5, m6, m7⟩, ⟨m8, m9, ma, mb⟩, ⟨mc, md⟩⟩ := HC.out _ P7.out
  go_wp2_with (rw [V7.out])
  refine (LS.out _).mono ?_
  rintro e z8 ⟨rfl, b8⟩
  have B8 := Lib.hid b8
  have P8 := Lib.hid (below_up P7.out b8)
  clear b8
  clear m0 m1 m2 m3 m4 m5 m6 m7 m8 m9 ma mb mc md
  obtain ⟨z9, hz9, b9, f9⟩ := box_one z8 (nT t) (dT t)
  have V9 := Lib.hid hz9; have F9 := Lib.hid f9
  clear hz9 f9
  have B9 := Lib.hid b9
  have P9 := Lib.hid (below_up P8.out b9)
  clear b9
  have fa := Hqa.out.fits; have fb := Hqb.out.fits; have fc := Hqc.out.fits; have ft := FT.out
  have ua := text_size fa; have ub := text_size fb; have uc := text_size fc; have ut := text_size ft
  have vab := fun W (h : Ready W) => cmp_q (nT qa) (dT qa) (nT qb) (dT qb) ua.1 ua.2 ub.1 ub.2 W h
  have vbc := fun W (h : Ready W) => cmp_q (nT qb) (dT qb) (nT qc) (dT qc) ub.1 ub.2 uc.1 uc.2 W h
  have vac := fun W (h : Ready W) => cmp_q (nT qa) (dT qa) (nT qc) (dT qc) ua.1 ua.2 uc.1 uc.2 W h
  have vba := fun W (h : Ready W) => cmp_q (nT qb) (dT qb) (nT qa) (dT qa) ub.1 ub.2 ua.1 ua.2 W h
  have vaa := fun W (h : Ready W) => cmp_q (nT qa) (dT qa) (nT qa) (dT qa) ua.1 ua.2 ua.1 ua.2 W h
  rw [cmp_rats fa fb] at vab
  rw [cmp_rats fb fc] at vbc
  rw [cmp_rats fa fc] at vac
  rw [cmp_rats fb fa, cmpR_swap qa qb] at vba
  rw [cmp_rats fa fa, cmpR_self] at vaa
  have three := cmp_three qa qb qc
  have same := same_texts qa qb
  have VAB := Lib.hid vab; have VBC := Lib.hid vbc; have VAC := Lib.hid vac; have VBA := Lib.hid vba; have VAA := Lib.hid vaa; have THREE := Lib.hid three; have SAME := Lib.hid same
  clear vab vbc vac vba vaa three same
  have os := fun W (h : Ready W) => sub_q (nT qa) (dT qa) (nT qb) (dT qb) ua.1 ua.2 ub.1 ub.2 W h
  rw [(validQ_text fa).2, (validQ_text fb).2] at os
  have is : subB (nT qa) (dT qa) (nT qb) (dT qb) = true → FitsQ (qa - qb) := fun h => by have := subB_fits h; rwa [(validQ_text fa).2, (validQ_text fb).2] at this
  generalize subB (nT qa) (dT qa) (nT qb) (dT qb) = es at *
  have op := fun W (h : Ready W) => add_q (nT qa) (dT qa) (nT t) (dT t) ua.1 ua.2 ut.1 ut.2 W h
  rw [(validQ_text fa).2, (validQ_text ft).2] at op
  have ip : addB (nT qa) (dT qa) (nT t) (dT t) = true → FitsQ (qa + t) := fun h => by have := addB_fits h; rwa [(validQ_text fa).2, (validQ_text ft).2] at this
  generalize addB (nT qa) (dT qa) (nT t) (dT t) = ep at *
  have oq := fun W (h : Ready W) => add_q (nT qb) (dT qb) (nT t) (dT t) ub.1 ub.2 ut.1 ut.2 W h
  rw [(validQ_text fb).2, (validQ_text ft).2] at oq
  have iq : addB (nT qb) (dT qb) (nT t) (dT t) = true → FitsQ (qb + t) := fun h => by have := addB_fits h; rwa [(validQ_text fb).2, (validQ_text ft).2] at this
  generalize addB (nT qb) (dT qb) (nT t) (dT t) = eq at *
  have ou := fun W (h : Ready W) => mul_q (nT qa) (dT qa) (nT t) (dT t) ua.1 ua.2 ut.1 ut.2 W h
  rw [(validQ_text fa).2, (validQ_text ft).2] at ou
  have iu : mulB (nT qa) (dT qa) (nT t) (dT t) = true → FitsQ (qa * t) := fun h => by have := mulB_fits h; rwa [(validQ_text fa).2, (validQ_text ft).2] at this
  generalize mulB (nT qa) (dT qa) (nT t) (dT t) = eu at *
  have ov := fun W (h : Ready W) => mul_q (nT qb) (dT qb) (nT t) (dT t) ub.1 ub.2 ut.1 ut.2 W h
  rw [(validQ_text fb).2, (validQ_text ft).2] at ov
  have iv : mulB (nT qb) (dT qb) (nT t) (dT t) = true → FitsQ (qb * t) := fun h => by have := mulB_fits h; rwa [(validQ_text fb).2, (validQ_text ft).2] at this
  generalize mulB (nT qb) (dT qb) (nT t) (dT t) = ev at *
  have zf := zero_fits
  obtain ⟨zt1, zt2⟩ := zero_texts
  have xs : es = true → ∀ W, Ready W → Calls Tryz.prog 20 #[.agg #[.string (nT (qa - qb)), .string (dT (qa - qb))], .agg #[.string ⟨#[48]⟩, .string ⟨#[49]⟩]] W fun e w' => e = .returned (.int .i64 (cmpR qa qb)) ∧ Below W.heap.size W w' := fun he W h => by
    have fs := is he
    have := cmp_q _ _ _ _ (text_size fs).1 (text_size fs).2 (text_size zf).1 (text_size zf).2 W h
    rw [cmp_rats fs zf, cmpR_sub, ← zt1, ← zt2] at this
    exact this
  have xt : ∀ W, Ready W → Calls Tryz.prog 20 #[.agg #[.string (nT t), .string (dT t)], .agg #[.string ⟨#[48]⟩, .string ⟨#[49]⟩]] W fun e w' => e = .returned (.int .i64 (cmpR t 0)) ∧ Below W.heap.size W w' := fun W h => by
    have := cmp_q _ _ _ _ ut.1 ut.2 (text_size zf).1 (text_size zf).2 W h
    rw [cmp_rats ft zf, ← zt1, ← zt2] at this
    exact this
  have xp : ep = true → eq = true → ∀ W, Ready W → Calls Tryz.prog 20 #[.agg #[.string (nT (qa + t)), .string (dT (qa + t))], .agg #[.string (nT (qb + t)), .string (dT (qb + t))]] W fun e w' => e = .returned (.int .i64 (cmpR qa qb)) ∧ Below W.heap.size W w' := fun he he2 W h => by
    have fs := ip he
    have fs2 := iq he2
    have := cmp_q _ _ _ _ (text_size fs).1 (text_size fs).2 (text_size fs2).1 (text_size fs2).2 W h
    rw [cmp_rats fs fs2, cmpR_add] at this
    exact this
  have xu : eu = true → ev = true → ∀ W, Ready W → Calls Tryz.prog 20 #[.agg #[.string (nT (qa * t)), .string (dT (qa * t))], .agg #[.string (nT (qb * t)), .string (dT (qb * t))]] W fun e w' => e = .returned (.int .i64 (cmpR qa qb * cmpR t 0)) ∧ Below W.heap.size W w' := fun he he2 W h => by
    have fs := iu he
    have fs2 := iv he2
    have := cmp_q _ _ _ _ (text_size fs).1 (text_size fs).2 (text_size fs2).1 (text_size fs2).2 W h
    rw [cmp_rats fs fs2, cmpR_mul] at this
    exact this
  have hst := cmpR_range t 0
  have three := THREE.out
  generalize cmpR t 0 = st at *
  generalize cmpR qa qb = ab at *
  have hab := three.1
  generalize cmpR qb qc = bc at *
  generalize cmpR qa qc = ac at *
  have OS := Lib.hid os; have OP := Lib.hid op; have OQ := Lib.hid oq; have OU := Lib.hid ou; have OV := Lib.hid ov; have XS := Lib.hid xs; have XT := Lib.hid xt; have XP := Lib.hid xp; have XU := Lib.hid xu; have HST := Lib.hid hst; have HAB := Lib.hid hab
  clear os op oq ou ov xs xt xp xu hst hab three is ip iq iu iv zf zt1 zt2 ua ub uc ut fa fb fc ft
  generalize nT qa = NA at *
  generalize dT qa = DA at *
  generalize nT qb = NB at *
  generalize dT qb = DB at *
  generalize nT qc = NC at *
  generalize dT qc = DC at *
  generalize nT t = NT at *
  generalize dT t = DT at *
  have OY := Lib.hid (show outE true = 0 from rfl); have ON' := Lib.hid (show outE false = 40 from rfl)
  obtain ⟨qa0, qa1, qa2, qa3⟩ := F3.out z9 (below_up B4.out (below_up B5.out (below_up B6.out (below_up B7.out (below_up B8.out (below_up B9.out (Below.refl _ _)))))))
  obtain ⟨qb0, qb1, qb2, qb3⟩ := F5.out z9 (below_up B6.out (below_up B7.out (below_up B8.out (below_up B9.out (Below.refl _ _)))))
  go_wp2_with (rw [V9.out])
  refine (VAB.out _ (HR0.out.below P9.out)).mono ?_
  rintro e z10 ⟨rfl, b10⟩
  have B10 := Lib.hid b10
  have P10 := Lib.hid (below_up P9.out b10)
  clear b10
  clear qa0 qa1 qa2 qa3 qb0 qb1 qb2 qb3
  obtain ⟨qb0, qb1, qb2, qb3⟩ := F5.out z10 (below_up B6.out (below_up B7.out (below_up B8.out (below_up B9.out (below_up B10.out (Below.refl _ _))))))
  obtain ⟨qc0, qc1, qc2, qc3⟩ := F7.out z10 (below_up B8.out (below_up B9.out (below_up B10.out (Below.refl _ _))))
  go_wp2_with fail
  refine (VBC.out _ (HR0.out.below P10.out)).mono ?_
  rintro e z11 ⟨rfl, b11⟩
  have B11 := Lib.hid b11
  have P11 := Lib.hid (below_up P10.out b11)
  clear b11
  clear qb0 qb1 qb2 qb3 qc0 qc1 qc2 qc3
  obtain ⟨qa0, qa1, qa2, qa3⟩ := F3.out z11 (below_up B4.out (below_up B5.out (below_up B6.out (below_up B7.out (below_up B8.out (below_up B9.out (below_up B10.out (below_up B11.out (Below.refl _ _)))))))))
  obtain ⟨qc0, qc1, qc2, qc3⟩ := F7.out z11 (below_up B8.out (below_up B9.out (below_up B10.out (below_up B11.out (Below.refl _ _)))))
  go_wp2_with fail
  refine (VAC.out _ (HR0.out.below P11.out)).mono ?_
  rintro e z12 ⟨rfl, b12⟩
  have B12 := Lib.hid b12
  have P12 := Lib.hid (below_up P11.out b12)
  clear b12
  clear qa0 qa1 qa2 qa3 qc0 qc1 qc2 qc3
  go_upto_region 9 with fail
  go_cut [92] from 41 to 92 (fun s92 wx => s92 = .bool false ∧ Hid (Below z12.heap.size z12 wx))
  case first =>
    have three := THREE.out
    obtain ⟨ta, tb, tc, n1, n2⟩ := three
    rcases ta with ea | ea | ea
    · skip
      rcases tb with eb | eb | eb
      · skip
        obtain rfl : ac = -1 := by omega
        subst ea eb
        clear n1 n2 tc
        have same := SAME.out
        have hne : ¬ (NA = NB ∧ DA = DB) := fun h => absurd (same.2 h) (by decide)
        clear same
        by_cases hn : NA.toList = NB.toList
        · skip
          have hd : ¬ DA.toList = DB.toList := fun h => hne ⟨bytes_eq hn, bytes_eq h⟩
          clear hne
          obtain ⟨qa0, qa1, qa2, qa3⟩ := F3.out z12 (below_up B4.out (below_up B5.out (below_up B6.out (below_up B7.out (below_up B8.out (below_up B9.out (below_up B10.out (below_up B11.out (below_up B12.out (Below.refl _ _))))))))))
          obtain ⟨qb0, qb1, qb2, qb3⟩ := F5.out z12 (below_up B6.out (below_up B7.out (below_up B8.out (below_up B9.out (below_up B10.out (below_up B11.out (below_up B12.out (Below.refl _ _))))))))
          go_wp2_with fail
          refine (VBA.out _ (HR0.out.below P12.out)).mono ?_
          rintro e z13 ⟨rfl, b13⟩
          have B13 := Lib.hid b13
          have P13 := Lib.hid (below_up P12.out b13)
          clear b13
          clear qa0 qa1 qa2 qa3 qb0 qb1 qb2 qb3
          obtain ⟨qa0, qa1, qa2, qa3⟩ := F3.out z13 (below_up B4.out (below_up B5.out (below_up B6.out (below_up B7.out (below_up B8.out (below_up B9.out (below_up B10.out (below_up B11.out (below_up B12.out (below_up B13.out (Below.refl _ _)))))))))))
          obtain ⟨qb0, qb1, qb2, qb3⟩ := F5.out z13 (below_up B6.out (below_up B7.out (below_up B8.out (below_up B9.out (below_up B10.out (below_up B11.out (below_up B12.out (below_up B13.out (Below.refl _ _)))))))))
          go_wp2_with fail
          refine (VAA.out _ (HR0.out.below P13.out)).mono ?_
          rintro e z14 ⟨rfl, b14⟩
          have B14 := Lib.hid b14
          have P14 := Lib.hid (below_up P13.out b14)
          clear b14
          clear qa0 qa1 qa2 qa3 qb0 qb1 qb2 qb3
          go_wp2_with fail
          go_meet
          exact ⟨rfl, Lib.hid (below_up B13.out B14.out)⟩
        · skip
          clear hne
          obtain ⟨qa0, qa1, qa2, qa3⟩ := F3.out z12 (below_up B4.out (below_up B5.out (below_up B6.out (below_up B7.out (below_up B8.out (below_up B9.out (below_up B10.out (below_up B11.out (below_up B12.out (Below.refl _ _))))))))))
          obtain ⟨qb0, qb1, qb2, qb3⟩ := F5.out z12 (below_up B6.out (below_up B7.out (below_up B8.out (below_up B9.out (below_up B10.out (below_up B11.out (below_up B12.out (Below.refl _ _))))))))
          go_wp2_with fail
          refine (VBA.out _ (HR0.out.below P12.out)).mono ?_
          rintro e z13 ⟨rfl, b13⟩
          have B13 := Lib.hid b13
          have P13 := Lib.hid (below_up P12.out b13)
          clear b13
          clear qa0 qa1 qa2 qa3 qb0 qb1 qb2 qb3
          obtain ⟨qa0, qa1, qa2, qa3⟩ := F3.out z13 (below_up B4.out (below_up B5.out (below_up B6.out (below_up B7.out (below_up B8.out (below_up B9.out (below_up B10.out (below_up B11.out (below_up B12.out (below_up B13.out (Below.refl _ _)))))))))))
          obtain ⟨qb0, qb1, qb2, qb3⟩ := F5.out z13 (below_up B6.out (below_up B7.out (below_up B8.out (below_up B9.out (below_up B10.out (below_up B11.out (below_up B12.out (below_up B13.out (Below.refl _ _)))))))))
          go_wp2_with fail
          refine (VAA.out _ (HR0.out.below P13.out)).mono ?_
          rintro e z14 ⟨rfl, b14⟩
          have B14 := Lib.hid b14
          have P14 := Lib.hid (below_up P13.out b14)
          clear b14
          clear qa0 qa1 qa2 qa3 qb0 qb1 qb2 qb3
          go_wp2_with fail
          go_meet
          exact ⟨rfl, Lib.hid (below_up B13.out B14.out)⟩
      · skip
        have hac : decide (0 < ac) = false := decide_eq_false (by omega)
        subst ea eb
        clear n1 n2 tc
        have same := SAME.out
        have hne : ¬ (NA = NB ∧ DA = DB) := fun h => absurd (same.2 h) (by decide)
        clear same
        by_cases hn : NA.toList = NB.toList
        · skip
          have hd : ¬ DA.toList = DB.toList := fun h => hne ⟨bytes_eq hn, bytes_eq h⟩
          clear hne
          obtain ⟨qa0, qa1, qa2, qa3⟩ := F3.out z12 (below_up B4.out (below_up B5.out (below_up B6.out (below_up B7.out (below_up B8.out (below_up B9.out (below_up B10.out (below_up B11.out (below_up B12.out (Below.refl _ _))))))))))
          obtain ⟨qb0, qb1, qb2, qb3⟩ := F5.out z12 (below_up B6.out (below_up B7.out (below_up B8.out (below_up B9.out (below_up B10.out (below_up B11.out (below_up B12.out (Below.refl _ _))))))))
          go_wp2_with fail
          refine (VBA.out _ (HR0.out.below P12.out)).mono ?_
          rintro e z13 ⟨rfl, b13⟩
          have B13 := Lib.hid b13
          have P13 := Lib.hid (below_up P12.out b13)
          clear b13
          clear qa0 qa1 qa2 qa3 qb0 qb1 qb2 qb3
          obtain ⟨qa0, qa1, qa2, qa3⟩ := F3.out z13 (below_up B4.out (below_up B5.out (below_up B6.out (below_up B7.out (below_up B8.out (below_up B9.out (below_up B10.out (below_up B11.out (below_up B12.out (below_up B13.out (Below.refl _ _)))))))))))
          obtain ⟨qb0, qb1, qb2, qb3⟩ := F5.out z13 (below_up B6.out (below_up B7.out (below_up B8.out (below_up B9.out (below_up B10.out (below_up B11.out (below_up B12.out (below_up B13.out (Below.refl _ _)))))))))
          go_wp2_with fail
          refine (VAA.out _ (HR0.out.below P13.out)).mono ?_
          rintro e z14 ⟨rfl, b14⟩
          have B14 := Lib.hid b14
          have P14 := Lib.hid (below_up P13.out b14)
          clear b14
          clear qa0 qa1 qa2 qa3 qb0 qb1 qb2 qb3
          go_wp2_with fail
          go_meet
          exact ⟨rfl, Lib.hid (below_up B13.out B14.out)⟩
        · skip
          clear hne
          obtain ⟨qa0, qa1, qa2, qa3⟩ := F3.out z12 (below_up B4.out (below_up B5.out (below_up B6.out (below_up B7.out (below_up B8.out (below_up B9.out (below_up B10.out (below_up B11.out (below_up B12.out (Below.refl _ _))))))))))
          obtain ⟨qb0, qb1, qb2, qb3⟩ := F5.out z12 (below_up B6.out (below_up B7.out (below_up B8.out (below_up B9.out (below_up B10.out (below_up B11.out (below_up B12.out (Below.refl _ _))))))))
          go_wp2_with fail
          refine (VBA.out _ (HR0.out.below P12.out)).mono ?_
          rintro e z13 ⟨rfl, b13⟩
          have B13 := Lib.hid b13
          have P13 := Lib.hid (below_up P12.out b13)
          clear b13
          clear qa0 qa1 qa2 qa3 qb0 qb1 qb2 qb3
          obtain ⟨qa0, qa1, qa2, qa3⟩ := F3.out z13 (below_up B4.out (below_up B5.out (below_up B6.out (below_up B7.out (below_up B8.out (below_up B9.out (below_up B10.out (below_up B11.out (below_up B12.out (below_up B13.out (Below.refl _ _)))))))))))
          obtain ⟨qb0, qb1, qb2, qb3⟩ := F5.out z13 (below_up B6.out (below_up B7.out (below_up B8.out (below_up B9.out (below_up B10.out (below_up B11.out (below_up B12.out (below_up B13.out (Below.refl _ _)))))))))
          go_wp2_with fail
          refine (VAA.out _ (HR0.out.below P13.out)).mono ?_
          rintro e z14 ⟨rfl, b14⟩
          have B14 := Lib.hid b14
          have P14 := Lib.hid (below_up P13.out b14)
          clear b14
          clear qa0 qa1 qa2 qa3 qb0 qb1 qb2 qb3
          go_wp2_with fail
          go_meet
          exact ⟨rfl, Lib.hid (below_up B13.out B14.out)⟩
      · skip
        subst ea eb
        clear n1 n2 tc
        have same := SAME.out
        have hne : ¬ (NA = NB ∧ DA = DB) := fun h => absurd (same.2 h) (by decide)
        clear same
        by_cases hn : NA.toList = NB.toList
        · skip
          have hd : ¬ DA.toList = DB.toList := fun h => hne ⟨bytes_eq hn, bytes_eq h⟩
          clear hne
          obtain ⟨qa0, qa1, qa2, qa3⟩ := F3.out z12 (below_up B4.out (below_up B5.out (below_up B6.out (below_up B7.out (below_up B8.out (below_up B9.out (below_up B10.out (below_up B11.out (below_up B12.out (Below.refl _ _))))))))))
          obtain ⟨qb0, qb1, qb2, qb3⟩ := F5.out z12 (below_up B6.out (below_up B7.out (below_up B8.out (below_up B9.out (below_up B10.out (below_up B11.out (below_up B12.out (Below.refl _ _))))))))
          go_wp2_with fail
          refine (VBA.out _ (HR0.out.below P12.out)).mono ?_
          rintro e z13 ⟨rfl, b13⟩
          have B13 := Lib.hid b13
          have P13 := Lib.hid (below_up P12.out b13)
          clear b13
          clear qa0 qa1 qa2 qa3 qb0 qb1 qb2 qb3
          obtain ⟨qa0, qa1, qa2, qa3⟩ := F3.out z13 (below_up B4.out (below_up B5.out (below_up B6.out (below_up B7.out (below_up B8.out (below_up B9.out (below_up B10.out (below_up B11.out (below_up B12.out (below_up B13.out (Below.refl _ _)))))))))))
          obtain ⟨qb0, qb1, qb2, qb3⟩ := F5.out z13 (below_up B6.out (below_up B7.out (below_up B8.out (below_up B9.out (below_up B10.out (below_up B11.out (below_up B12.out (below_up B13.out (Below.refl _ _)))))))))
          go_wp2_with fail
          refine (VAA.out _ (HR0.out.below P13.out)).mono ?_
          rintro e z14 ⟨rfl, b14⟩
          have B14 := Lib.hid b14
          have P14 := Lib.hid (below_up P13.out b14)
          clear b14
          clear qa0 qa1 qa2 qa3 qb0 qb1 qb2 qb3
          go_wp2_with fail
          go_meet
          exact ⟨rfl, Lib.hid (below_up B13.out B14.out)⟩
        · skip
          clear hne
          obtain ⟨qa0, qa1, qa2, qa3⟩ := F3.out z12 (below_up B4.out (below_up B5.out (below_up B6.out (below_up B7.out (below_up B8.out (below_up B9.out (below_up B10.out (below_up B11.out (below_up B12.out (Below.refl _ _))))))))))
          obtain ⟨qb0, qb1, qb2, qb3⟩ := F5.out z12 (below_up B6.out (below_up B7.out (below_up B8.out (below_up B9.out (below_up B10.out (below_up B11.out (below_up B12.out (Below.refl _ _))))))))
          go_wp2_with fail
          refine (VBA.out _ (HR0.out.below P12.out)).mono ?_
          rintro e z13 ⟨rfl, b13⟩
          have B13 := Lib.hid b13
          have P13 := Lib.hid (below_up P12.out b13)
          clear b13
          clear qa0 qa1 qa2 qa3 qb0 qb1 qb2 qb3
          obtain ⟨qa0, qa1, qa2, qa3⟩ := F3.out z13 (below_up B4.out (below_up B5.out (below_up B6.out (below_up B7.out (below_up B8.out (below_up B9.out (below_up B10.out (below_up B11.out (below_up B12.out (below_up B13.out (Below.refl _ _)))))))))))
          obtain ⟨qb0, qb1, qb2, qb3⟩ := F5.out z13 (below_up B6.out (below_up B7.out (below_up B8.out (below_up B9.out (below_up B10.out (below_up B11.out (below_up B12.out (below_up B13.out (Below.refl _ _)))))))))
          go_wp2_with fail
          refine (VAA.out _ (HR0.out.below P13.out)).mono ?_
          rintro e z14 ⟨rfl, b14⟩
          have B14 := Lib.hid b14
          have P14 := Lib.hid (below_up P13.out b14)
          clear b14
          clear qa0 qa1 qa2 qa3 qb0 qb1 qb2 qb3
          go_wp2_with fail
          go_meet
          exact ⟨rfl, Lib.hid (below_up B13.out B14.out)⟩
    · have same := SAME.out
      subst ea
      obtain ⟨rfl, rfl⟩ := same.1 rfl
      clear same
      rcases tb with eb | eb | eb
      · skip
        obtain rfl : ac = -1 := by omega
        subst eb
        clear n1 n2 tc
        obtain ⟨qa0, qa1, qa2, qa3⟩ := F3.out z12 (below_up B4.out (below_up B5.out (below_up B6.out (below_up B7.out (below_up B8.out (below_up B9.out (below_up B10.out (below_up B11.out (below_up B12.out (Below.refl _ _))))))))))
        obtain ⟨qb0, qb1, qb2, qb3⟩ := F5.out z12 (below_up B6.out (below_up B7.out (below_up B8.out (below_up B9.out (below_up B10.out (below_up B11.out (below_up B12.out (Below.refl _ _))))))))
        go_wp2_with fail
        refine (VBA.out _ (HR0.out.below P12.out)).mono ?_
        rintro e z13 ⟨rfl, b13⟩
        have B13 := Lib.hid b13
        have P13 := Lib.hid (below_up P12.out b13)
        clear b13
        clear qa0 qa1 qa2 qa3 qb0 qb1 qb2 qb3
        obtain ⟨qa0, qa1, qa2, qa3⟩ := F3.out z13 (below_up B4.out (below_up B5.out (below_up B6.out (below_up B7.out (below_up B8.out (below_up B9.out (below_up B10.out (below_up B11.out (below_up B12.out (below_up B13.out (Below.refl _ _)))))))))))
        obtain ⟨qb0, qb1, qb2, qb3⟩ := F5.out z13 (below_up B6.out (below_up B7.out (below_up B8.out (below_up B9.out (below_up B10.out (below_up B11.out (below_up B12.out (below_up B13.out (Below.refl _ _)))))))))
        go_wp2_with fail
        refine (VAA.out _ (HR0.out.below P13.out)).mono ?_
        rintro e z14 ⟨rfl, b14⟩
        have B14 := Lib.hid b14
        have P14 := Lib.hid (below_up P13.out b14)
        clear b14
        clear qa0 qa1 qa2 qa3 qb0 qb1 qb2 qb3
        go_wp2_with fail
        go_meet
        exact ⟨rfl, Lib.hid (below_up B13.out B14.out)⟩
      · skip
        have hac : decide (0 < ac) = false := decide_eq_false (by omega)
        subst eb
        clear n1 n2 tc
        obtain ⟨qa0, qa1, qa2, qa3⟩ := F3.out z12 (below_up B4.out (below_up B5.out (below_up B6.out (below_up B7.out (below_up B8.out (below_up B9.out (below_up B10.out (below_up B11.out (below_up B12.out (Below.refl _ _))))))))))
        obtain ⟨qb0, qb1, qb2, qb3⟩ := F5.out z12 (below_up B6.out (below_up B7.out (below_up B8.out (below_up B9.out (below_up B10.out (below_up B11.out (below_up B12.out (Below.refl _ _))))))))
        go_wp2_with fail
        refine (VBA.out _ (HR0.out.below P12.out)).mono ?_
        rintro e z13 ⟨rfl, b13⟩
        have B13 := Lib.hid b13
        have P13 := Lib.hid (below_up P12.out b13)
        clear b13
        clear qa0 qa1 qa2 qa3 qb0 qb1 qb2 qb3
        obtain ⟨qa0, qa1, qa2, qa3⟩ := F3.out z13 (below_up B4.out (below_up B5.out (below_up B6.out (below_up B7.out (below_up B8.out (below_up B9.out (below_up B10.out (below_up B11.out (below_up B12.out (below_up B13.out (Below.refl _ _)))))))))))
        obtain ⟨qb0, qb1, qb2, qb3⟩ := F5.out z13 (below_up B6.out (below_up B7.out (below_up B8.out (below_up B9.out (below_up B10.out (below_up B11.out (below_up B12.out (below_up B13.out (Below.refl _ _)))))))))
        go_wp2_with fail
        refine (VAA.out _ (HR0.out.below P13.out)).mono ?_
        rintro e z14 ⟨rfl, b14⟩
        have B14 := Lib.hid b14
        have P14 := Lib.hid (below_up P13.out b14)
        clear b14
        clear qa0 qa1 qa2 qa3 qb0 qb1 qb2 qb3
        go_wp2_with fail
        go_meet
        exact ⟨rfl, Lib.hid (below_up B13.out B14.out)⟩
      · skip
        subst eb
        clear n1 n2 tc
        obtain ⟨qa0, qa1, qa2, qa3⟩ := F3.out z12 (below_up B4.out (below_up B5.out (below_up B6.out (below_up B7.out (below_up B8.out (below_up B9.out (below_up B10.out (below_up B11.out (below_up B12.out (Below.refl _ _))))))))))
        obtain ⟨qb0, qb1, qb2, qb3⟩ := F5.out z12 (below_up B6.out (below_up B7.out (below_up B8.out (below_up B9.out (below_up B10.out (below_up B11.out (below_up B12.out (Below.refl _ _))))))))
        go_wp2_with fail
        refine (VBA.out _ (HR0.out.below P12.out)).mono ?_
        rintro e z13 ⟨rfl, b13⟩
        have B13 := Lib.hid b13
        have P13 := Lib.hid (below_up P12.out b13)
        clear b13
        clear qa0 qa1 qa2 qa3 qb0 qb1 qb2 qb3
        obtain ⟨qa0, qa1, qa2, qa3⟩ := F3.out z13 (below_up B4.out (below_up B5.out (below_up B6.out (below_up B7.out (below_up B8.out (below_up B9.out (below_up B10.out (below_up B11.out (below_up B12.out (below_up B13.out (Below.refl _ _)))))))))))
        obtain ⟨qb0, qb1, qb2, qb3⟩ := F5.out z13 (below_up B6.out (below_up B7.out (below_up B8.out (below_up B9.out (below_up B10.out (below_up B11.out (below_up B12.out (below_up B13.out (Below.refl _ _)))))))))
        go_wp2_with fail
        refine (VAA.out _ (HR0.out.below P13.out)).mono ?_
        rintro e z14 ⟨rfl, b14⟩
        have B14 := Lib.hid b14
        have P14 := Lib.hid (below_up P13.out b14)
        clear b14
        clear qa0 qa1 qa2 qa3 qb0 qb1 qb2 qb3
        go_wp2_with fail
        go_meet
        exact ⟨rfl, Lib.hid (below_up B13.out B14.out)⟩
    · skip
      subst ea
      clear n1 n2 tc tb
      have same := SAME.out
      have hne : ¬ (NA = NB ∧ DA = DB) := fun h => absurd (same.2 h) (by decide)
      clear same
      by_cases hn : NA.toList = NB.toList
      · skip
        have hd : ¬ DA.toList = DB.toList := fun h => hne ⟨bytes_eq hn, bytes_eq h⟩
        clear hne
        obtain ⟨qa0, qa1, qa2, qa3⟩ := F3.out z12 (below_up B4.out (below_up B5.out (below_up B6.out (below_up B7.out (below_up B8.out (below_up B9.out (below_up B10.out (below_up B11.out (below_up B12.out (Below.refl _ _))))))))))
        obtain ⟨qb0, qb1, qb2, qb3⟩ := F5.out z12 (below_up B6.out (below_up B7.out (below_up B8.out (below_up B9.out (below_up B10.out (below_up B11.out (below_up B12.out (Below.refl _ _))))))))
        go_wp2_with fail
        refine (VBA.out _ (HR0.out.below P12.out)).mono ?_
        rintro e z13 ⟨rfl, b13⟩
        have B13 := Lib.hid b13
        have P13 := Lib.hid (below_up P12.out b13)
        clear b13
        clear qa0 qa1 qa2 qa3 qb0 qb1 qb2 qb3
        obtain ⟨qa0, qa1, qa2, qa3⟩ := F3.out z13 (below_up B4.out (below_up B5.out (below_up B6.out (below_up B7.out (below_up B8.out (below_up B9.out (below_up B10.out (below_up B11.out (below_up B12.out (below_up B13.out (Below.refl _ _)))))))))))
        obtain ⟨qb0, qb1, qb2, qb3⟩ := F5.out z13 (below_up B6.out (below_up B7.out (below_up B8.out (below_up B9.out (below_up B10.out (below_up B11.out (below_up B12.out (below_up B13.out (Below.refl _ _)))))))))
        go_wp2_with fail
        refine (VAA.out _ (HR0.out.below P13.out)).mono ?_
        rintro e z14 ⟨rfl, b14⟩
        have B14 := Lib.hid b14
        have P14 := Lib.hid (below_up P13.out b14)
        clear b14
        clear qa0 qa1 qa2 qa3 qb0 qb1 qb2 qb3
        go_wp2_with fail
        go_meet
        exact ⟨rfl, Lib.hid (below_up B13.out B14.out)⟩
      · skip
        clear hne
        obtain ⟨qa0, qa1, qa2, qa3⟩ := F3.out z12 (below_up B4.out (below_up B5.out (below_up B6.out (below_up B7.out (below_up B8.out (below_up B9.out (below_up B10.out (below_up B11.out (below_up B12.out (Below.refl _ _))))))))))
        obtain ⟨qb0, qb1, qb2, qb3⟩ := F5.out z12 (below_up B6.out (below_up B7.out (below_up B8.out (below_up B9.out (below_up B10.out (below_up B11.out (below_up B12.out (Below.refl _ _))))))))
        go_wp2_with fail
        refine (VBA.out _ (HR0.out.below P12.out)).mono ?_
        rintro e z13 ⟨rfl, b13⟩
        have B13 := Lib.hid b13
        have P13 := Lib.hid (below_up P12.out b13)
        clear b13
        clear qa0 qa1 qa2 qa3 qb0 qb1 qb2 qb3
        obtain ⟨qa0, qa1, qa2, qa3⟩ := F3.out z13 (below_up B4.out (below_up B5.out (below_up B6.out (below_up B7.out (below_up B8.out (below_up B9.out (below_up B10.out (below_up B11.out (below_up B12.out (below_up B13.out (Below.refl _ _)))))))))))
        obtain ⟨qb0, qb1, qb2, qb3⟩ := F5.out z13 (below_up B6.out (below_up B7.out (below_up B8.out (below_up B9.out (below_up B10.out (below_up B11.out (below_up B12.out (below_up B13.out (Below.refl _ _)))))))))
        go_wp2_with fail
        refine (VAA.out _ (HR0.out.below P13.out)).mono ?_
        rintro e z14 ⟨rfl, b14⟩
        have B14 := Lib.hid b14
        have P14 := Lib.hid (below_up P13.out b14)
        clear b14
        clear qa0 qa1 qa2 qa3 qb0 qb1 qb2 qb3
        go_wp2_with fail
        go_meet
        exact ⟨rfl, Lib.hid (below_up B13.out B14.out)⟩
  case rest =>
    obtain ⟨rfl, hbx⟩ := hcut
    generalize wc = z13 at *
    have B13 := hbx
    have P13 := Lib.hid (below_up P12.out hbx.out)
    clear hbx
    obtain ⟨qa0, qa1, qa2, qa3⟩ := F3.out z13 (below_up B4.out (below_up B5.out (below_up B6.out (below_up B7.out (below_up B8.out (below_up B9.out (below_up B10.out (below_up B11.out (below_up B12.out (below_up B13.out (Below.refl _ _)))))))))))
    obtain ⟨qb0, qb1, qb2, qb3⟩ := F5.out z13 (below_up B6.out (below_up B7.out (below_up B8.out (below_up B9.out (below_up B10.out (below_up B11.out (below_up B12.out (below_up B13.out (Below.refl _ _)))))))))
    go_wp2_with fail
    refine (OS.out _ (HR0.out.below P13.out)).mono ?_
    rintro e z14 ⟨rfl, b14⟩
    have B14 := Lib.hid b14
    have P14 := Lib.hid (below_up P13.out b14)
    clear b14
    clear qa0 qa1 qa2 qa3 qb0 qb1 qb2 qb3
    obtain ⟨z15, hz15, b15, f15⟩ := box_one z14 (outN es (qa - qb)) (outD es (qa - qb))
    have V15 := Lib.hid hz15; have F15 := Lib.hid f15
    clear hz15 f15
    have B15 := Lib.hid b15
    have P15 := Lib.hid (below_up P14.out b15)
    clear b15
    go_upto_region 12 with (rw [V15.out])
    go_cut [107] from 99 to 107 (fun s107 wx => s107 = .bool false ∧ Hid (Below z15.heap.size z15 wx))
    case first =>
      have oy := OY.out; have on := ON'.out
      cases es with
      | false =>
        go_quiet ((fail))
        all_goals (go_wp2_with fail; go_meet; exact ⟨rfl, Lib.hid ⟨rfl, rfl, rfl, Nat.le_refl _, fun _ _ => rfl⟩⟩)
      | true =>
        have XS2 := Lib.hid (XS.out rfl)
        clear oy on
        have K := Lib.hid (show ∀ W, Below z15.heap.size z15 W → ((W.cell? ⟨z14.heap.size, 0, none⟩ = some (.string (nT (qa - qb))) ∧ W.cell? ⟨z14.heap.size, 1, none⟩ = some (.string (dT (qa - qb))))) from fun W b => ⟨(F15.out W b).1, (F15.out W b).2.1⟩)
        have HRz := Lib.hid (HR0.out.below P15.out)
        have g := Below.refl z15.heap.size z15
        go_region_held3 (fun W => (W.cell? ⟨z14.heap.size, 0, none⟩ = some (.string (nT (qa - qb))) ∧ W.cell? ⟨z14.heap.size, 1, none⟩ = some (.string (dT (qa - qb))))) (first | exact K.out _ g | exact K.out _ ⟨g.os, g.tape, g.output, g.size, g.block⟩) (first | (go_at_call 41; (with_reducible refine (IS.out _ _ _).mono ?_); (rintro e y ⟨rfl, k'⟩); (have g : Below z15.heap.size z15 y := below_up (by first | exact g | exact ⟨g.os, g.tape, g.output, g.size, g.block⟩) k')) | (go_at_call 20; (with_reducible refine (XS2.out _ ?_).mono ?_); (first | exact HRz.out.below g | exact HRz.out.below ⟨g.os, g.tape, g.output, g.size, g.block⟩); (rintro e y ⟨rfl, k'⟩); (have g : Below z15.heap.size z15 y := below_up (by first | exact g | exact ⟨g.os, g.tape, g.output, g.size, g.block⟩) k')))
        all_goals (go_wp2_with fail; go_meet; first | exact ⟨rfl, Lib.hid g⟩ | exact ⟨rfl, Lib.hid ⟨g.os, g.tape, g.output, g.size, g.block⟩⟩)
    case rest =>
      obtain ⟨rfl, hbx⟩ := hcut
      generalize wc = z16 at *
      have B16 := hbx
      have P16 := Lib.hid (below_up P15.out hbx.out)
      clear hbx
      obtain ⟨qa0, qa1, qa2, qa3⟩ := F3.out z16 (below_up B4.out (below_up B5.out (below_up B6.out (below_up B7.out (below_up B8.out (below_up B9.out (below_up B10.out (below_up B11.out (below_up B12.out (below_up B13.out (below_up B14.out (below_up B15.out (below_up B16.out (Below.refl _ _))))))))))))))
      obtain ⟨qt0, qt1, qt2, qt3⟩ := F9.out z16 (below_up B10.out (below_up B11.out (below_up B12.out (below_up B13.out (below_up B14.out (below_up B15.out (below_up B16.out (Below.refl _ _))))))))
      go_wp2_with fail
      refine (OP.out _ (HR0.out.below P16.out)).mono ?_
      rintro e z17 ⟨rfl, b17⟩
      have B17 := Lib.hid b17
      have P17 := Lib.hid (below_up P16.out b17)
      clear b17
      clear qa0 qa1 qa2 qa3 qt0 qt1 qt2 qt3
      obtain ⟨z18, hz18, b18, f18⟩ := box_one z17 (outN ep (qa + t)) (outD ep (qa + t))
      have V18 := Lib.hid hz18; have F18 := Lib.hid f18
      clear hz18 f18
      have B18 := Lib.hid b18
      have P18 := Lib.hid (below_up P17.out b18)
      clear b18
      obtain ⟨qb0, qb1, qb2, qb3⟩ := F5.out z18 (below_up B6.out (below_up B7.out (below_up B8.out (below_up B9.out (below_up B10.out (below_up B11.out (below_up B12.out (below_up B13.out (below_up B14.out (below_up B15.out (below_up B16.out (below_up B17.out (below_up B18.out (Below.refl _ _))))))))))))))
      obtain ⟨qt0, qt1, qt2, qt3⟩ := F9.out z18 (below_up B10.out (below_up B11.out (below_up B12.out (below_up B13.out (below_up B14.out (below_up B15.out (below_up B16.out (below_up B17.out (below_up B18.out (Below.refl _ _))))))))))
      go_wp2_with (rw [V18.out])
      refine (OQ.out _ (HR0.out.below P18.out)).mono ?_
      rintro e z19 ⟨rfl, b19⟩
      have B19 := Lib.hid b19
      have P19 := Lib.hid (below_up P18.out b19)
      clear b19
      clear qb0 qb1 qb2 qb3 qt0 qt1 qt2 qt3
      obtain ⟨z20, hz20, b20, f20⟩ := box_one z19 (outN eq (qb + t)) (outD eq (qb + t))
      have V20 := Lib.hid hz20; have F20 := Lib.hid f20
      clear hz20 f20
      have B20 := Lib.hid b20
      have P20 := Lib.hid (below_up P19.out b20)
      clear b20
      go_upto_region 16 with (rw [V20.out])
      go_cut [132] from 120 to 132 (fun s132 wx => s132 = .bool false ∧ Hid (Below z20.heap.size z20 wx))
      case first =>
        have oy := OY.out; have on := ON'.out
        cases ep with
        | false =>
          go_wp2_with fail
          go_meet
          exact ⟨rfl, Lib.hid (Below.refl _ _)⟩
        | true =>
          cases eq with
          | false =>
            go_wp2_with fail
            go_meet
            exact ⟨rfl, Lib.hid (Below.refl _ _)⟩
          | true =>
            have XP2 := Lib.hid (XP.out rfl rfl)
            have rp := F18.out z20 (below_up B19.out (below_up B20.out (Below.refl _ _)))
            have rq := F20.out z20 (Below.refl _ _)
            obtain ⟨qp0, qp1, qp2, qp3⟩ := (show RatAt _ _ (nT (qa + t)) (dT (qa + t)) from rp)
            obtain ⟨qq0, qq1, qq2, qq3⟩ := (show RatAt _ _ (nT (qb + t)) (dT (qb + t)) from rq)
            go_wp2_with fail
            refine (XP2.out _ (HR0.out.below P20.out)).mono ?_
            rintro e z21 ⟨rfl, b21⟩
            have B21 := Lib.hid b21
            have P21 := Lib.hid (below_up P20.out b21)
            clear b21
            go_wp2_with fail
            go_meet
            exact ⟨rfl, B21⟩
      case rest =>
        obtain ⟨rfl, hbx⟩ := hcut
        generalize wc = z21 at *
        have B21 := hbx
        have P21 := Lib.hid (below_up P20.out hbx.out)
        clear hbx
        have hpq : z17.heap.size < z19.heap.size := Nat.lt_of_lt_of_le (rat_ltO (F18.out _ (Below.refl _ _))) (Below.size B19.out)
        have HPQ := Lib.hid hpq
        clear hpq
        obtain ⟨qa0, qa1, qa2, qa3⟩ := F3.out z21 (below_up B4.out (below_up B5.out (below_up B6.out (below_up B7.out (below_up B8.out (below_up B9.out (below_up B10.out (below_up B11.out (below_up B12.out (below_up B13.out (below_up B14.out (below_up B15.out (below_up B16.out (below_up B17.out (below_up B18.out (below_up B19.out (below_up B20.out (below_up B21.out (Below.refl _ _)))))))))))))))))))
        obtain ⟨qt0, qt1, qt2, qt3⟩ := F9.out z21 (below_up B10.out (below_up B11.out (below_up B12.out (below_up B13.out (below_up B14.out (below_up B15.out (below_up B16.out (below_up B17.out (below_up B18.out (below_up B19.out (below_up B20.out (below_up B21.out (Below.refl _ _)))))))))))))
        go_wp2_with fail
        refine (OU.out _ (HR0.out.below P21.out)).mono ?_
        rintro e z22 ⟨rfl, b22⟩
        have B22 := Lib.hid b22
        have P22 := Lib.hid (below_up P21.out b22)
        clear b22
        clear qa0 qa1 qa2 qa3 qt0 qt1 qt2 qt3
        have rp := F18.out z22 (below_up B19.out (below_up B20.out (below_up B21.out (below_up B22.out (Below.refl _ _)))))
        have rq := F20.out z22 (below_up B21.out (below_up B22.out (Below.refl _ _)))
        have hb := (below_up B18.out (below_up B19.out (below_up B20.out (below_up B21.out (below_up B22.out (Below.refl z22.heap.size z22))))))
        obtain ⟨qp0, qp1, qp2, qp3⟩ := rp
        obtain ⟨y1, hy1⟩ : ∃ y, (z22.setCell ⟨z17.heap.size, 0, none⟩ (.string (outN eu (qa * t)))).setCell ⟨z17.heap.size, 1, none⟩ (.string (outD eu (qa * t))) = y := ⟨_, rfl⟩
        have RP1 := Lib.hid (show RatAt y1 z17.heap.size (outN eu (qa * t)) (outD eu (qa * t)) by rw [← hy1]; exact ratAt_set ⟨qp0, qp1, qp2, qp3⟩)
        have RQ1 := Lib.hid (show RatAt y1 z19.heap.size (outN eq (qb + t)) (outD eq (qb + t)) by rw [← hy1]; exact rat_set_farO (Nat.ne_of_lt HPQ.out) rq)
        have BY1 := Lib.hid (show Below z17.heap.size z17 y1 by rw [← hy1]; exact below_setO (Nat.le_refl _) hb)
        have VY1 := Lib.hid hy1
        clear hy1 hb rq
        have B23 := BY1
        have P23 := Lib.hid (below_up P17.out BY1.out)
        obtain ⟨qb0, qb1, qb2, qb3⟩ := F5.out y1 (below_up B6.out (below_up B7.out (below_up B8.out (below_up B9.out (below_up B10.out (below_up B11.out (below_up B12.out (below_up B13.out (below_up B14.out (below_up B15.out (below_up B16.out (below_up B17.out (below_up B23.out (Below.refl _ _))))))))))))))
        obtain ⟨qt0, qt1, qt2, qt3⟩ := F9.out y1 (below_up B10.out (below_up B11.out (below_up B12.out (below_up B13.out (below_up B14.out (below_up B15.out (below_up B16.out (below_up B17.out (below_up B23.out (Below.refl _ _))))))))))
        go_wp2_with (rw [VY1.out])
        refine (OV.out _ (HR0.out.below P23.out)).mono ?_
        rintro e z24 ⟨rfl, b24⟩
        have B24 := Lib.hid b24
        have P24 := Lib.hid (below_up P23.out b24)
        clear b24
        clear qb0 qb1 qb2 qb3 qt0 qt1 qt2 qt3
        clear qp0 qp1 qp2 qp3
        have rp := RP1.out.below B24.out
        have rq := RQ1.out.below B24.out
        have hb := below_up BY1.out B24.out
        obtain ⟨qq0, qq1, qq2, qq3⟩ := rq
        obtain ⟨y2, hy2⟩ : ∃ y, (z24.setCell ⟨z19.heap.size, 0, none⟩ (.string (outN ev (qb * t)))).setCell ⟨z19.heap.size, 1, none⟩ (.string (outD ev (qb * t))) = y := ⟨_, rfl⟩
        have RP2 := Lib.hid (show RatAt y2 z17.heap.size (outN eu (qa * t)) (outD eu (qa * t)) by rw [← hy2]; exact rat_set_farO (Nat.ne_of_gt HPQ.out) rp)
        have RQ2 := Lib.hid (show RatAt y2 z19.heap.size (outN ev (qb * t)) (outD ev (qb * t)) by rw [← hy2]; exact ratAt_set ⟨qq0, qq1, qq2, qq3⟩)
        have BY2 := Lib.hid (show Below z17.heap.size z17 y2 by rw [← hy2]; exact below_setO (Nat.le_of_lt HPQ.out) hb)
        have VY2 := Lib.hid hy2
        clear hy2 hb rp
        have B25 := BY2
        have P25 := Lib.hid (below_up P17.out BY2.out)
        have FP := Lib.hid (fun W (b : Below y2.heap.size y2 W) => RatAt.below RP2.out b)
        have FQ := Lib.hid (fun W (b : Below y2.heap.size y2 W) => RatAt.below RQ2.out b)
        go_upto_region 20 with (rw [VY2.out])
        clear qq0 qq1 qq2 qq3
        have oy := OY.out; have on := ON'.out
        cases eu with
        | false =>
          go_quiet ((fail))
          all_goals (go_wp2; go_ret; exact ⟨rfl, below_up HB0.out ⟨P25.out.os, P25.out.tape, P25.out.output, P25.out.size, P25.out.block⟩⟩)
        | true =>
          cases ev with
          | false =>
            go_quiet ((fail))
            all_goals (go_wp2; go_ret; exact ⟨rfl, below_up HB0.out ⟨P25.out.os, P25.out.tape, P25.out.output, P25.out.size, P25.out.block⟩⟩)
          | true =>
            have XU2 := Lib.hid (XU.out rfl rfl)
            clear oy on
            have hst := HST.out; have hab := HAB.out
            have hwr : IntKind.i64.wrap (ab * st) = ab * st := IntWalk.i64_in _ (by rcases hab with h | h | h <;> subst h <;> omega)
            clear hst hab
            have K := Lib.hid (show ∀ W, Below y2.heap.size y2 W → ((W.cell? ⟨z17.heap.size, 0, none⟩ = some (.string (nT (qa * t))) ∧ W.cell? ⟨z17.heap.size, 1, none⟩ = some (.string (dT (qa * t)))) ∧ (W.cell? ⟨z19.heap.size, 0, none⟩ = some (.string (nT (qb * t))) ∧ W.cell? ⟨z19.heap.size, 1, none⟩ = some (.string (dT (qb * t)))) ∧ (W.cell? ⟨z8.heap.size, 0, none⟩ = some (.string NT) ∧ W.cell? ⟨z8.heap.size, 1, none⟩ = some (.string DT))) from fun W b => ⟨⟨(FP.out W b).1, (FP.out W b).2.1⟩, ⟨(FQ.out W b).1, (FQ.out W b).2.1⟩, ⟨(F9.out W (below_up B10.out (below_up B11.out (below_up B12.out (below_up B13.out (below_up B14.out (below_up B15.out (below_up B16.out (below_up B17.out (below_up B25.out b)))))))))).1, (F9.out W (below_up B10.out (below_up B11.out (below_up B12.out (below_up B13.out (below_up B14.out (below_up B15.out (below_up B16.out (below_up B17.out (below_up B25.out b)))))))))).2.1⟩⟩)
            have HRz := Lib.hid (HR0.out.below P25.out)
            have g := Below.refl y2.heap.size y2
            go_region_held3 (fun W => (W.cell? ⟨z17.heap.size, 0, none⟩ = some (.string (nT (qa * t))) ∧ W.cell? ⟨z17.heap.size, 1, none⟩ = some (.string (dT (qa * t)))) ∧ (W.cell? ⟨z19.heap.size, 0, none⟩ = some (.string (nT (qb * t))) ∧ W.cell? ⟨z19.heap.size, 1, none⟩ = some (.string (dT (qb * t)))) ∧ (W.cell? ⟨z8.heap.size, 0, none⟩ = some (.string NT) ∧ W.cell? ⟨z8.heap.size, 1, none⟩ = some (.string DT))) (first | exact K.out _ g | exact K.out _ ⟨g.os, g.tape, g.output, g.size, g.block⟩) (first | (go_at_call 41; (with_reducible refine (IS.out _ _ _).mono ?_); (rintro e y ⟨rfl, k'⟩); (have g : Below y2.heap.size y2 y := below_up (by first | exact g | exact ⟨g.os, g.tape, g.output, g.size, g.block⟩) k')) | (go_at_call 20; (with_reducible refine (XU2.out _ ?_).mono ?_); (first | exact HRz.out.below g | exact HRz.out.below ⟨g.os, g.tape, g.output, g.size, g.block⟩); (rintro e y ⟨rfl, k'⟩); (have g : Below y2.heap.size y2 y := below_up (by first | exact g | exact ⟨g.os, g.tape, g.output, g.size, g.block⟩) k')) | (go_at_call 20; (with_reducible refine (XT.out _ ?_).mono ?_); (first | exact HRz.out.below g | exact HRz.out.below ⟨g.os, g.tape, g.output, g.size, g.block⟩); (rintro e y ⟨rfl, k'⟩); (have g : Below y2.heap.size y2 y := below_up (by first | exact g | exact ⟨g.os, g.tape, g.output, g.size, g.block⟩) k')))
            all_goals (
              have PE := Lib.hid (below_up P25.out (show Below y2.heap.size y2 _ by first | exact g | exact ⟨g.os, g.tape, g.output, g.size, g.block⟩))
              go_wp2
              go_ret
              first | exact ⟨rfl, below_up HB0.out PE.out⟩ | exact ⟨rfl, below_up HB0.out ⟨PE.out.os, PE.out.tape, PE.out.output, PE.out.size, PE.out.block⟩⟩)
end Go.Proofs.YtlcibnmcannapaaGreatDoor
