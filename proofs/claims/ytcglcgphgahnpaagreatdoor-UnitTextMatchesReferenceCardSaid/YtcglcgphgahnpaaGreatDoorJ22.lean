/-
  The contracts of package unit: the small functions, Valid and ValidUnit, and checked, which every operation ends with. The contracts of package unit: apply, over fractions and over integers, for any two functions of a struct.
-/
import Derived.Test.YtcglcgphgahnpaaGreatDoorJ21
import Derived.Deep.CutRange
import Derived.Deep.DeepCutAuto
import Derived.ChangeAlike
set_option maxRecDepth 100000
set_option maxHeartbeats 16000000
namespace Go.Proofs.YtcglcgphgahnpaaGreatDoor
open Go Go.Proofs Go.RowKit Go.Lib
theorem expsOf_u (t b m c : Int) (w : World) : Calls Tryz.prog 41 #[.agg #[.int .i64 t, .int .i64 b, .int .i64 m, .int .i64 c]] w fun e w' => e = .returned (.agg #[.int .i64 t, .int .i64 b, .int .i64 m, .int .i64 c]) ∧ Below w.heap.size w w' := by
 obtain ⟨W0, hW0, b0, s0, hcc⟩ := lay2 w (.int .i64 t) [.int .i64 b, .int .i64 m, .int .i64 c] 25 (.int .i64 0) [.int .i64 0, .int .i64 0, .int .i64 0] 28
 obtain ⟨c1, c2⟩ := hcc W0 (Below.refl _ _)
 obtain ⟨y, hy⟩ : ∃ y, ((((W0.setCell ⟨w.heap.size + 1, 0, none⟩ (.int .i64 t)).setCell ⟨w.heap.size + 1, 1, none⟩ (.int .i64 b)).setCell ⟨w.heap.size + 1, 2, none⟩ (.int .i64 m)).setCell ⟨w.heap.size + 1, 3, none⟩ (.int .i64 c)) = y := ⟨_, rfl⟩
 have KY := hid (show CellsAt y (w.heap.size + 1) [.int .i64 t, .int .i64 b, .int .i64 m, .int .i64 c] by rw [← hy]; exact put4 c2 _ _ _ _)
 have BY := hid (show Below w.heap.size w y by rw [← hy]; exact low4 (show w.heap.size ≤ w.heap.size + 1 by omega) b0 _ _ _ _)
 have HY := hid hy; have HW := hid hW0
 obtain ⟨⟨p0, p1, p2, p3⟩, _⟩ := four_facts c1
 obtain ⟨⟨q0, q1, q2, q3⟩, ⟨q4, q5, q6, q7⟩⟩ := four_facts c2
 clear hy hW0 b0 hcc c1 c2 s0
 go_enter Tryz.func41, Tryz.ntmps41
 go_upto_region 1 with (rw [HW.out])
 go_wp2_with (first | rw [HY.out])
 obtain ⟨⟨s0, s1, s2, s3⟩, _⟩ := four_facts KY.out
 exact bodyPost_ret (v := .agg #[.int .i64 t, .int .i64 b, .int .i64 m, .int .i64 c]) (by simp [results, Tryz.results41, go_sem, s0, s1, s2, s3]) rfl ⟨rfl, BY.out⟩
theorem unitOf_u (t b m c : Int) (w : World) : Calls Tryz.prog 73 #[.agg #[.int .i64 t, .int .i64 b, .int .i64 m, .int .i64 c]] w fun e w' => e = .returned (.agg #[.int .i64 t, .int .i64 b, .int .i64 m, .int .i64 c]) ∧ Below w.heap.size w w' := by
 obtain ⟨W0, hW0, b0, s0, hcc⟩ := lay2 w (.int .i64 t) [.int .i64 b, .int .i64 m, .int .i64 c] 28 (.int .i64 0) [.int .i64 0, .int .i64 0, .int .i64 0] 25
 obtain ⟨c1, c2⟩ := hcc W0 (Below.refl _ _)
 obtain ⟨y, hy⟩ : ∃ y, ((((W0.setCell ⟨w.heap.size + 1, 0, none⟩ (.int .i64 t)).setCell ⟨w.heap.size + 1, 1, none⟩ (.int .i64 b)).setCell ⟨w.heap.size + 1, 2, none⟩ (.int .i64 m)).setCell ⟨w.heap.size + 1, 3, none⟩ (.int .i64 c)) = y := ⟨_, rfl⟩
 have KY := hid (show CellsAt y (w.heap.size + 1) [.int .i64 t, .int .i64 b, .int .i64 m, .int .i64 c] by rw [← hy]; exact put4 c2 _ _ _ _)
 have BY := hid (show Below w.heap.size w y by rw [← hy]; exact low4 (show w.heap.size ≤ w.heap.size + 1 by omega) b0 _ _ _ _)
 have HY := hid hy; have HW := hid hW0
 obtain ⟨⟨p0, p1, p2, p3⟩, _⟩ := four_facts c1
 obtain ⟨⟨q0, q1, q2, q3⟩, ⟨q4, q5, q6, q7⟩⟩ := four_facts c2
 clear hy hW0 b0 hcc c1 c2 s0
 go_enter Tryz.func73, Tryz.ntmps73
 go_upto_region 1 with (rw [HW.out])
 go_wp2_with (first | rw [HY.out])
 obtain ⟨⟨s0, s1, s2, s3⟩, _⟩ := four_facts KY.out
 exact bodyPost_ret (v := .agg #[.int .i64 t, .int .i64 b, .int .i64 m, .int .i64 c]) (by simp [results, Tryz.results73, go_sem, s0, s1, s2, s3]) rfl ⟨rfl, BY.out⟩
theorem okE_no0 {t b m c : Int} (h : ¬ InE t) : okE t b m c = false := by unfold okE; rw [decide_eq_false h]; rfl
theorem okE_no1 {t b m c : Int} (h : ¬ InE b) : okE t b m c = false := by unfold okE; rw [decide_eq_false h]; simp
theorem okE_no2 {t b m c : Int} (h : ¬ InE m) : okE t b m c = false := by unfold okE; rw [decide_eq_false h]; simp
theorem okE_no3 {t b m c : Int} (h : ¬ InE c) : okE t b m c = false := by unfold okE; rw [decide_eq_false h]; simp
theorem okE_yes {t b m c : Int} (h0 : InE t) (h1 : InE b) (h2 : InE m) (h3 : InE c) : okE t b m c = true := by unfold okE; rw [decide_eq_true h0, decide_eq_true h1, decide_eq_true h2, decide_eq_true h3]; rfl
theorem validUnit_u (t b m c : Int) (w : World) : Calls Tryz.prog 15 #[.agg #[.int .i64 t, .int .i64 b, .int .i64 m, .int .i64 c]] w fun e w' => e = .returned (.bool (okE t b m c)) ∧ Below w.heap.size w w' := by
 obtain ⟨W0, hW0, b0, s0, hcc⟩ := lay1 w (.int .i64 t) [.int .i64 b, .int .i64 m, .int .i64 c] 25
 have ce := fun W => expsOf_u t b m c W
 have HW := hid hW0; have B0 := hid b0; have CE := hid ce; have HC := hid hcc
 clear hW0 b0 hcc ce s0
 go_enter Tryz.func15, Tryz.ntmps15
 obtain ⟨⟨p0, p1, p2, p3⟩, _⟩ := four_facts (HC.out W0 (Below.refl _ _))
 go_wp2_with (rw [HW.out])
 refine (CE.out _).mono ?_
 rintro e z1 ⟨rfl, b1⟩
 have B1 := hid b1
 clear b1 p0 p1 p2 p3
 go_wp2_with fail
 go_loopw [7] (fun i wr => Hid (Below z1.heap.size z1 wr) ∧ ((i = .int .i64 0) ∨ (i = .int .i64 1 ∧ InE t) ∨ (i = .int .i64 2 ∧ InE t ∧ InE b) ∨ (i = .int .i64 3 ∧ InE t ∧ InE b ∧ InE m) ∨ (i = .int .i64 4 ∧ InE t ∧ InE b ∧ InE m ∧ InE c))) (fun i _ => 4 - (RowKit.intOf i).toNat)
 case atStart => exact ⟨hid (Below.refl _ _), .inl rfl⟩
 obtain ⟨hbw, rfl | ⟨rfl, g0⟩ | ⟨rfl, g0, g1⟩ | ⟨rfl, g0, g1, g2⟩ | ⟨rfl, g0, g1, g2, g3⟩⟩ := hrel
 · by_cases hx : InE t
   · have hx1 : ¬ t < -3 := by unfold InE at hx; omega
     have hx2 : ¬ 3 < t := by unfold InE at hx; omega
     have GX := hid hx
     clear hx
     have tix := idx4_0 (.int .i64 t) (.int .i64 b) (.int .i64 m) (.int .i64 c) wr
     go_wp2_with fail
     go_roundw
     case rel => exact ⟨hbw, .inr (.inl ⟨rfl, GX.out⟩)⟩
     case measure => simp [RowKit.intOf]
   have hno := okE_no0 (t := t) (b := b) (m := m) (c := c) hx
   by_cases hx1 : t < -3
   · have HNO := hid hno
     clear hno hx
     have tix := idx4_0 (.int .i64 t) (.int .i64 b) (.int .i64 m) (.int .i64 c) wr
     go_wp2
     go_ret
     exact ⟨by rw [HNO.out]; rfl, below_up B0.out (below_up B1.out hbw.out)⟩
   have hx2 : 3 < t := by unfold InE at hx; omega
   have HNO := hid hno
   clear hno hx
   have tix := idx4_0 (.int .i64 t) (.int .i64 b) (.int .i64 m) (.int .i64 c) wr
   go_wp2
   go_ret
   exact ⟨by rw [HNO.out]; rfl, below_up B0.out (below_up B1.out hbw.out)⟩
 · by_cases hx : InE b
   · have hx1 : ¬ b < -3 := by unfold InE at hx; omega
     have hx2 : ¬ 3 < b := by unfold InE at hx; omega
     have GX := hid hx
     clear hx
     have tix := idx4_1 (.int .i64 t) (.int .i64 b) (.int .i64 m) (.int .i64 c) wr
     go_wp2_with fail
     go_roundw
     case rel => exact ⟨hbw, .inr (.inr (.inl ⟨rfl, g0, GX.out⟩))⟩
     case measure => simp [RowKit.intOf]
   have hno := okE_no1 (t := t) (b := b) (m := m) (c := c) hx
   by_cases hx1 : b < -3
   · have HNO := hid hno
     clear hno hx
     have tix := idx4_1 (.int .i64 t) (.int .i64 b) (.int .i64 m) (.int .i64 c) wr
     go_wp2
     go_ret
     exact ⟨by rw [HNO.out]; rfl, below_up B0.out (below_up B1.out hbw.out)⟩
   have hx2 : 3 < b := by unfold InE at hx; omega
   have HNO := hid hno
   clear hno hx
   have tix := idx4_1 (.int .i64 t) (.int .i64 b) (.int .i64 m) (.int .i64 c) wr
   go_wp2
   go_ret
   exact ⟨by rw [HNO.out]; rfl, below_up B0.out (below_up B1.out hbw.out)⟩
 · by_cases hx : InE m
   · have hx1 : ¬ m < -3 := by unfold InE at hx; omega
     have hx2 : ¬ 3 < m := by unfold InE at hx; omega
     have GX := hid hx
     clear hx
     have tix := idx4_2 (.int .i64 t) (.int .i64 b) (.int .i64 m) (.int .i64 c) wr
     go_wp2_with fail
     go_roundw
     case rel => exact ⟨hbw, .inr (.inr (.inr (.inl ⟨rfl, g0, g1, GX.out⟩)))⟩
     case measure => simp [RowKit.intOf]
   have hno := okE_no2 (t := t) (b := b) (m := m) (c := c) hx
   by_cases hx1 : m < -3
   · have HNO := hid hno
     clear hno hx
     have tix := idx4_2 (.int .i64 t) (.int .i64 b) (.int .i64 m) (.int .i64 c) wr
     go_wp2
     go_ret
     exact ⟨by rw [HNO.out]; rfl, below_up B0.out (below_up B1.out hbw.out)⟩
   have hx2 : 3 < m := by unfold InE at hx; omega
   have HNO := hid hno
   clear hno hx
   have tix := idx4_2 (.int .i64 t) (.int .i64 b) (.int .i64 m) (.int .i64 c) wr
   go_wp2
   go_ret
   exact ⟨by rw [HNO.out]; rfl, below_up B0.out (below_up B1.out hbw.out)⟩
 · by_cases hx : InE c
   · have hx1 : ¬ c < -3 := by unfold InE at hx; omega
     have hx2 : ¬ 3 < c := by unfold InE at hx; omega
     have GX := hid hx
     clear hx
     have tix := idx4_3 (.int .i64 t) (.int .i64 b) (.int .i64 m) (.int .i64 c) wr
     go_wp2_with fail
     go_roundw
     case rel => exact ⟨hbw, .inr (.inr (.inr (.inr (⟨rfl, g0, g1, g2, GX.out⟩))))⟩
     case measure => simp [RowKit.intOf]
   have hno := okE_no3 (t := t) (b := b) (m := m) (c := c) hx
   by_cases hx1 : c < -3
   · have HNO := hid hno
     clear hno hx
     have tix := idx4_3 (.int .i64 t) (.int .i64 b) (.int .i64 m) (.int .i64 c) wr
     go_wp2
     go_ret
     exact ⟨by rw [HNO.out]; rfl, below_up B0.out (below_up B1.out hbw.out)⟩
   have hx2 : 3 < c := by unfold InE at hx; omega
   have HNO := hid hno
   clear hno hx
   have tix := idx4_3 (.int .i64 t) (.int .i64 b) (.int .i64 m) (.int .i64 c) wr
   go_wp2
   go_ret
   exact ⟨by rw [HNO.out]; rfl, below_up B0.out (below_up B1.out hbw.out)⟩
 have hyes := hid (okE_yes g0 g1 g2 g3)
 clear g0 g1 g2 g3
 go_wp2
 go_ret
 exact ⟨by rw [hyes.out]; rfl, below_up B0.out (below_up B1.out hbw.out)⟩
theorem behind_lenT (n : ByteArray) : (behindB n).size = lenT n := by
 unfold behindB minusB lenT
 by_cases h : (bytesL n).head? = some 45
 · rw [if_pos h, if_pos (decide_eq_true h), ByteArray.size_extract]; omega
 rw [if_neg h, decide_eq_false h]; rfl
theorem fit60_big {n d : ByteArray} (h : ¬ lenT n ≤ 60) : fit60 n d = false := by unfold fit60; rw [decide_eq_false h]; rfl
theorem fit60_long {n d : ByteArray} (h : ¬ d.size ≤ 60) : fit60 n d = false := by unfold fit60; rw [decide_eq_false h]; simp
theorem fit60_val {n d : ByteArray} (h : lenT n ≤ 60) (h1 : d.size ≤ 60) : fit60 n d = validQ n d := by unfold fit60; rw [decide_eq_true h, decide_eq_true h1]; rfl
theorem fits_u (n d : ByteArray) (hn : n.size ≤ 1099511627776) (hd : d.size ≤ 1099511627776) (w : World) (hR : Ready w) : Calls Tryz.prog 39 #[.agg #[.string n, .string d]] w fun e w' => e = .returned (.bool (fit60 n d)) ∧ Below w.heap.size w w' := by
 obtain ⟨W0, hW0, b0, s0, hcc⟩ := lay1 w (.string n) [.string d] 23
 have ct := fun W => trimPrefix_any n hn W
 have cv := fun W (h : Ready W) => valid_q n d hn hd W h
 have hlen := behind_lenT n
 generalize behindB n = B at *
 have HW := hid hW0; have B0 := hid b0; have CT := hid ct; have CV := hid cv; have HC := hid hcc; have HR := hid (hR.below b0)
 clear hW0 b0 hcc ct cv s0 hR
 by_cases h1 : lenT n ≤ 60
 · have k1 : (B.size : Int) ≤ 60 := by omega
   by_cases h2 : d.size ≤ 60
   · have k2 : (d.size : Int) ≤ 60 := by omega
     rw [fit60_val h1 h2]
     generalize validQ n d = v at *
     clear h1 h2 hlen
     go_enter Tryz.func39, Tryz.ntmps39
     obtain ⟨⟨p0, p1⟩, _⟩ := two_facts (HC.out W0 (Below.refl _ _))
     go_wp2_with (rw [HW.out])
     refine (CT.out _).mono ?_
     rintro e z1 ⟨rfl, rfl⟩
     go_wp2_with fail
     refine (CV.out _ HR.out).mono ?_
     rintro e z1 ⟨rfl, b1⟩
     have P1 := hid (below_up B0.out b1)
     clear b1 p0 p1
     go_wp2
     go_ret
     exact ⟨rfl, P1.out⟩
   have k2 : ¬ (d.size : Int) ≤ 60 := by omega
   rw [fit60_long h2]
   clear h1 h2 hlen
   go_enter Tryz.func39, Tryz.ntmps39
   obtain ⟨⟨p0, p1⟩, _⟩ := two_facts (HC.out W0 (Below.refl _ _))
   go_wp2_with (rw [HW.out])
   refine (CT.out _).mono ?_
   rintro e z1 ⟨rfl, rfl⟩
   go_wp2
   go_ret
   exact ⟨rfl, B0.out⟩
 have k1 : ¬ (B.size : Int) ≤ 60 := by omega
 rw [fit60_big h1]
 clear h1 hlen
 go_enter Tryz.func39, Tryz.ntmps39
 obtain ⟨⟨p0, p1⟩, _⟩ := two_facts (HC.out W0 (Below.refl _ _))
 go_wp2_with (rw [HW.out])
 refine (CT.out _).mono ?_
 rintro e z1 ⟨rfl, rfl⟩
 go_wp2
 go_ret
 exact ⟨rfl, B0.out⟩
theorem valid_u (n d : ByteArray) (t b m c : Int) (hn : n.size ≤ 1099511627776) (hd : d.size ≤ 1099511627776) (w : World) (hR : Ready w) : Calls Tryz.prog 13 #[.agg #[.string n, .string d, .int .i64 t, .int .i64 b, .int .i64 m, .int .i64 c]] w fun e w' => e = .returned (.bool (okU n d t b m c)) ∧ Below w.heap.size w w' := by
 obtain ⟨W0, hW0, b0, s0, hcc⟩ := lay1 w (.string n) [.string d, .int .i64 t, .int .i64 b, .int .i64 m, .int .i64 c] 27
 have cu := fun W => validUnit_u t b m c W
 have cf := fun W (h : Ready W) => fits_u n d hn hd W h
 unfold okU
 generalize okE t b m c = x at *
 generalize fit60 n d = y at *
 have HW := hid hW0; have B0 := hid b0; have CU := hid cu; have CF := hid cf; have HC := hid hcc; have HR := hid (hR.below b0)
 clear hW0 b0 hcc cu cf s0 hR
 cases x with
 | false =>
  rw [Bool.false_and]
  go_enter Tryz.func13, Tryz.ntmps13
  obtain ⟨⟨c0, c1, c2, c3, c4, c5⟩, _⟩ := six_facts (HC.out W0 (Below.refl _ _))
  go_wp2_with (rw [HW.out])
  refine (CU.out _).mono ?_
  rintro e z1 ⟨rfl, b1⟩
  have P1 := hid (below_up B0.out b1)
  clear b1 c0 c1 c2 c3 c4 c5
  go_wp2
  go_ret
  exact ⟨rfl, P1.out⟩
 | true =>
  rw [Bool.true_and]
  go_enter Tryz.func13, Tryz.ntmps13
  obtain ⟨⟨c0, c1, c2, c3, c4, c5⟩, _⟩ := six_facts (HC.out W0 (Below.refl _ _))
  go_wp2_with (rw [HW.out])
  refine (CU.out _).mono ?_
  rintro e z1 ⟨rfl, b1⟩
  have P1 := hid (below_up B0.out b1)
  have B1 := hid b1
  clear b1 c0 c1 c2 c3 c4 c5
  obtain ⟨⟨c0, c1, c2, c3, c4, c5⟩, _⟩ := six_facts (HC.out z1 B1.out)
  go_wp2_with fail
  refine (CF.out _ (HR.out.below B1.out)).mono ?_
  rintro e z2 ⟨rfl, b2⟩
  have P2 := hid (below_up P1.out b2)
  clear b2 c0 c1 c2 c3 c4 c5
  go_wp2
  go_ret
  exact ⟨rfl, P2.out⟩
theorem product_u (t b m c t' b' m' c' : Int) (h0 : InE t) (h1 : InE b) (h2 : InE m) (h3 : InE c) (g0 : InE t') (g1 : InE b') (g2 : InE m') (g3 : InE c') (w : World) : Calls Tryz.prog 52 #[.agg #[.int .i64 t, .int .i64 b, .int .i64 m, .int .i64 c], .agg #[.int .i64 t', .int .i64 b', .int .i64 m', .int .i64 c']] w fun e w' => e = .returned (.tuple #[.agg #[.int .i64 (t + t'), .int .i64 (b + b'), .int .i64 (m + m'), .int .i64 (c + c')], .int .i64 0]) ∧ Below w.heap.size w w' := by
 obtain ⟨W0, hW0, b0, s0, hcc⟩ := lay3 w (.int .i64 t) [.int .i64 b, .int .i64 m, .int .i64 c] 25 (.int .i64 t') [.int .i64 b', .int .i64 m', .int .i64 c'] 25 (.int .i64 0) [.int .i64 0, .int .i64 0, .int .i64 0] 25
 obtain ⟨c1, c2, c3⟩ := hcc W0 (Below.refl _ _)
 obtain ⟨y, hy⟩ : ∃ y, ((((W0.setCell ⟨w.heap.size + 1 + 1, 0, none⟩ (.int .i64 (t + t'))).setCell ⟨w.heap.size + 1 + 1, 1, none⟩ (.int .i64 (b + b'))).setCell ⟨w.heap.size + 1 + 1, 2, none⟩ (.int .i64 (m + m'))).setCell ⟨w.heap.size + 1 + 1, 3, none⟩ (.int .i64 (c + c'))) = y := ⟨_, rfl⟩
 have KY := hid (show CellsAt y (w.heap.size + 1 + 1) [.int .i64 (t + t'), .int .i64 (b + b'), .int .i64 (m + m'), .int .i64 (c + c')] by rw [← hy]; exact put4 c3 _ _ _ _)
 have BY := hid (show Below w.heap.size w y by rw [← hy]; exact low4 (show w.heap.size ≤ w.heap.size + 1 + 1 by omega) b0 _ _ _ _)
 have HY := hid hy; have HW := hid hW0
 obtain ⟨⟨p0, p1, p2, p3⟩, _⟩ := four_facts c1
 obtain ⟨⟨q0, q1, q2, q3⟩, _⟩ := four_facts c2
 obtain ⟨⟨r0, r1, r2, r3⟩, ⟨r4, r5, r6, r7⟩⟩ := four_facts c3
 unfold InE at h0 h1 h2 h3 g0 g1 g2 g3
 obtain ⟨h0, h0'⟩ := h0; obtain ⟨h1, h1'⟩ := h1; obtain ⟨h2, h2'⟩ := h2; obtain ⟨h3, h3'⟩ := h3
 obtain ⟨g0, g0'⟩ := g0; obtain ⟨g1, g1'⟩ := g1; obtain ⟨g2, g2'⟩ := g2; obtain ⟨g3, g3'⟩ := g3
 clear hy hW0 b0 hcc c1 c2 c3 s0
 go_enter Tryz.func52, Tryz.ntmps52
 go_upto_region 1 with (rw [HW.out])
 go_wp2_with (first | rw [HY.out])
 obtain ⟨⟨s0, s1, s2, s3⟩, _⟩ := four_facts KY.out
 exact bodyPost_ret (v := .tuple #[.agg #[.int .i64 (t + t'), .int .i64 (b + b'), .int .i64 (m + m'), .int .i64 (c + c')], .int .i64 0]) (by simp [results, Tryz.results52, go_sem, s0, s1, s2, s3]) rfl ⟨rfl, BY.out⟩
theorem quotient_u (t b m c t' b' m' c' : Int) (h0 : InE t) (h1 : InE b) (h2 : InE m) (h3 : InE c) (g0 : InE t') (g1 : InE b') (g2 : InE m') (g3 : InE c') (w : World) : Calls Tryz.prog 56 #[.agg #[.int .i64 t, .int .i64 b, .int .i64 m, .int .i64 c], .agg #[.int .i64 t', .int .i64 b', .int .i64 m', .int .i64 c']] w fun e w' => e = .returned (.tuple #[.agg #[.int .i64 (t - t'), .int .i64 (b - b'), .int .i64 (m - m'), .int .i64 (c - c')], .int .i64 0]) ∧ Below w.heap.size w w' := by
 obtain ⟨W0, hW0, b0, s0, hcc⟩ := lay3 w (.int .i64 t) [.int .i64 b, .int .i64 m, .int .i64 c] 25 (.int .i64 t') [.int .i64 b', .int .i64 m', .int .i64 c'] 25 (.int .i64 0) [.int .i64 0, .int .i64 0, .int .i64 0] 25
 obtain ⟨c1, c2, c3⟩ := hcc W0 (Below.refl _ _)
 obtain ⟨y, hy⟩ : ∃ y, ((((W0.setCell ⟨w.heap.size + 1 + 1, 0, none⟩ (.int .i64 (t - t'))).setCell ⟨w.heap.size + 1 + 1, 1, none⟩ (.int .i64 (b - b'))).setCell ⟨w.heap.size + 1 + 1, 2, none⟩ (.int .i64 (m - m'))).setCell ⟨w.heap.size + 1 + 1, 3, none⟩ (.int .i64 (c - c'))) = y := ⟨_, rfl⟩
 have KY := hid (show CellsAt y (w.heap.size + 1 + 1) [.int .i64 (t - t'), .int .i64 (b - b'), .int .i64 (m - m'), .int .i64 (c - c')] by rw [← hy]; exact put4 c3 _ _ _ _)
 have BY := hid (show Below w.heap.size w y by rw [← hy]; exact low4 (show w.heap.size ≤ w.heap.size + 1 + 1 by omega) b0 _ _ _ _)
 have HY := hid hy; have HW := hid hW0
 obtain ⟨⟨p0, p1, p2, p3⟩, _⟩ := four_facts c1
 obtain ⟨⟨q0, q1, q2, q3⟩, _⟩ := four_facts c2
 obtain ⟨⟨r0, r1, r2, r3⟩, ⟨r4, r5, r6, r7⟩⟩ := four_facts c3
 unfold InE at h0 h1 h2 h3 g0 g1 g2 g3
 obtain ⟨h0, h0'⟩ := h0; obtain ⟨h1, h1'⟩ := h1; obtain ⟨h2, h2'⟩ := h2; obtain ⟨h3, h3'⟩ := h3
 obtain ⟨g0, g0'⟩ := g0; obtain ⟨g1, g1'⟩ := g1; obtain ⟨g2, g2'⟩ := g2; obtain ⟨g3, g3'⟩ := g3
 clear hy hW0 b0 hcc c1 c2 c3 s0
 go_enter Tryz.func56, Tryz.ntmps56
 go_upto_region 1 with (rw [HW.out])
 go_wp2_with (first | rw [HY.out])
 obtain ⟨⟨s0, s1, s2, s3⟩, _⟩ := four_facts KY.out
 exact bodyPost_ret (v := .tuple #[.agg #[.int .i64 (t - t'), .int .i64 (b - b'), .int .i64 (m - m'), .int .i64 (c - c')], .int .i64 0]) (by simp [results, Tryz.results56, go_sem, s0, s1, s2, s3]) rfl ⟨rfl, BY.out⟩
def sameU (t b m c t' b' m' c' : Int) : Bool := (t == t') && ((b == b') && ((m == m') && (c == c')))
theorem sameU_iff {t b m c t' b' m' c' : Int} : sameU t b m c t' b' m' c' = true ↔ t = t' ∧ b = b' ∧ m = m' ∧ c = c' := by
 unfold sameU
 simp only [Bool.and_eq_true, beq_iff_eq]
def zU (x : Bool) (i : Int) : Int := if x then i else 0
def eU (x : Bool) : Int := if x then 0 else 50
theorem same_u (t b m c t' b' m' c' : Int) (w : World) : Calls Tryz.prog 46 #[.agg #[.int .i64 t, .int .i64 b, .int .i64 m, .int .i64 c], .agg #[.int .i64 t', .int .i64 b', .int .i64 m', .int .i64 c']] w fun e w' => e = .returned (.tuple #[.agg #[.int .i64 (zU (sameU t b m c t' b' m' c') t), .int .i64 (zU (sameU t b m c t' b' m' c') b), .int .i64 (zU (sameU t b m c t' b' m' c') m), .int .i64 (zU (sameU t b m c t' b' m' c') c)], .int .i64 (eU (sameU t b m c t' b' m' c'))]) ∧ Below w.heap.size w w' := by
 obtain ⟨W0, hW0, b0, s0, hcc⟩ := lay3 w (.int .i64 t) [.int .i64 b, .int .i64 m, .int .i64 c] 25 (.int .i64 t') [.int .i64 b', .int .i64 m', .int .i64 c'] 25 (.int .i64 0) [.int .i64 0, .int .i64 0, .int .i64 0] 25
 have HW := hid hW0; have B0 := hid b0; have HC := hid hcc
 clear hW0 b0 hcc s0
 cases hs : sameU t b m c t' b' m' c' with
 | true =>
  obtain ⟨e0, e1, e2, e3⟩ := sameU_iff.1 hs
  subst e0 e1 e2 e3
  clear hs
  show Calls _ _ _ _ fun e w' => e = .returned (.tuple #[.agg #[.int .i64 t, .int .i64 b, .int .i64 m, .int .i64 c], .int .i64 0]) ∧ _
  obtain ⟨c1, c2, c3⟩ := HC.out W0 (Below.refl _ _)
  obtain ⟨y, hy⟩ : ∃ y, ((((W0.setCell ⟨w.heap.size + 1 + 1, 0, none⟩ (.int .i64 t)).setCell ⟨w.heap.size + 1 + 1, 1, none⟩ (.int .i64 b)).setCell ⟨w.heap.size + 1 + 1, 2, none⟩ (.int .i64 m)).setCell ⟨w.heap.size + 1 + 1, 3, none⟩ (.int .i64 c)) = y := ⟨_, rfl⟩
  have KY := hid (show CellsAt y (w.heap.size + 1 + 1) [.int .i64 t, .int .i64 b, .int .i64 m, .int .i64 c] by rw [← hy]; exact put4 c3 _ _ _ _)
  have BY := hid (show Below w.heap.size w y by rw [← hy]; exact low4 (show w.heap.size ≤ w.heap.size + 1 + 1 by omega) B0.out _ _ _ _)
  have HY := hid hy
  obtain ⟨⟨p0, p1, p2, p3⟩, _⟩ := four_facts c1
  obtain ⟨⟨q0, q1, q2, q3⟩, _⟩ := four_facts c2
  obtain ⟨⟨r0, r1, r2, r3⟩, ⟨r4, r5, r6, r7⟩⟩ := four_facts c3
  clear hy c1 c2 c3
  go_enter Tryz.func46, Tryz.ntmps46
  go_upto_region 1 with (rw [HW.out])
  go_wp2_with (first | rw [HY.out])
  obtain ⟨⟨s0, s1, s2, s3⟩, _⟩ := four_facts KY.out
  exact bodyPost_ret (v := .tuple #[.agg #[.int .i64 t, .int .i64 b, .int .i64 m, .int .i64 c], .int .i64 0]) (by simp [results, Tryz.results46, go_sem, s0, s1, s2, s3]) rfl ⟨rfl, BY.out⟩
 | false =>
  show Calls _ _ _ _ fun e w' => e = .returned (.tuple #[.agg #[.int .i64 0, .int .i64 0, .int .i64 0, .int .i64 0], .int .i64 50]) ∧ _
  unfold sameU at hs
  by_cases e1 : t = t'
  · have k1 : (t == t') = true := by rw [beq_iff_eq]; exact e1
    rw [k1, Bool.true_and] at hs
    by_cases e2 : b = b'
    · have k2 : (b == b') = true := by rw [beq_iff_eq]; exact e2
      rw [k2, Bool.true_and] at hs
      by_cases e3 : m = m'
      · have k3 : (m == m') = true := by rw [beq_iff_eq]; exact e3
        rw [k3, Bool.true_and] at hs
        clear e1 e2 e3
        obtain ⟨c1, c2, c3⟩ := HC.out W0 (Below.refl _ _)
        obtain ⟨y, hy⟩ : ∃ y, ((((W0.setCell ⟨w.heap.size + 1 + 1, 0, none⟩ (.int .i64 0)).setCell ⟨w.heap.size + 1 + 1, 1, none⟩ (.int .i64 0)).setCell ⟨w.heap.size + 1 + 1, 2, none⟩ (.int .i64 0)).setCell ⟨w.heap.size + 1 + 1, 3, none⟩ (.int .i64 0)) = y := ⟨_, rfl⟩
        have KY := hid (show CellsAt y (w.heap.size + 1 + 1) [.int .i64 0, .int .i64 0, .int .i64 0, .int .i64 0] by rw [← hy]; exact put4 c3 _ _ _ _)
        have BY := hid (show Below w.heap.size w y by rw [← hy]; exact low4 (show w.heap.size ≤ w.heap.size + 1 + 1 by omega) B0.out _ _ _ _)
        have HY := hid hy
        obtain ⟨⟨p0, p1, p2, p3⟩, _⟩ := four_facts c1
        obtain ⟨⟨q0, q1, q2, q3⟩, _⟩ := four_facts c2
        obtain ⟨⟨r0, r1, r2, r3⟩, ⟨r4, r5, r6, r7⟩⟩ := four_facts c3
        clear hy c1 c2 c3
        go_enter Tryz.func46, Tryz.ntmps46
        go_upto_region 1 with (rw [HW.out])
        go_wp2_with (first | rw [HY.out])
        obtain ⟨⟨s0, s1, s2, s3⟩, _⟩ := four_facts KY.out
        exact bodyPost_ret (v := .tuple #[.agg #[.int .i64 0, .int .i64 0, .int .i64 0, .int .i64 0], .int .i64 50]) (by simp [results, Tryz.results46, go_sem, s0, s1, s2, s3]) rfl ⟨rfl, BY.out⟩
      have k3 : (m == m') = false := by rw [beq_eq_false_iff_ne]; exact e3
      clear e1 e2 e3 hs
      obtain ⟨c1, c2, c3⟩ := HC.out W0 (Below.refl _ _)
      obtain ⟨y, hy⟩ : ∃ y, ((((W0.setCell ⟨w.heap.size + 1 + 1, 0, none⟩ (.int .i64 0)).setCell ⟨w.heap.size + 1 + 1, 1, none⟩ (.int .i64 0)).setCell ⟨w.heap.size + 1 + 1, 2, none⟩ (.int .i64 0)).setCell ⟨w.heap.size + 1 + 1, 3, none⟩ (.int .i64 0)) = y := ⟨_, rfl⟩
      have KY := hid (show CellsAt y (w.heap.size + 1 + 1) [.int .i64 0, .int .i64 0, .int .i64 0, .int .i64 0] by rw [← hy]; exact put4 c3 _ _ _ _)
      have BY := hid (show Below w.heap.size w y by rw [← hy]; exact low4 (show w.heap.size ≤ w.heap.size + 1 + 1 by omega) B0.out _ _ _ _)
      have HY := hid hy
      obtain ⟨⟨p0, p1, p2, p3⟩, _⟩ := four_facts c1
      obtain ⟨⟨q0, q1, q2, q3⟩, _⟩ := four_facts c2
      obtain ⟨⟨r0, r1, r2, r3⟩, ⟨r4, r5, r6, r7⟩⟩ := four_facts c3
      clear hy c1 c2 c3
      go_enter Tryz.func46, Tryz.ntmps46
      go_upto_region 1 with (rw [HW.out])
      go_wp2_with (first | rw [HY.out])
      obtain ⟨⟨s0, s1, s2, s3⟩, _⟩ := four_facts KY.out
      exact bodyPost_ret (v := .tuple #[.agg #[.int .i64 0, .int .i64 0, .int .i64 0, .int .i64 0], .int .i64 50]) (by simp [results, Tryz.results46, go_sem, s0, s1, s2, s3]) rfl ⟨rfl, BY.out⟩
    have k2 : (b == b') = false := by rw [beq_eq_false_iff_ne]; exact e2
    clear e1 e2 hs
    obtain ⟨c1, c2, c3⟩ := HC.out W0 (Below.refl _ _)
    obtain ⟨y, hy⟩ : ∃ y, ((((W0.setCell ⟨w.heap.size + 1 + 1, 0, none⟩ (.int .i64 0)).setCell ⟨w.heap.size + 1 + 1, 1, none⟩ (.int .i64 0)).setCell ⟨w.heap.size + 1 + 1, 2, none⟩ (.int .i64 0)).setCell ⟨w.heap.size + 1 + 1, 3, none⟩ (.int .i64 0)) = y := ⟨_, rfl⟩
    have KY := hid (show CellsAt y (w.heap.size + 1 + 1) [.int .i64 0, .int .i64 0, .int .i64 0, .int .i64 0] by rw [← hy]; exact put4 c3 _ _ _ _)
    have BY := hid (show Below w.heap.size w y by rw [← hy]; exact low4 (show w.heap.size ≤ w.heap.size + 1 + 1 by omega) B0.out _ _ _ _)
    have HY := hid hy
    obtain ⟨⟨p0, p1, p2, p3⟩, _⟩ := four_facts c1
    obtain ⟨⟨q0, q1, q2, q3⟩, _⟩ := four_facts c2
    obtain ⟨⟨r0, r1, r2, r3⟩, ⟨r4, r5, r6, r7⟩⟩ := four_facts c3
    clear hy c1 c2 c3
    go_enter Tryz.func46, Tryz.ntmps46
    go_upto_region 1 with (rw [HW.out])
    go_wp2_with (first | rw [HY.out])
    obtain ⟨⟨s0, s1, s2, s3⟩, _⟩ := four_facts KY.out
    exact bodyPost_ret (v := .tuple #[.agg #[.int .i64 0, .int .i64 0, .int .i64 0, .int .i64 0], .int .i64 50]) (by simp [results, Tryz.results46, go_sem, s0, s1, s2, s3]) rfl ⟨rfl, BY.out⟩
  have k1 : (t == t') = false := by rw [beq_eq_false_iff_ne]; exact e1
  clear e1 hs
  obtain ⟨c1, c2, c3⟩ := HC.out W0 (Below.refl _ _)
  obtain ⟨y, hy⟩ : ∃ y, ((((W0.setCell ⟨w.heap.size + 1 + 1, 0, none⟩ (.int .i64 0)).setCell ⟨w.heap.size + 1 + 1, 1, none⟩ (.int .i64 0)).setCell ⟨w.heap.size + 1 + 1, 2, none⟩ (.int .i64 0)).setCell ⟨w.heap.size + 1 + 1, 3, none⟩ (.int .i64 0)) = y := ⟨_, rfl⟩
  have KY := hid (show CellsAt y (w.heap.size + 1 + 1) [.int .i64 0, .int .i64 0, .int .i64 0, .int .i64 0] by rw [← hy]; exact put4 c3 _ _ _ _)
  have BY := hid (show Below w.heap.size w y by rw [← hy]; exact low4 (show w.heap.size ≤ w.heap.size + 1 + 1 by omega) B0.out _ _ _ _)
  have HY := hid hy
  obtain ⟨⟨p0, p1, p2, p3⟩, _⟩ := four_facts c1
  obtain ⟨⟨q0, q1, q2, q3⟩, _⟩ := four_facts c2
  obtain ⟨⟨r0, r1, r2, r3⟩, ⟨r4, r5, r6, r7⟩⟩ := four_facts c3
  clear hy c1 c2 c3
  go_enter Tryz.func46, Tryz.ntmps46
  go_upto_region 1 with (rw [HW.out])
  go_wp2_with (first | rw [HY.out])
  obtain ⟨⟨s0, s1, s2, s3⟩, _⟩ := four_facts KY.out
  exact bodyPost_ret (v := .tuple #[.agg #[.int .i64 0, .int .i64 0, .int .i64 0, .int .i64 0], .int .i64 50]) (by simp [results, Tryz.results46, go_sem, s0, s1, s2, s3]) rfl ⟨rfl, BY.out⟩
def pz (x : Bool) (s : ByteArray) : ByteArray := if x then s else ⟨#[]⟩
theorem checked_u (n d : ByteArray) (t b m c e : Int) (hn : n.size ≤ 1099511627776) (hd : d.size ≤ 1099511627776) (w : World) (hR : Ready w) : Calls Tryz.prog 43 #[.agg #[.string n, .string d], .agg #[.int .i64 t, .int .i64 b, .int .i64 m, .int .i64 c], .int .i64 e] w fun e' w' => e' = .returned (.tuple #[.agg #[.string (pz (decide (e = 0) && okU n d t b m c) n), .string (pz (decide (e = 0) && okU n d t b m c) d), .int .i64 (zU (decide (e = 0) && okU n d t b m c) t), .int .i64 (zU (decide (e = 0) && okU n d t b m c) b), .int .i64 (zU (decide (e = 0) && okU n d t b m c) m), .int .i64 (zU (decide (e = 0) && okU n d t b m c) c)], .int .i64 (eU (decide (e = 0) && okU n d t b m c))]) ∧ Below w.heap.size w w' := by
 obtain ⟨W0, hW0, b0, s0, hcc⟩ := lay3 w (.string n) [.string d] 23 (.int .i64 t) [.int .i64 b, .int .i64 m, .int .i64 c] 25 (.string ⟨#[]⟩) [.string ⟨#[]⟩, .int .i64 0, .int .i64 0, .int .i64 0, .int .i64 0] 27
 obtain ⟨W1, hW1, b1, s1, hqq⟩ := lay1 W0 (.string n) [.string d, .int .i64 t, .int .i64 b, .int .i64 m, .int .i64 c] 27
 have cv := fun W (h : Ready W) => valid_u n d t b m c hn hd W h
 generalize okU n d t b m c = y0 at *
 have HW := hid hW0; have B0 := hid b0; have HC := hid hcc; have HW1 := hid hW1; have B1 := hid b1; have HQ := hid hqq; have CV := hid cv; have HR := hid (hR.below b0)
 clear hW0 b0 hcc hW1 b1 hqq cv s0 s1 hR
 by_cases he : e = 0
 · subst he
   cases y0 with
   | false =>
    show Calls _ _ _ _ fun e' w' => e' = .returned (.tuple #[.agg #[.string ⟨#[]⟩, .string ⟨#[]⟩, .int .i64 0, .int .i64 0, .int .i64 0, .int .i64 0], .int .i64 50]) ∧ _
    go_enter Tryz.func43, Tryz.ntmps43
    obtain ⟨k1, k2, k3⟩ := HC.out W0 (Below.refl _ _)
    obtain ⟨⟨u0, u1⟩, _⟩ := two_facts k1
    obtain ⟨⟨v0, v1, v2, v3⟩, _⟩ := four_facts k2
    clear k1 k2 k3
    go_upto_region 1 with (rw [HW.out])
    obtain ⟨⟨q0, q1, q2, q3, q4, q5⟩, ⟨q6, q7, q8, q9, qa, qb⟩⟩ := six_facts (HQ.out W1 (Below.refl _ _))
    go_upto_region 2 with (rw [HW1.out])
    clear u0 u1 v0 v1 v2 v3
    go_wp2_with fail
    refine (CV.out _ (HR.out.below B1.out)).mono ?_
    rintro e1 z1 ⟨rfl, b2⟩
    have B2 := hid b2
    clear b2 q0 q1 q2 q3 q4 q5 q6 q7 q8 q9 qa qb
    obtain ⟨k1, k2, k3⟩ := HC.out z1 (below_up B1.out B2.out)
    obtain ⟨y, hy⟩ : ∃ y, ((((((z1.setCell ⟨w.heap.size + 1 + 1, 0, none⟩ (.string ⟨#[]⟩)).setCell ⟨w.heap.size + 1 + 1, 1, none⟩ (.string ⟨#[]⟩)).setCell ⟨w.heap.size + 1 + 1, 2, none⟩ (.int .i64 0)).setCell ⟨w.heap.size + 1 + 1, 3, none⟩ (.int .i64 0)).setCell ⟨w.heap.size + 1 + 1, 4, none⟩ (.int .i64 0)).setCell ⟨w.heap.size + 1 + 1, 5, none⟩ (.int .i64 0)) = y := ⟨_, rfl⟩
    have KY := hid (show CellsAt y (w.heap.size + 1 + 1) [.string ⟨#[]⟩, .string ⟨#[]⟩, .int .i64 0, .int .i64 0, .int .i64 0, .int .i64 0] by rw [← hy]; exact put6 k3 _ _ _ _ _ _)
    have BY := hid (show Below w.heap.size w y by rw [← hy]; exact low6 (show w.heap.size ≤ w.heap.size + 1 + 1 by omega) (below_up B0.out (below_up B1.out B2.out)) _ _ _ _ _ _)
    have HY := hid hy
    obtain ⟨⟨r0, r1, r2, r3, r4, r5⟩, ⟨r6, r7, r8, r9, ra, rb⟩⟩ := six_facts k3
    clear hy k1 k2 k3
    go_wp2_with (rw [HY.out])
    obtain ⟨⟨s0, s1, s2, s3, s4, s5⟩, _⟩ := six_facts KY.out
    exact bodyPost_ret (v := .tuple #[.agg #[.string ⟨#[]⟩, .string ⟨#[]⟩, .int .i64 0, .int .i64 0, .int .i64 0, .int .i64 0], .int .i64 50]) (by simp [results, Tryz.results43, go_sem, s0, s1, s2, s3, s4, s5]) rfl ⟨rfl, BY.out⟩
   | true =>
    show Calls _ _ _ _ fun e' w' => e' = .returned (.tuple #[.agg #[.string n, .string d, .int .i64 t, .int .i64 b, .int .i64 m, .int .i64 c], .int .i64 0]) ∧ _
    go_enter Tryz.func43, Tryz.ntmps43
    obtain ⟨k1, k2, k3⟩ := HC.out W0 (Below.refl _ _)
    obtain ⟨⟨u0, u1⟩, _⟩ := two_facts k1
    obtain ⟨⟨v0, v1, v2, v3⟩, _⟩ := four_facts k2
    clear k1 k2 k3
    go_upto_region 1 with (rw [HW.out])
    obtain ⟨⟨q0, q1, q2, q3, q4, q5⟩, ⟨q6, q7, q8, q9, qa, qb⟩⟩ := six_facts (HQ.out W1 (Below.refl _ _))
    go_upto_region 2 with (rw [HW1.out])
    clear u0 u1 v0 v1 v2 v3
    go_wp2_with fail
    refine (CV.out _ (HR.out.below B1.out)).mono ?_
    rintro e1 z1 ⟨rfl, b2⟩
    have B2 := hid b2
    clear b2 q0 q1 q2 q3 q4 q5 q6 q7 q8 q9 qa qb
    obtain ⟨⟨q0, q1, q2, q3, q4, q5⟩, _⟩ := six_facts (HQ.out z1 B2.out)
    obtain ⟨k1, k2, k3⟩ := HC.out z1 (below_up B1.out B2.out)
    obtain ⟨y, hy⟩ : ∃ y, ((((((z1.setCell ⟨w.heap.size + 1 + 1, 0, none⟩ (.string n)).setCell ⟨w.heap.size + 1 + 1, 1, none⟩ (.string d)).setCell ⟨w.heap.size + 1 + 1, 2, none⟩ (.int .i64 t)).setCell ⟨w.heap.size + 1 + 1, 3, none⟩ (.int .i64 b)).setCell ⟨w.heap.size + 1 + 1, 4, none⟩ (.int .i64 m)).setCell ⟨w.heap.size + 1 + 1, 5, none⟩ (.int .i64 c)) = y := ⟨_, rfl⟩
    have KY := hid (show CellsAt y (w.heap.size + 1 + 1) [.string n, .string d, .int .i64 t, .int .i64 b, .int .i64 m, .int .i64 c] by rw [← hy]; exact put6 k3 _ _ _ _ _ _)
    have BY := hid (show Below w.heap.size w y by rw [← hy]; exact low6 (show w.heap.size ≤ w.heap.size + 1 + 1 by omega) (below_up B0.out (below_up B1.out B2.out)) _ _ _ _ _ _)
    have HY := hid hy
    obtain ⟨⟨r0, r1, r2, r3, r4, r5⟩, ⟨r6, r7, r8, r9, ra, rb⟩⟩ := six_facts k3
    clear hy k1 k2 k3
    go_wp2_with (rw [HY.out])
    obtain ⟨⟨s0, s1, s2, s3, s4, s5⟩, _⟩ := six_facts KY.out
    exact bodyPost_ret (v := .tuple #[.agg #[.string n, .string d, .int .i64 t, .int .i64 b, .int .i64 m, .int .i64 c], .int .i64 0]) (by simp [results, Tryz.results43, go_sem, s0, s1, s2, s3, s4, s5]) rfl ⟨rfl, BY.out⟩
 have hx : (decide (e = 0) && y0) = false := by rw [decide_eq_false he]; rfl
 rw [hx]
 show Calls _ _ _ _ fun e' w' => e' = .returned (.tuple #[.agg #[.string ⟨#[]⟩, .string ⟨#[]⟩, .int .i64 0, .int .i64 0, .int .i64 0, .int .i64 0], .int .i64 50]) ∧ _
 have heb : (e == 0) = false := by rw [beq_eq_false_iff_ne]; exact he
 have hen : (e != 0) = true := by rw [bne_iff_ne]; exact he
 clear he hx
 go_enter Tryz.func43, Tryz.ntmps43
 obtain ⟨k1, k2, k3⟩ := HC.out W0 (Below.refl _ _)
 obtain ⟨⟨u0, u1⟩, _⟩ := two_facts k1
 obtain ⟨⟨v0, v1, v2, v3⟩, _⟩ := four_facts k2
 clear k1 k2 k3
 go_upto_region 1 with (rw [HW.out])
 obtain ⟨⟨q0, q1, q2, q3, q4, q5⟩, ⟨q6, q7, q8, q9, qa, qb⟩⟩ := six_facts (HQ.out W1 (Below.refl _ _))
 go_upto_region 2 with (rw [HW1.out])
 clear u0 u1 v0 v1 v2 v3
 obtain ⟨k1, k2, k3⟩ := HC.out W1 B1.out
 obtain ⟨y, hy⟩ : ∃ y, ((((((W1.setCell ⟨w.heap.size + 1 + 1, 0, none⟩ (.string ⟨#[]⟩)).setCell ⟨w.heap.size + 1 + 1, 1, none⟩ (.string ⟨#[]⟩)).setCell ⟨w.heap.size + 1 + 1, 2, none⟩ (.int .i64 0)).setCell ⟨w.heap.size + 1 + 1, 3, none⟩ (.int .i64 0)).setCell ⟨w.heap.size + 1 + 1, 4, none⟩ (.int .i64 0)).setCell ⟨w.heap.size + 1 + 1, 5, none⟩ (.int .i64 0)) = y := ⟨_, rfl⟩
 have KY := hid (show CellsAt y (w.heap.size + 1 + 1) [.string ⟨#[]⟩, .string ⟨#[]⟩, .int .i64 0, .int .i64 0, .int .i64 0, .int .i64 0] by rw [← hy]; exact put6 k3 _ _ _ _ _ _)
 have BY := hid (show Below w.heap.size w y by rw [← hy]; exact low6 (show w.heap.size ≤ w.heap.size + 1 + 1 by omega) (below_up B0.out B1.out) _ _ _ _ _ _)
 have HY := hid hy
 obtain ⟨⟨r0, r1, r2, r3, r4, r5⟩, ⟨r6, r7, r8, r9, ra, rb⟩⟩ := six_facts k3
 clear hy k1 k2 k3
 go_wp2_with (rw [HY.out])
 obtain ⟨⟨s0, s1, s2, s3, s4, s5⟩, _⟩ := six_facts KY.out
 exact bodyPost_ret (v := .tuple #[.agg #[.string ⟨#[]⟩, .string ⟨#[]⟩, .int .i64 0, .int .i64 0, .int .i64 0, .int .i64 0], .int .i64 50]) (by simp [results, Tryz.results43, go_sem, s0, s1, s2, s3, s4, s5]) rfl ⟨rfl, BY.out⟩
def apX (x y : Bool) (ue ve : Int) : Bool := x && (y && (decide (ue = 0) && decide (ve = 0)))
theorem applyR_u (gv gu : Nat) (ev : ∀ args W, (callFunc gv args).run Tryz.prog W = .ok (.enter gv args) W) (eu : ∀ args W, (callFunc gu args).run Tryz.prog W = .ok (.enter gu args) W)
 (an ad : ByteArray) (at' ab am ac : Int) (bn bd : ByteArray) (bt bb bm bc : Int) (h1 : an.size ≤ 1099511627776) (h2 : ad.size ≤ 1099511627776) (h3 : bn.size ≤ 1099511627776) (h4 : bd.size ≤ 1099511627776) (U0 U1 U2 U3 UE : Int) (VN VD : ByteArray) (VE : Int)
 (cu : okU an ad at' ab am ac = true → okU bn bd bt bb bm bc = true → ∀ W, Calls Tryz.prog gu #[.agg #[.int .i64 at', .int .i64 ab, .int .i64 am, .int .i64 ac], .agg #[.int .i64 bt, .int .i64 bb, .int .i64 bm, .int .i64 bc]] W fun e w' => e = .returned (.tuple #[.agg #[.int .i64 U0, .int .i64 U1, .int .i64 U2, .int .i64 U3], .int .i64 UE]) ∧ Below W.heap.size W w')
 (cv : okU an ad at' ab am ac = true → okU bn bd bt bb bm bc = true → ∀ W, Ready W → Calls Tryz.prog gv #[.agg #[.string an, .string ad], .agg #[.string bn, .string bd]] W fun e w' => e = .returned (.tuple #[.agg #[.string VN, .string VD], .int .i64 VE]) ∧ Below W.heap.size W w')
 (w : World) (hR : Ready w) : Calls Tryz.prog 44 #[.agg #[.func (.func gv) #[] #[], .func (.func gu) #[] #[]], .agg #[.string an, .string ad, .int .i64 at', .int .i64 ab, .int .i64 am, .int .i64 ac], .agg #[.string bn, .string bd, .int .i64 bt, .int .i64 bb, .int .i64 bm, .int .i64 bc]] w fun e w' => e = .returned (.tuple #[.agg #[.string (pz (apX (okU an ad at' ab am ac) (okU bn bd bt bb bm bc) UE VE) VN), .string (pz (apX (okU an ad at' ab am ac) (okU bn bd bt bb bm bc) UE VE) VD)], .agg #[.int .i64 (zU (apX (okU an ad at' ab am ac) (okU bn bd bt bb bm bc) UE VE) U0), .int .i64 (zU (apX (okU an ad at' ab am ac) (okU bn bd bt bb bm bc) UE VE) U1), .int .i64 (zU (apX (okU an ad at' ab am ac) (okU bn bd bt bb bm bc) UE VE) U2), .int .i64 (zU (apX (okU an ad at' ab am ac) (okU bn bd bt bb bm bc) UE VE) U3)], .int .i64 (eU (apX (okU an ad at' ab am ac) (okU bn bd bt bb bm bc) UE VE))]) ∧ Below w.heap.size w w' := by
 obtain ⟨W0, hW0, b0, s0, hcc⟩ := lay5 w (.func (.func gv) #[] #[]) [.func (.func gu) #[] #[]] 70 (.string an) [.string ad, .int .i64 at', .int .i64 ab, .int .i64 am, .int .i64 ac] 27 (.string bn) [.string bd, .int .i64 bt, .int .i64 bb, .int .i64 bm, .int .i64 bc] 27 (.string ⟨#[]⟩) [.string ⟨#[]⟩] 23 (.int .i64 0) [.int .i64 0, .int .i64 0, .int .i64 0] 25
 have HW := hid hW0; have B0 := hid b0; have HC := hid hcc; have HR := hid (hR.below b0)
 have ca := fun W (h : Ready W) => valid_u an ad at' ab am ac h1 h2 W h
 have cb := fun W (h : Ready W) => valid_u bn bd bt bb bm bc h3 h4 W h
 have EV := hid ev; have EU := hid eu; have CU0 := hid cu; have CV0 := hid cv
 clear hW0 b0 hcc s0 hR ev eu cu cv
 obtain ⟨WN, hWN, bN, sN, fN⟩ := lay1 W0 (.string ⟨#[]⟩) [.string ⟨#[]⟩] 23
 have HN := hid hWN; have BN := hid bN; have HNN := hid fN
 clear hWN bN fN sN
 generalize okU an ad at' ab am ac = x at *
 generalize okU bn bd bt bb bm bc = y at *
 have CA := hid ca; have CB := hid cb
 clear ca cb h1 h2 h3 h4
 cases x with
 | false =>
  clear CU0 CV0
  show Calls _ _ _ _ fun e w' => e = .returned (.tuple #[.agg #[.string ⟨#[]⟩, .string ⟨#[]⟩], .agg #[.int .i64 0, .int .i64 0, .int .i64 0, .int .i64 0], .int .i64 50]) ∧ _
  go_enter Tryz.func44, Tryz.ntmps44
  obtain ⟨⟨pa0, pa1, pa2, pa3, pa4, pa5⟩, _⟩ := six_facts (HC.out WN BN.out).2.1
  go_upto_region 1 with (rw [HW.out])
  go_wp2_with (first | rw [HN.out])
  refine (CA.out _ (HR.out.below BN.out)).mono ?_
  rintro e z1 ⟨rfl, b1⟩
  have B1 := hid (below_up BN.out b1)
  have N1 := hid b1
  clear b1 pa0 pa1 pa2 pa3 pa4 pa5
  obtain ⟨⟨no0, no1⟩, _⟩ := two_facts (HNN.out z1 N1.out)
  obtain ⟨y, hy⟩ : ∃ y, ((((((z1.setCell ⟨w.heap.size + 1 + 1 + 1, 0, none⟩ (.string ⟨#[]⟩)).setCell ⟨w.heap.size + 1 + 1 + 1, 1, none⟩ (.string ⟨#[]⟩)).setCell ⟨w.heap.size + 1 + 1 + 1 + 1, 0, none⟩ (.int .i64 0)).setCell ⟨w.heap.size + 1 + 1 + 1 + 1, 1, none⟩ (.int .i64 0)).setCell ⟨w.heap.size + 1 + 1 + 1 + 1, 2, none⟩ (.int .i64 0)).setCell ⟨w.heap.size + 1 + 1 + 1 + 1, 3, none⟩ (.int .i64 0)) = y := ⟨_, rfl⟩
  have KV := hid (show CellsAt y (w.heap.size + 1 + 1 + 1) [.string ⟨#[]⟩, .string ⟨#[]⟩] by rw [← hy]; exact (far4 (put2 (HC.out z1 B1.out).2.2.2.1 _ _) (by omega) _ _ _ _))
  have KU := hid (show CellsAt y (w.heap.size + 1 + 1 + 1 + 1) [.int .i64 0, .int .i64 0, .int .i64 0, .int .i64 0] by rw [← hy]; exact (put4 (far2 (HC.out z1 B1.out).2.2.2.2 (by omega) _ _) _ _ _ _))
  have BY := hid (show Below w.heap.size w y by rw [← hy]; exact (low4 (show w.heap.size ≤ w.heap.size + 1 + 1 + 1 + 1 by omega) (low2 (show w.heap.size ≤ w.heap.size + 1 + 1 + 1 by omega) (below_up B0.out B1.out) _ _) _ _ _ _))
  have HY := hid hy
  clear hy
  obtain ⟨⟨rv0, rv1⟩, ⟨rv2, rv3⟩⟩ := two_facts (HC.out z1 B1.out).2.2.2.1
  obtain ⟨⟨ru0, ru1, ru2, ru3⟩, ⟨ru4, ru5, ru6, ru7⟩⟩ := four_facts (HC.out z1 B1.out).2.2.2.2
  go_wp2_with (rw [HY.out])
  obtain ⟨⟨s0, s1, s2, s3⟩, _⟩ := four_facts KU.out
  obtain ⟨⟨s4, s5⟩, _⟩ := two_facts KV.out
  exact bodyPost_ret (v := .tuple #[.agg #[.string ⟨#[]⟩, .string ⟨#[]⟩], .agg #[.int .i64 0, .int .i64 0, .int .i64 0, .int .i64 0], .int .i64 50]) (by simp [results, Tryz.results44, go_sem, s0, s1, s2, s3, s4, s5]) rfl ⟨rfl, BY.out⟩
 | true =>
  cases y with
  | false =>
   clear CU0 CV0
   show Calls _ _ _ _ fun e w' => e = .returned (.tuple #[.agg #[.string ⟨#[]⟩, .string ⟨#[]⟩], .agg #[.int .i64 0, .int .i64 0, .int .i64 0, .int .i64 0], .int .i64 50]) ∧ _
   go_enter Tryz.func44, Tryz.ntmps44
   obtain ⟨⟨pa0, pa1, pa2, pa3, pa4, pa5⟩, _⟩ := six_facts (HC.out WN BN.out).2.1
   go_upto_region 1 with (rw [HW.out])
   go_wp2_with (first | rw [HN.out])
   refine (CA.out _ (HR.out.below BN.out)).mono ?_
   rintro e z1 ⟨rfl, b1⟩
   have B1 := hid (below_up BN.out b1)
   have N1 := hid b1
   clear b1 pa0 pa1 pa2 pa3 pa4 pa5
   obtain ⟨⟨pb0, pb1, pb2, pb3, pb4, pb5⟩, _⟩ := six_facts (HC.out z1 B1.out).2.2.1
   go_wp2_with fail
   refine (CB.out _ (HR.out.below B1.out)).mono ?_
   rintro e z2 ⟨rfl, b2⟩
   have B2 := hid (below_up B1.out b2)
   have N2 := hid (below_up N1.out b2)
   clear b2 pb0 pb1 pb2 pb3 pb4 pb5
   obtain ⟨⟨no0, no1⟩, _⟩ := two_facts (HNN.out z2 N2.out)
   obtain ⟨y, hy⟩ : ∃ y, ((((((z2.setCell ⟨w.heap.size + 1 + 1 + 1, 0, none⟩ (.string ⟨#[]⟩)).setCell ⟨w.heap.size + 1 + 1 + 1, 1, none⟩ (.string ⟨#[]⟩)).setCell ⟨w.heap.size + 1 + 1 + 1 + 1, 0, none⟩ (.int .i64 0)).setCell ⟨w.heap.size + 1 + 1 + 1 + 1, 1, none⟩ (.int .i64 0)).setCell ⟨w.heap.size + 1 + 1 + 1 + 1, 2, none⟩ (.int .i64 0)).setCell ⟨w.heap.size + 1 + 1 + 1 + 1, 3, none⟩ (.int .i64 0)) = y := ⟨_, rfl⟩
   have KV := hid (show CellsAt y (w.heap.size + 1 + 1 + 1) [.string ⟨#[]⟩, .string ⟨#[]⟩] by rw [← hy]; exact (far4 (put2 (HC.out z2 B2.out).2.2.2.1 _ _) (by omega) _ _ _ _))
   have KU := hid (show CellsAt y (w.heap.size + 1 + 1 + 1 + 1) [.int .i64 0, .int .i64 0, .int .i64 0, .int .i64 0] by rw [← hy]; exact (put4 (far2 (HC.out z2 B2.out).2.2.2.2 (by omega) _ _) _ _ _ _))
   have BY := hid (show Below w.heap.size w y by rw [← hy]; exact (low4 (show w.heap.size ≤ w.heap.size + 1 + 1 + 1 + 1 by omega) (low2 (show w.heap.size ≤ w.heap.size + 1 + 1 + 1 by omega) (below_up B0.out B2.out) _ _) _ _ _ _))
   have HY := hid hy
   clear hy
   obtain ⟨⟨rv0, rv1⟩, ⟨rv2, rv3⟩⟩ := two_facts (HC.out z2 B2.out).2.2.2.1
   obtain ⟨⟨ru0, ru1, ru2, ru3⟩, ⟨ru4, ru5, ru6, ru7⟩⟩ := four_facts (HC.out z2 B2.out).2.2.2.2
   go_wp2_with (rw [HY.out])
   obtain ⟨⟨s0, s1, s2, s3⟩, _⟩ := four_facts KU.out
   obtain ⟨⟨s4, s5⟩, _⟩ := two_facts KV.out
   exact bodyPost_ret (v := .tuple #[.agg #[.string ⟨#[]⟩, .string ⟨#[]⟩], .agg #[.int .i64 0, .int .i64 0, .int .i64 0, .int .i64 0], .int .i64 50]) (by simp [results, Tryz.results44, go_sem, s0, s1, s2, s3, s4, s5]) rfl ⟨rfl, BY.out⟩
  | true =>
   have CU := hid (CU0.out rfl rfl); have CV := hid (CV0.out rfl rfl)
   clear CU0 CV0
   by_cases hu : UE = 0
   · subst hu
     by_cases hv : VE = 0
     · subst hv
       show Calls _ _ _ _ fun e w' => e = .returned (.tuple #[.agg #[.string VN, .string VD], .agg #[.int .i64 U0, .int .i64 U1, .int .i64 U2, .int .i64 U3], .int .i64 0]) ∧ _
       go_enter Tryz.func44, Tryz.ntmps44
       obtain ⟨⟨pa0, pa1, pa2, pa3, pa4, pa5⟩, _⟩ := six_facts (HC.out WN BN.out).2.1
       go_upto_region 1 with (rw [HW.out])
       go_wp2_with (first | rw [HN.out])
       refine (CA.out _ (HR.out.below BN.out)).mono ?_
       rintro e z1 ⟨rfl, b1⟩
       have B1 := hid (below_up BN.out b1)
       have N1 := hid b1
       clear b1 pa0 pa1 pa2 pa3 pa4 pa5
       obtain ⟨⟨pb0, pb1, pb2, pb3, pb4, pb5⟩, _⟩ := six_facts (HC.out z1 B1.out).2.2.1
       go_wp2_with fail
       refine (CB.out _ (HR.out.below B1.out)).mono ?_
       rintro e z2 ⟨rfl, b2⟩
       have B2 := hid (below_up B1.out b2)
       have N2 := hid (below_up N1.out b2)
       clear b2 pb0 pb1 pb2 pb3 pb4 pb5
       obtain ⟨⟨pa0, pa1, pa2, pa3, pa4, pa5⟩, _⟩ := six_facts (HC.out z2 B2.out).2.1
       obtain ⟨⟨pb0, pb1, pb2, pb3, pb4, pb5⟩, _⟩ := six_facts (HC.out z2 B2.out).2.2.1
       obtain ⟨⟨po0, po1⟩, _⟩ := two_facts (HC.out z2 B2.out).1
       have eu := EU.out
       go_wp2_with fail
       refine (CU.out _).mono ?_
       rintro e z3 ⟨rfl, b3⟩
       obtain ⟨z4, hz4, b4, s4, f4⟩ := lay1 z3 (.int .i64 U0) [.int .i64 U1, .int .i64 U2, .int .i64 U3] 25
       have V4 := hid hz4; have F4 := hid f4
       have B4 := hid (below_up B2.out (below_up b3 b4))
       have N4 := hid (below_up N2.out (below_up b3 b4))
       have D4 := hid (show w.heap.size + 1 + 1 + 1 + 1 < z3.heap.size from Nat.lt_of_lt_of_le (World.block_lt_of_cell? z2 ⟨w.heap.size + 1 + 1 + 1 + 1, 0, none⟩ ((HC.out z2 B2.out).2.2.2.2 0 (by simp)).1) b3.size)
       have S4 := hid s4
       clear b3 b4 hz4 f4 s4 eu pa0 pa1 pa2 pa3 pa4 pa5 pb0 pb1 pb2 pb3 pb4 pb5 po0 po1
       go_upto_region 5 with (rw [V4.out])
       obtain ⟨⟨pa0, pa1, pa2, pa3, pa4, pa5⟩, _⟩ := six_facts (HC.out z4 B4.out).2.1
       obtain ⟨⟨pb0, pb1, pb2, pb3, pb4, pb5⟩, _⟩ := six_facts (HC.out z4 B4.out).2.2.1
       obtain ⟨⟨po0, po1⟩, _⟩ := two_facts (HC.out z4 B4.out).1
       have ev := EV.out
       go_wp2_with fail
       refine (CV.out _ (HR.out.below B4.out)).mono ?_
       rintro e z5 ⟨rfl, b5⟩
       obtain ⟨z6, hz6, b6, s6, f6⟩ := lay1 z5 (.string VN) [.string VD] 23
       have V6 := hid hz6; have F6 := hid f6
       have S6 := hid (below_up b5 b6)
       have SZ := hid (show z3.heap.size + 1 ≤ z5.heap.size by have := b5.size; have := S4.out; omega)
       have B6 := hid (below_up B4.out (below_up b5 b6))
       have N6 := hid (below_up N4.out (below_up b5 b6))
       clear b5 b6 hz6 f6 s6 ev pa0 pa1 pa2 pa3 pa4 pa5 pb0 pb1 pb2 pb3 pb4 pb5 po0 po1
       go_upto_region 8 with (rw [V6.out])
       obtain ⟨y, hy⟩ : ∃ y, (((((((z6.setCell ⟨w.heap.size + 1 + 1 + 1, 0, none⟩ (.string VN)).setCell ⟨w.heap.size + 1 + 1 + 1, 1, none⟩ (.string VD)).setCell ⟨w.heap.size + 1 + 1 + 1 + 1, 0, none⟩ (.int .i64 U0)).setCell ⟨w.heap.size + 1 + 1 + 1 + 1, 1, none⟩ (.int .i64 U1)).setCell ⟨w.heap.size + 1 + 1 + 1 + 1, 2, none⟩ (.int .i64 U2)).setCell ⟨w.heap.size + 1 + 1 + 1 + 1, 3, none⟩ (.int .i64 U3))).drew = y := ⟨_, rfl⟩
       have KV := hid (show CellsAt y (w.heap.size + 1 + 1 + 1) [.string VN, .string VD] by rw [← hy]; exact (far4 (put2 (HC.out z6 B6.out).2.2.2.1 _ _) (by omega) _ _ _ _).drew)
       have KU := hid (show CellsAt y (w.heap.size + 1 + 1 + 1 + 1) [.int .i64 U0, .int .i64 U1, .int .i64 U2, .int .i64 U3] by rw [← hy]; exact (put4 (far2 (HC.out z6 B6.out).2.2.2.2 (by omega) _ _) _ _ _ _).drew)
       have BY := hid (show Below w.heap.size w y by rw [← hy]; exact (low4 (show w.heap.size ≤ w.heap.size + 1 + 1 + 1 + 1 by omega) (low2 (show w.heap.size ≤ w.heap.size + 1 + 1 + 1 by omega) (below_up B0.out B6.out) _ _) _ _ _ _).drew)
       have HY := hid hy
       clear hy
       obtain ⟨⟨rv0, rv1⟩, ⟨rv2, rv3⟩⟩ := two_facts (HC.out z6 B6.out).2.2.2.1
       obtain ⟨⟨ru0, ru1, ru2, ru3⟩, ⟨ru4, ru5, ru6, ru7⟩⟩ := four_facts (HC.out z6 B6.out).2.2.2.2
       obtain ⟨⟨gu0, gu1, gu2, gu3⟩, _⟩ := four_facts (F4.out z6 S6.out)
       obtain ⟨⟨gv0, gv1⟩, _⟩ := two_facts (F6.out z6 (Below.refl _ _))
       have d4 := D4.out
       have s34 : z3.heap.size + 1 ≤ z5.heap.size := SZ.out
       have n0 : ¬ (w.heap.size + 1 + 1 + 1 = z3.heap.size) := by omega
       have n1 : ¬ (z3.heap.size = w.heap.size + 1 + 1 + 1) := by omega
       have n2 : ¬ (w.heap.size + 1 + 1 + 1 + 1 = z3.heap.size) := by omega
       have n3 : ¬ (z3.heap.size = w.heap.size + 1 + 1 + 1 + 1) := by omega
       have n4 : ¬ (w.heap.size + 1 + 1 + 1 = z5.heap.size) := by omega
       have n5 : ¬ (z5.heap.size = w.heap.size + 1 + 1 + 1) := by omega
       have n6 : ¬ (w.heap.size + 1 + 1 + 1 + 1 = z5.heap.size) := by omega
       have n7 : ¬ (z5.heap.size = w.heap.size + 1 + 1 + 1 + 1) := by omega
       go_wp2_with fail
       go_region
       rw [HY.out]
       go_wp2
       obtain ⟨⟨s0, s1, s2, s3⟩, _⟩ := four_facts KU.out
       obtain ⟨⟨s4, s5⟩, _⟩ := two_facts KV.out
       exact bodyPost_ret (v := .tuple #[.agg #[.string VN, .string VD], .agg #[.int .i64 U0, .int .i64 U1, .int .i64 U2, .int .i64 U3], .int .i64 0]) (by simp [results, Tryz.results44, go_sem, s0, s1, s2, s3, s4, s5]) rfl ⟨rfl, BY.out⟩
     rw [show apX true true 0 VE = false by unfold apX; rw [decide_eq_false hv]; rfl]
     show Calls _ _ _ _ fun e w' => e = .returned (.tuple #[.agg #[.string ⟨#[]⟩, .string ⟨#[]⟩], .agg #[.int .i64 0, .int .i64 0, .int .i64 0, .int .i64 0], .int .i64 50]) ∧ _
     have heb : (VE == 0) = false := by rw [beq_eq_false_iff_ne]; exact hv
     have hen : (VE != 0) = true := by rw [bne_iff_ne]; exact hv
     clear hv
     go_enter Tryz.func44, Tryz.ntmps44
     obtain ⟨⟨pa0, pa1, pa2, pa3, pa4, pa5⟩, _⟩ := six_facts (HC.out WN BN.out).2.1
     go_upto_region 1 with (rw [HW.out])
     go_wp2_with (first | rw [HN.out])
     refine (CA.out _ (HR.out.below BN.out)).mono ?_
     rintro e z1 ⟨rfl, b1⟩
     have B1 := hid (below_up BN.out b1)
     have N1 := hid b1
     clear b1 pa0 pa1 pa2 pa3 pa4 pa5
     obtain ⟨⟨pb0, pb1, pb2, pb3, pb4, pb5⟩, _⟩ := six_facts (HC.out z1 B1.out).2.2.1
     go_wp2_with fail
     refine (CB.out _ (HR.out.below B1.out)).mono ?_
     rintro e z2 ⟨rfl, b2⟩
     have B2 := hid (below_up B1.out b2)
     have N2 := hid (below_up N1.out b2)
     clear b2 pb0 pb1 pb2 pb3 pb4 pb5
     obtain ⟨⟨pa0, pa1, pa2, pa3, pa4, pa5⟩, _⟩ := six_facts (HC.out z2 B2.out).2.1
     obtain ⟨⟨pb0, pb1, pb2, pb3, pb4, pb5⟩, _⟩ := six_facts (HC.out z2 B2.out).2.2.1
     obtain ⟨⟨po0, po1⟩, _⟩ := two_facts (HC.out z2 B2.out).1
     have eu := EU.out
     go_wp2_with fail
     refine (CU.out _).mono ?_
     rintro e z3 ⟨rfl, b3⟩
     obtain ⟨z4, hz4, b4, s4, f4⟩ := lay1 z3 (.int .i64 U0) [.int .i64 U1, .int .i64 U2, .int .i64 U3] 25
     have V4 := hid hz4; have F4 := hid f4
     have B4 := hid (below_up B2.out (below_up b3 b4))
     have N4 := hid (below_up N2.out (below_up b3 b4))
     have D4 := hid (show w.heap.size + 1 + 1 + 1 + 1 < z3.heap.size from Nat.lt_of_lt_of_le (World.block_lt_of_cell? z2 ⟨w.heap.size + 1 + 1 + 1 + 1, 0, none⟩ ((HC.out z2 B2.out).2.2.2.2 0 (by simp)).1) b3.size)
     have S4 := hid s4
     clear b3 b4 hz4 f4 s4 eu pa0 pa1 pa2 pa3 pa4 pa5 pb0 pb1 pb2 pb3 pb4 pb5 po0 po1
     go_upto_region 5 with (rw [V4.out])
     obtain ⟨⟨pa0, pa1, pa2, pa3, pa4, pa5⟩, _⟩ := six_facts (HC.out z4 B4.out).2.1
     obtain ⟨⟨pb0, pb1, pb2, pb3, pb4, pb5⟩, _⟩ := six_facts (HC.out z4 B4.out).2.2.1
     obtain ⟨⟨po0, po1⟩, _⟩ := two_facts (HC.out z4 B4.out).1
     have ev := EV.out
     go_wp2_with fail
     refine (CV.out _ (HR.out.below B4.out)).mono ?_
     rintro e z5 ⟨rfl, b5⟩
     obtain ⟨z6, hz6, b6, s6, f6⟩ := lay1 z5 (.string VN) [.string VD] 23
     have V6 := hid hz6; have F6 := hid f6
     have S6 := hid (below_up b5 b6)
     have SZ := hid (show z3.heap.size + 1 ≤ z5.heap.size by have := b5.size; have := S4.out; omega)
     have B6 := hid (below_up B4.out (below_up b5 b6))
     have N6 := hid (below_up N4.out (below_up b5 b6))
     clear b5 b6 hz6 f6 s6 ev pa0 pa1 pa2 pa3 pa4 pa5 pb0 pb1 pb2 pb3 pb4 pb5 po0 po1
     go_upto_region 8 with (rw [V6.out])
     obtain ⟨⟨no0, no1⟩, _⟩ := two_facts (HNN.out z6 N6.out)
     obtain ⟨y, hy⟩ : ∃ y, ((((((z6.setCell ⟨w.heap.size + 1 + 1 + 1, 0, none⟩ (.string ⟨#[]⟩)).setCell ⟨w.heap.size + 1 + 1 + 1, 1, none⟩ (.string ⟨#[]⟩)).setCell ⟨w.heap.size + 1 + 1 + 1 + 1, 0, none⟩ (.int .i64 0)).setCell ⟨w.heap.size + 1 + 1 + 1 + 1, 1, none⟩ (.int .i64 0)).setCell ⟨w.heap.size + 1 + 1 + 1 + 1, 2, none⟩ (.int .i64 0)).setCell ⟨w.heap.size + 1 + 1 + 1 + 1, 3, none⟩ (.int .i64 0)) = y := ⟨_, rfl⟩
     have KV := hid (show CellsAt y (w.heap.size + 1 + 1 + 1) [.string ⟨#[]⟩, .string ⟨#[]⟩] by rw [← hy]; exact (far4 (put2 (HC.out z6 B6.out).2.2.2.1 _ _) (by omega) _ _ _ _))
     have KU := hid (show CellsAt y (w.heap.size + 1 + 1 + 1 + 1) [.int .i64 0, .int .i64 0, .int .i64 0, .int .i64 0] by rw [← hy]; exact (put4 (far2 (HC.out z6 B6.out).2.2.2.2 (by omega) _ _) _ _ _ _))
     have BY := hid (show Below w.heap.size w y by rw [← hy]; exact (low4 (show w.heap.size ≤ w.heap.size + 1 + 1 + 1 + 1 by omega) (low2 (show w.heap.size ≤ w.heap.size + 1 + 1 + 1 by omega) (below_up B0.out B6.out) _ _) _ _ _ _))
     have HY := hid hy
     clear hy
     obtain ⟨⟨rv0, rv1⟩, ⟨rv2, rv3⟩⟩ := two_facts (HC.out z6 B6.out).2.2.2.1
     obtain ⟨⟨ru0, ru1, ru2, ru3⟩, ⟨ru4, ru5, ru6, ru7⟩⟩ := four_facts (HC.out z6 B6.out).2.2.2.2
     go_wp2_with (rw [HY.out])
     obtain ⟨⟨s0, s1, s2, s3⟩, _⟩ := four_facts KU.out
     obtain ⟨⟨s4, s5⟩, _⟩ := two_facts KV.out
     exact bodyPost_ret (v := .tuple #[.agg #[.string ⟨#[]⟩, .string ⟨#[]⟩], .agg #[.int .i64 0, .int .i64 0, .int .i64 0, .int .i64 0], .int .i64 50]) (by simp [results, Tryz.results44, go_sem, s0, s1, s2, s3, s4, s5]) rfl ⟨rfl, BY.out⟩
   rw [show apX true true UE VE = false by unfold apX; rw [decide_eq_false hu]; rfl]
   show Calls _ _ _ _ fun e w' => e = .returned (.tuple #[.agg #[.string ⟨#[]⟩, .string ⟨#[]⟩], .agg #[.int .i64 0, .int .i64 0, .int .i64 0, .int .i64 0], .int .i64 50]) ∧ _
   have heb : (UE == 0) = false := by rw [beq_eq_false_iff_ne]; exact hu
   have hen : (UE != 0) = true := by rw [bne_iff_ne]; exact hu
   clear hu
   go_enter Tryz.func44, Tryz.ntmps44
   obtain ⟨⟨pa0, pa1, pa2, pa3, pa4, pa5⟩, _⟩ := six_facts (HC.out WN BN.out).2.1
   go_upto_region 1 with (rw [HW.out])
   go_wp2_with (first | rw [HN.out])
   refine (CA.out _ (HR.out.below BN.out)).mono ?_
   rintro e z1 ⟨rfl, b1⟩
   have B1 := hid (below_up BN.out b1)
   have N1 := hid b1
   clear b1 pa0 pa1 pa2 pa3 pa4 pa5
   obtain ⟨⟨pb0, pb1, pb2, pb3, pb4, pb5⟩, _⟩ := six_facts (HC.out z1 B1.out).2.2.1
   go_wp2_with fail
   refine (CB.out _ (HR.out.below B1.out)).mono ?_
   rintro e z2 ⟨rfl, b2⟩
   have B2 := hid (below_up B1.out b2)
   have N2 := hid (below_up N1.out b2)
   clear b2 pb0 pb1 pb2 pb3 pb4 pb5
   obtain ⟨⟨pa0, pa1, pa2, pa3, pa4, pa5⟩, _⟩ := six_facts (HC.out z2 B2.out).2.1
   obtain ⟨⟨pb0, pb1, pb2, pb3, pb4, pb5⟩, _⟩ := six_facts (HC.out z2 B2.out).2.2.1
   obtain ⟨⟨po0, po1⟩, _⟩ := two_facts (HC.out z2 B2.out).1
   have eu := EU.out
   go_wp2_with fail
   refine (CU.out _).mono ?_
   rintro e z3 ⟨rfl, b3⟩
   obtain ⟨z4, hz4, b4, s4, f4⟩ := lay1 z3 (.int .i64 U0) [.int .i64 U1, .int .i64 U2, .int .i64 U3] 25
   have V4 := hid hz4; have F4 := hid f4
   have B4 := hid (below_up B2.out (below_up b3 b4))
   have N4 := hid (below_up N2.out (below_up b3 b4))
   have D4 := hid (show w.heap.size + 1 + 1 + 1 + 1 < z3.heap.size from Nat.lt_of_lt_of_le (World.block_lt_of_cell? z2 ⟨w.heap.size + 1 + 1 + 1 + 1, 0, none⟩ ((HC.out z2 B2.out).2.2.2.2 0 (by simp)).1) b3.size)
   have S4 := hid s4
   clear b3 b4 hz4 f4 s4 eu pa0 pa1 pa2 pa3 pa4 pa5 pb0 pb1 pb2 pb3 pb4 pb5 po0 po1
   go_upto_region 5 with (rw [V4.out])
   obtain ⟨⟨no0, no1⟩, _⟩ := two_facts (HNN.out z4 N4.out)
   obtain ⟨y, hy⟩ : ∃ y, ((((((z4.setCell ⟨w.heap.size + 1 + 1 + 1, 0, none⟩ (.string ⟨#[]⟩)).setCell ⟨w.heap.size + 1 + 1 + 1, 1, none⟩ (.string ⟨#[]⟩)).setCell ⟨w.heap.size + 1 + 1 + 1 + 1, 0, none⟩ (.int .i64 0)).setCell ⟨w.heap.size + 1 + 1 + 1 + 1, 1, none⟩ (.int .i64 0)).setCell ⟨w.heap.size + 1 + 1 + 1 + 1, 2, none⟩ (.int .i64 0)).setCell ⟨w.heap.size + 1 + 1 + 1 + 1, 3, none⟩ (.int .i64 0)) = y := ⟨_, rfl⟩
   have KV := hid (show CellsAt y (w.heap.size + 1 + 1 + 1) [.string ⟨#[]⟩, .string ⟨#[]⟩] by rw [← hy]; exact (far4 (put2 (HC.out z4 B4.out).2.2.2.1 _ _) (by omega) _ _ _ _))
   have KU := hid (show CellsAt y (w.heap.size + 1 + 1 + 1 + 1) [.int .i64 0, .int .i64 0, .int .i64 0, .int .i64 0] by rw [← hy]; exact (put4 (far2 (HC.out z4 B4.out).2.2.2.2 (by omega) _ _) _ _ _ _))
   have BY := hid (show Below w.heap.size w y by rw [← hy]; exact (low4 (show w.heap.size ≤ w.heap.size + 1 + 1 + 1 + 1 by omega) (low2 (show w.heap.size ≤ w.heap.size + 1 + 1 + 1 by omega) (below_up B0.out B4.out) _ _) _ _ _ _))
   have HY := hid hy
   clear hy
   obtain ⟨⟨rv0, rv1⟩, ⟨rv2, rv3⟩⟩ := two_facts (HC.out z4 B4.out).2.2.2.1
   obtain ⟨⟨ru0, ru1, ru2, ru3⟩, ⟨ru4, ru5, ru6, ru7⟩⟩ := four_facts (HC.out z4 B4.out).2.2.2.2
   go_wp2_with (rw [HY.out])
   obtain ⟨⟨s0, s1, s2, s3⟩, _⟩ := four_facts KU.out
   obtain ⟨⟨s4, s5⟩, _⟩ := two_facts KV.out
   exact bodyPost_ret (v := .tuple #[.agg #[.string ⟨#[]⟩, .string ⟨#[]⟩], .agg #[.int .i64 0, .int .i64 0, .int .i64 0, .int .i64 0], .int .i64 50]) (by simp [results, Tryz.results44, go_sem, s0, s1, s2, s3, s4, s5]) rfl ⟨rfl, BY.out⟩
theorem applyI_u (gv gu : Nat) (ev : ∀ args W, (callFunc gv args).run Tryz.prog W = .ok (.enter gv args) W) (eu : ∀ args W, (callFunc gu args).run Tryz.prog W = .ok (.enter gu args) W)
 (an ad : ByteArray) (at' ab am ac : Int) (bn bd : ByteArray) (bt bb bm bc : Int) (h1 : an.size ≤ 1099511627776) (h2 : ad.size ≤ 1099511627776) (h3 : bn.size ≤ 1099511627776) (h4 : bd.size ≤ 1099511627776) (U0 U1 U2 U3 UE : Int) (V VE : Int)
 (cu : okU an ad at' ab am ac = true → okU bn bd bt bb bm bc = true → ∀ W, Calls Tryz.prog gu #[.agg #[.int .i64 at', .int .i64 ab, .int .i64 am, .int .i64 ac], .agg #[.int .i64 bt, .int .i64 bb, .int .i64 bm, .int .i64 bc]] W fun e w' => e = .returned (.tuple #[.agg #[.int .i64 U0, .int .i64 U1, .int .i64 U2, .int .i64 U3], .int .i64 UE]) ∧ Below W.heap.size W w')
 (cv : okU an ad at' ab am ac = true → okU bn bd bt bb bm bc = true → ∀ W, Ready W → Calls Tryz.prog gv #[.agg #[.string an, .string ad], .agg #[.string bn, .string bd]] W fun e w' => e = .returned (.tuple #[.int .i64 V, .int .i64 VE]) ∧ Below W.heap.size W w')
 (w : World) (hR : Ready w) : Calls Tryz.prog 58 #[.agg #[.func (.func gv) #[] #[], .func (.func gu) #[] #[]], .agg #[.string an, .string ad, .int .i64 at', .int .i64 ab, .int .i64 am, .int .i64 ac], .agg #[.string bn, .string bd, .int .i64 bt, .int .i64 bb, .int .i64 bm, .int .i64 bc]] w fun e w' => e = .returned (.tuple #[.int .i64 (zU (apX (okU an ad at' ab am ac) (okU bn bd bt bb bm bc) UE VE) V), .agg #[.int .i64 (zU (apX (okU an ad at' ab am ac) (okU bn bd bt bb bm bc) UE VE) U0), .int .i64 (zU (apX (okU an ad at' ab am ac) (okU bn bd bt bb bm bc) UE VE) U1), .int .i64 (zU (apX (okU an ad at' ab am ac) (okU bn bd bt bb bm bc) UE VE) U2), .int .i64 (zU (apX (okU an ad at' ab am ac) (okU bn bd bt bb bm bc) UE VE) U3)], .int .i64 (eU (apX (okU an ad at' ab am ac) (okU bn bd bt bb bm bc) UE VE))]) ∧ Below w.heap.size w w' := by
 obtain ⟨W0, hW0, b0, s0, hcc⟩ := lay4 w (.func (.func gv) #[] #[]) [.func (.func gu) #[] #[]] 77 (.string an) [.string ad, .int .i64 at', .int .i64 ab, .int .i64 am, .int .i64 ac] 27 (.string bn) [.string bd, .int .i64 bt, .int .i64 bb, .int .i64 bm, .int .i64 bc] 27 (.int .i64 0) [.int .i64 0, .int .i64 0, .int .i64 0] 25
 have HW := hid hW0; have B0 := hid b0; have HC := hid hcc; have HR := hid (hR.below b0)
 have ca := fun W (h : Ready W) => valid_u an ad at' ab am ac h1 h2 W h
 have cb := fun W (h : Ready W) => valid_u bn bd bt bb bm bc h3 h4 W h
 have EV := hid ev; have EU := hid eu; have CU0 := hid cu; have CV0 := hid cv
 clear hW0 b0 hcc s0 hR ev eu cu cv
 generalize okU an ad at' ab am ac = x at *
 generalize okU bn bd bt bb bm bc = y at *
 have CA := hid ca; have CB := hid cb
 clear ca cb h1 h2 h3 h4
 cases x with
 | false =>
  clear CU0 CV0
  show Calls _ _ _ _ fun e w' => e = .returned (.tuple #[.int .i64 0, .agg #[.int .i64 0, .int .i64 0, .int .i64 0, .int .i64 0], .int .i64 50]) ∧ _
  go_enter Tryz.func58, Tryz.ntmps58
  obtain ⟨⟨pa0, pa1, pa2, pa3, pa4, pa5⟩, _⟩ := six_facts (HC.out W0 (Below.refl _ _)).2.1
  go_wp2_with (rw [HW.out])
  refine (CA.out _ HR.out).mono ?_
  rintro e z1 ⟨rfl, b1⟩
  have B1 := hid b1
  have N1 := hid b1
  clear b1 pa0 pa1 pa2 pa3 pa4 pa5
  obtain ⟨y, hy⟩ : ∃ y, ((((z1.setCell ⟨w.heap.size + 1 + 1 + 1, 0, none⟩ (.int .i64 0)).setCell ⟨w.heap.size + 1 + 1 + 1, 1, none⟩ (.int .i64 0)).setCell ⟨w.heap.size + 1 + 1 + 1, 2, none⟩ (.int .i64 0)).setCell ⟨w.heap.size + 1 + 1 + 1, 3, none⟩ (.int .i64 0)) = y := ⟨_, rfl⟩
  have KU := hid (show CellsAt y (w.heap.size + 1 + 1 + 1) [.int .i64 0, .int .i64 0, .int .i64 0, .int .i64 0] by rw [← hy]; exact (put4 (HC.out z1 B1.out).2.2.2 _ _ _ _))
  have BY := hid (show Below w.heap.size w y by rw [← hy]; exact (low4 (show w.heap.size ≤ w.heap.size + 1 + 1 + 1 by omega) (below_up B0.out B1.out) _ _ _ _))
  have HY := hid hy
  clear hy
  obtain ⟨⟨ru0, ru1, ru2, ru3⟩, ⟨ru4, ru5, ru6, ru7⟩⟩ := four_facts (HC.out z1 B1.out).2.2.2
  go_wp2_with (rw [HY.out])
  obtain ⟨⟨s0, s1, s2, s3⟩, _⟩ := four_facts KU.out
  exact bodyPost_ret (v := .tuple #[.int .i64 0, .agg #[.int .i64 0, .int .i64 0, .int .i64 0, .int .i64 0], .int .i64 50]) (by simp [results, Tryz.results58, go_sem, s0, s1, s2, s3]) rfl ⟨rfl, BY.out⟩
 | true =>
  cases y with
  | false =>
   clear CU0 CV0
   show Calls _ _ _ _ fun e w' => e = .returned (.tuple #[.int .i64 0, .agg #[.int .i64 0, .int .i64 0, .int .i64 0, .int .i64 0], .int .i64 50]) ∧ _
   go_enter Tryz.func58, Tryz.ntmps58
   obtain ⟨⟨pa0, pa1, pa2, pa3, pa4, pa5⟩, _⟩ := six_facts (HC.out W0 (Below.refl _ _)).2.1
   go_wp2_with (rw [HW.out])
   refine (CA.out _ HR.out).mono ?_
   rintro e z1 ⟨rfl, b1⟩
   have B1 := hid b1
   have N1 := hid b1
   clear b1 pa0 pa1 pa2 pa3 pa4 pa5
   obtain ⟨⟨pb0, pb1, pb2, pb3, pb4, pb5⟩, _⟩ := six_facts (HC.out z1 B1.out).2.2.1
   go_wp2_with fail
   refine (CB.out _ (HR.out.below B1.out)).mono ?_
   rintro e z2 ⟨rfl, b2⟩
   have B2 := hid (below_up B1.out b2)
   have N2 := hid (below_up N1.out b2)
   clear b2 pb0 pb1 pb2 pb3 pb4 pb5
   obtain ⟨y, hy⟩ : ∃ y, ((((z2.setCell ⟨w.heap.size + 1 + 1 + 1, 0, none⟩ (.int .i64 0)).setCell ⟨w.heap.size + 1 + 1 + 1, 1, none⟩ (.int .i64 0)).setCell ⟨w.heap.size + 1 + 1 + 1, 2, none⟩ (.int .i64 0)).setCell ⟨w.heap.size + 1 + 1 + 1, 3, none⟩ (.int .i64 0)) = y := ⟨_, rfl⟩
   have KU := hid (show CellsAt y (w.heap.size + 1 + 1 + 1) [.int .i64 0, .int .i64 0, .int .i64 0, .int .i64 0] by rw [← hy]; exact (put4 (HC.out z2 B2.out).2.2.2 _ _ _ _))
   have BY := hid (show Below w.heap.size w y by rw [← hy]; exact (low4 (show w.heap.size ≤ w.heap.size + 1 + 1 + 1 by omega) (below_up B0.out B2.out) _ _ _ _))
   have HY := hid hy
   clear hy
   obtain ⟨⟨ru0, ru1, ru2, ru3⟩, ⟨ru4, ru5, ru6, ru7⟩⟩ := four_facts (HC.out z2 B2.out).2.2.2
   go_wp2_with (rw [HY.out])
   obtain ⟨⟨s0, s1, s2, s3⟩, _⟩ := four_facts KU.out
   exact bodyPost_ret (v := .tuple #[.int .i64 0, .agg #[.int .i64 0, .int .i64 0, .int .i64 0, .int .i64 0], .int .i64 50]) (by simp [results, Tryz.results58, go_sem, s0, s1, s2, s3]) rfl ⟨rfl, BY.out⟩
  | true =>
   have CU := hid (CU0.out rfl rfl); have CV := hid (CV0.out rfl rfl)
   clear CU0 CV0
   by_cases hu : UE = 0
   · subst hu
     by_cases hv : VE = 0
     · subst hv
       show Calls _ _ _ _ fun e w' => e = .returned (.tuple #[.int .i64 V, .agg #[.int .i64 U0, .int .i64 U1, .int .i64 U2, .int .i64 U3], .int .i64 0]) ∧ _
       go_enter Tryz.func58, Tryz.ntmps58
       obtain ⟨⟨pa0, pa1, pa2, pa3, pa4, pa5⟩, _⟩ := six_facts (HC.out W0 (Below.refl _ _)).2.1
       go_wp2_with (rw [HW.out])
       refine (CA.out _ HR.out).mono ?_
       rintro e z1 ⟨rfl, b1⟩
       have B1 := hid b1
       have N1 := hid b1
       clear b1 pa0 pa1 pa2 pa3 pa4 pa5
       obtain ⟨⟨pb0, pb1, pb2, pb3, pb4, pb5⟩, _⟩ := six_facts (HC.out z1 B1.out).2.2.1
       go_wp2_with fail
       refine (CB.out _ (HR.out.below B1.out)).mono ?_
       rintro e z2 ⟨rfl, b2⟩
       have B2 := hid (below_up B1.out b2)
       have N2 := hid (below_up N1.out b2)
       clear b2 pb0 pb1 pb2 pb3 pb4 pb5
       obtain ⟨⟨pa0, pa1, pa2, pa3, pa4, pa5⟩, _⟩ := six_facts (HC.out z2 B2.out).2.1
       obtain ⟨⟨pb0, pb1, pb2, pb3, pb4, pb5⟩, _⟩ := six_facts (HC.out z2 B2.out).2.2.1
       obtain ⟨⟨po0, po1⟩, _⟩ := two_facts (HC.out z2 B2.out).1
       have eu := EU.out
       go_wp2_with fail
       refine (CU.out _).mono ?_
       rintro e z3 ⟨rfl, b3⟩
       obtain ⟨z4, hz4, b4, s4, f4⟩ := lay1 z3 (.int .i64 U0) [.int .i64 U1, .int .i64 U2, .int .i64 U3] 25
       have V4 := hid hz4; have F4 := hid f4
       have B4 := hid (below_up B2.out (below_up b3 b4))
       have N4 := hid (below_up N2.out (below_up b3 b4))
       have D4 := hid (show w.heap.size + 1 + 1 + 1 < z3.heap.size from Nat.lt_of_lt_of_le (World.block_lt_of_cell? z2 ⟨w.heap.size + 1 + 1 + 1, 0, none⟩ ((HC.out z2 B2.out).2.2.2 0 (by simp)).1) b3.size)
       have S4 := hid s4
       clear b3 b4 hz4 f4 s4 eu pa0 pa1 pa2 pa3 pa4 pa5 pb0 pb1 pb2 pb3 pb4 pb5 po0 po1
       go_upto_region 5 with (rw [V4.out])
       obtain ⟨⟨pa0, pa1, pa2, pa3, pa4, pa5⟩, _⟩ := six_facts (HC.out z4 B4.out).2.1
       obtain ⟨⟨pb0, pb1, pb2, pb3, pb4, pb5⟩, _⟩ := six_facts (HC.out z4 B4.out).2.2.1
       obtain ⟨⟨po0, po1⟩, _⟩ := two_facts (HC.out z4 B4.out).1
       have ev := EV.out
       go_wp2_with fail
       refine (CV.out _ (HR.out.below B4.out)).mono ?_
       rintro e z6 ⟨rfl, b6⟩
       have S6 := hid b6
       have B6 := hid (below_up B4.out b6)
       have N6 := hid (below_up N4.out b6)
       clear b6 ev pa0 pa1 pa2 pa3 pa4 pa5 pb0 pb1 pb2 pb3 pb4 pb5 po0 po1
       obtain ⟨y, hy⟩ : ∃ y, (((((z6.setCell ⟨w.heap.size + 1 + 1 + 1, 0, none⟩ (.int .i64 U0)).setCell ⟨w.heap.size + 1 + 1 + 1, 1, none⟩ (.int .i64 U1)).setCell ⟨w.heap.size + 1 + 1 + 1, 2, none⟩ (.int .i64 U2)).setCell ⟨w.heap.size + 1 + 1 + 1, 3, none⟩ (.int .i64 U3))).drew = y := ⟨_, rfl⟩
       have KU := hid (show CellsAt y (w.heap.size + 1 + 1 + 1) [.int .i64 U0, .int .i64 U1, .int .i64 U2, .int .i64 U3] by rw [← hy]; exact (put4 (HC.out z6 B6.out).2.2.2 _ _ _ _).drew)
       have BY := hid (show Below w.heap.size w y by rw [← hy]; exact (low4 (show w.heap.size ≤ w.heap.size + 1 + 1 + 1 by omega) (below_up B0.out B6.out) _ _ _ _).drew)
       have HY := hid hy
       clear hy
       obtain ⟨⟨ru0, ru1, ru2, ru3⟩, ⟨ru4, ru5, ru6, ru7⟩⟩ := four_facts (HC.out z6 B6.out).2.2.2
       obtain ⟨⟨gu0, gu1, gu2, gu3⟩, _⟩ := four_facts (F4.out z6 S6.out)
       have d4 := D4.out
       have n0 : ¬ (w.heap.size + 1 + 1 + 1 = z3.heap.size) := by omega
       have n1 : ¬ (z3.heap.size = w.heap.size + 1 + 1 + 1) := by omega
       go_wp2_with fail
       go_region
       rw [HY.out]
       go_wp2
       obtain ⟨⟨s0, s1, s2, s3⟩, _⟩ := four_facts KU.out
       exact bodyPost_ret (v := .tuple #[.int .i64 V, .agg #[.int .i64 U0, .int .i64 U1, .int .i64 U2, .int .i64 U3], .int .i64 0]) (by simp [results, Tryz.results58, go_sem, s0, s1, s2, s3]) rfl ⟨rfl, BY.out⟩
     rw [show apX true true 0 VE = false by unfold apX; rw [decide_eq_false hv]; rfl]
     show Calls _ _ _ _ fun e w' => e = .returned (.tuple #[.int .i64 0, .agg #[.int .i64 0, .int .i64 0, .int .i64 0, .int .i64 0], .int .i64 50]) ∧ _
     have heb : (VE == 0) = false := by rw [beq_eq_false_iff_ne]; exact hv
     have hen : (VE != 0) = true := by rw [bne_iff_ne]; exact hv
     clear hv
     go_enter Tryz.func58, Tryz.ntmps58
     obtain ⟨⟨pa0, pa1, pa2, pa3, pa4, pa5⟩, _⟩ := six_facts (HC.out W0 (Below.refl _ _)).2.1
     go_wp2_with (rw [HW.out])
     refine (CA.out _ HR.out).mono ?_
     rintro e z1 ⟨rfl, b1⟩
     have B1 := hid b1
     have N1 := hid b1
     clear b1 pa0 pa1 pa2 pa3 pa4 pa5
     obtain ⟨⟨pb0, pb1, pb2, pb3, pb4, pb5⟩, _⟩ := six_facts (HC.out z1 B1.out).2.2.1
     go_wp2_with fail
     refine (CB.out _ (HR.out.below B1.out)).mono ?_
     rintro e z2 ⟨rfl, b2⟩
     have B2 := hid (below_up B1.out b2)
     have N2 := hid (below_up N1.out b2)
     clear b2 pb0 pb1 pb2 pb3 pb4 pb5
     obtain ⟨⟨pa0, pa1, pa2, pa3, pa4, pa5⟩, _⟩ := six_facts (HC.out z2 B2.out).2.1
     obtain ⟨⟨pb0, pb1, pb2, pb3, pb4, pb5⟩, _⟩ := six_facts (HC.out z2 B2.out).2.2.1
     obtain ⟨⟨po0, po1⟩, _⟩ := two_facts (HC.out z2 B2.out).1
     have eu := EU.out
     go_wp2_with fail
     refine (CU.out _).mono ?_
     rintro e z3 ⟨rfl, b3⟩
     obtain ⟨z4, hz4, b4, s4, f4⟩ := lay1 z3 (.int .i64 U0) [.int .i64 U1, .int .i64 U2, .int .i64 U3] 25
     have V4 := hid hz4; have F4 := hid f4
     have B4 := hid (below_up B2.out (below_up b3 b4))
     have N4 := hid (below_up N2.out (below_up b3 b4))
     have D4 := hid (show w.heap.size + 1 + 1 + 1 < z3.heap.size from Nat.lt_of_lt_of_le (World.block_lt_of_cell? z2 ⟨w.heap.size + 1 + 1 + 1, 0, none⟩ ((HC.out z2 B2.out).2.2.2 0 (by simp)).1) b3.size)
     have S4 := hid s4
     clear b3 b4 hz4 f4 s4 eu pa0 pa1 pa2 pa3 pa4 pa5 pb0 pb1 pb2 pb3 pb4 pb5 po0 po1
     go_upto_region 5 with (rw [V4.out])
     obtain ⟨⟨pa0, pa1, pa2, pa3, pa4, pa5⟩, _⟩ := six_facts (HC.out z4 B4.out).2.1
     obtain ⟨⟨pb0, pb1, pb2, pb3, pb4, pb5⟩, _⟩ := six_facts (HC.out z4 B4.out).2.2.1
     obtain ⟨⟨po0, po1⟩, _⟩ := two_facts (HC.out z4 B4.out).1
     have ev := EV.out
     go_wp2_with fail
     refine (CV.out _ (HR.out.below B4.out)).mono ?_
     rintro e z6 ⟨rfl, b6⟩
     have S6 := hid b6
     have B6 := hid (below_up B4.out b6)
     have N6 := hid (below_up N4.out b6)
     clear b6 ev pa0 pa1 pa2 pa3 pa4 pa5 pb0 pb1 pb2 pb3 pb4 pb5 po0 po1
     obtain ⟨y, hy⟩ : ∃ y, ((((z6.setCell ⟨w.heap.size + 1 + 1 + 1, 0, none⟩ (.int .i64 0)).setCell ⟨w.heap.size + 1 + 1 + 1, 1, none⟩ (.int .i64 0)).setCell ⟨w.heap.size + 1 + 1 + 1, 2, none⟩ (.int .i64 0)).setCell ⟨w.heap.size + 1 + 1 + 1, 3, none⟩ (.int .i64 0)) = y := ⟨_, rfl⟩
     have KU := hid (show CellsAt y (w.heap.size + 1 + 1 + 1) [.int .i64 0, .int .i64 0, .int .i64 0, .int .i64 0] by rw [← hy]; exact (put4 (HC.out z6 B6.out).2.2.2 _ _ _ _))
     have BY := hid (show Below w.heap.size w y by rw [← hy]; exact (low4 (show w.heap.size ≤ w.heap.size + 1 + 1 + 1 by omega) (below_up B0.out B6.out) _ _ _ _))
     have HY := hid hy
     clear hy
     obtain ⟨⟨ru0, ru1, ru2, ru3⟩, ⟨ru4, ru5, ru6, ru7⟩⟩ := four_facts (HC.out z6 B6.out).2.2.2
     go_wp2_with (rw [HY.out])
     obtain ⟨⟨s0, s1, s2, s3⟩, _⟩ := four_facts KU.out
     exact bodyPost_ret (v := .tuple #[.int .i64 0, .agg #[.int .i64 0, .int .i64 0, .int .i64 0, .int .i64 0], .int .i64 50]) (by simp [results, Tryz.results58, go_sem, s0, s1, s2, s3]) rfl ⟨rfl, BY.out⟩
   rw [show apX true true UE VE = false by unfold apX; rw [decide_eq_false hu]; rfl]
   show Calls _ _ _ _ fun e w' => e = .returned (.tuple #[.int .i64 0, .agg #[.int .i64 0, .int .i64 0, .int .i64 0, .int .i64 0], .int .i64 50]) ∧ _
   have heb : (UE == 0) = false := by rw [beq_eq_false_iff_ne]; exact hu
   have hen : (UE != 0) = true := by rw [bne_iff_ne]; exact hu
   clear hu
   go_enter Tryz.func58, Tryz.ntmps58
   obtain ⟨⟨pa0, pa1, pa2, pa3, pa4, pa5⟩, _⟩ := six_facts (HC.out W0 (Below.refl _ _)).2.1
   go_wp2_with (rw [HW.out])
   refine (CA.out _ HR.out).mono ?_
   rintro e z1 ⟨rfl, b1⟩
   have B1 := hid b1
   have N1 := hid b1
   clear b1 pa0 pa1 pa2 pa3 pa4 pa5
   obtain ⟨⟨pb0, pb1, pb2, pb3, pb4, pb5⟩, _⟩ := six_facts (HC.out z1 B1.out).2.2.1
   go_wp2_with fail
   refine (CB.out _ (HR.out.below B1.out)).mono ?_
   rintro e z2 ⟨rfl, b2⟩
   have B2 := hid (below_up B1.out b2)
   have N2 := hid (below_up N1.out b2)
   clear b2 pb0 pb1 pb2 pb3 pb4 pb5
   obtain ⟨⟨pa0, pa1, pa2, pa3, pa4, pa5⟩, _⟩ := six_facts (HC.out z2 B2.out).2.1
   obtain ⟨⟨pb0, pb1, pb2, pb3, pb4, pb5⟩, _⟩ := six_facts (HC.out z2 B2.out).2.2.1
   obtain ⟨⟨po0, po1⟩, _⟩ := two_facts (HC.out z2 B2.out).1
   have eu := EU.out
   go_wp2_with fail
   refine (CU.out _).mono ?_
   rintro e z3 ⟨rfl, b3⟩
   obtain ⟨z4, hz4, b4, s4, f4⟩ := lay1 z3 (.int .i64 U0) [.int .i64 U1, .int .i64 U2, .int .i64 U3] 25
   have V4 := hid hz4; have F4 := hid f4
   have B4 := hid (below_up B2.out (below_up b3 b4))
   have N4 := hid (below_up N2.out (below_up b3 b4))
   have D4 := hid (show w.heap.size + 1 + 1 + 1 < z3.heap.size from Nat.lt_of_lt_of_le (World.block_lt_of_cell? z2 ⟨w.heap.size + 1 + 1 + 1, 0, none⟩ ((HC.out z2 B2.out).2.2.2 0 (by simp)).1) b3.size)
   have S4 := hid s4
   clear b3 b4 hz4 f4 s4 eu pa0 pa1 pa2 pa3 pa4 pa5 pb0 pb1 pb2 pb3 pb4 pb5 po0 po1
   go_upto_region 5 with (rw [V4.out])
   obtain ⟨y, hy⟩ : ∃ y, ((((z4.setCell ⟨w.heap.size + 1 + 1 + 1, 0, none⟩ (.int .i64 0)).setCell ⟨w.heap.size + 1 + 1 + 1, 1, none⟩ (.int .i64 0)).setCell ⟨w.heap.size + 1 + 1 + 1, 2, none⟩ (.int .i64 0)).setCell ⟨w.heap.size + 1 + 1 + 1, 3, none⟩ (.int .i64 0)) = y := ⟨_, rfl⟩
   have KU := hid (show CellsAt y (w.heap.size + 1 + 1 + 1) [.int .i64 0, .int .i64 0, .int .i64 0, .int .i64 0] by rw [← hy]; exact (put4 (HC.out z4 B4.out).2.2.2 _ _ _ _))
   have BY := hid (show Below w.heap.size w y by rw [← hy]; exact (low4 (show w.heap.size ≤ w.heap.size + 1 + 1 + 1 by omega) (below_up B0.out B4.out) _ _ _ _))
   have HY := hid hy
   clear hy
   obtain ⟨⟨ru0, ru1, ru2, ru3⟩, ⟨ru4, ru5, ru6, ru7⟩⟩ := four_facts (HC.out z4 B4.out).2.2.2
   go_wp2_with (rw [HY.out])
   obtain ⟨⟨s0, s1, s2, s3⟩, _⟩ := four_facts KU.out
   exact bodyPost_ret (v := .tuple #[.int .i64 0, .agg #[.int .i64 0, .int .i64 0, .int .i64 0, .int .i64 0], .int .i64 50]) (by simp [results, Tryz.results58, go_sem, s0, s1, s2, s3]) rfl ⟨rfl, BY.out⟩
end Go.Proofs.YtcglcgphgahnpaaGreatDoor
