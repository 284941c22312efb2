/-
  The contracts of package integer: quotients and roots.
-/
import Derived.Test.YtildgpahacaglaaDoorInt
namespace Go.Proofs.YtildgpahacaglaaDoor
open Go Go.Proofs Go.RowKit Go.Lib

theorem zero_text {t : ByteArray} (h : validB t = true) : numB t = 0 ↔ t = ⟨#[48]⟩ := by
  constructor
  · intro e
    have := (text_valid h).2
    rw [e] at this
    exact this
  · rintro rfl
    decide +kernel

set_option maxRecDepth 100000 in
set_option maxHeartbeats 4000000 in
theorem root_i (s : ByteArray) (hs : s.size ≤ 1099511627776) (w : World) (hR : Ready w) :
    Calls Tryd.prog 22 #[.string s] w fun e w' => Below w.heap.size w w' ∧ RootPost (validB s && decide (0 ≤ numB s)) (numB s).natAbs e := by
  have cv1 := fun W => valid_w s hs W
  cases hv1 : validB s with
  | false =>
    rw [hv1] at cv1
    have CV1 := Lib.hid cv1
    clear cv1 hv1
    go_enter Tryd.func22, Tryd.ntmps22
    go_wp2_with fail
    refine (CV1.out _).mono ?_
    rintro e w1 ⟨rfl, rfl⟩
    go_wp2_with fail
    go_ret2
    exact ⟨Below.refl _ _, rfl⟩
  | true =>
    have n1 := fun W => numberOf_any s hv1 W
    have g1 := fits_groups (text_valid hv1).1
    rw [hv1] at cv1
    by_cases hx : numB s < 0
    · rw [decide_eq_true hx] at n1
      rw [decide_eq_false (show ¬ 0 ≤ numB s by omega)]
      have CV1 := Lib.hid cv1; have C1 := Lib.hid n1
      clear cv1 n1 hv1 hx
      go_enter Tryd.func22, Tryd.ntmps22
      go_wp2_with fail
      refine (CV1.out _).mono ?_
      rintro e w1 ⟨rfl, rfl⟩
      go_wp2_with fail
      refine (C1.out _).mono ?_
      rintro e w1 ⟨ad1, m1, k1, rfl, h1, hw1⟩
      have HW1 := Lib.hid hw1
      clear h1 hw1
      go_wp2_with fail
      go_ret2
      exact ⟨HW1.out.alloc HW1.out.size _, rfl⟩
    · have hneg : decide (numB s < 0) = false := decide_eq_false hx
      rw [hneg] at n1
      rw [decide_eq_true (show 0 ≤ numB s by omega)]
      obtain ⟨N, hN⟩ : ∃ N, (numB s).natAbs = N := ⟨_, rfl⟩
      rw [hN] at n1 g1 ⊢
      have CV1 := Lib.hid cv1; have C1 := Lib.hid n1; have HR := Lib.hid hR
      clear cv1 n1 hv1 hx hN hneg hR
      go_enter Tryd.func22, Tryd.ntmps22
      go_wp2_with fail
      refine (CV1.out _).mono ?_
      rintro e w1 ⟨rfl, rfl⟩
      go_wp2_with fail
      refine (C1.out _).mono ?_
      rintro e w1 ⟨ad1, m1, k1, rfl, h1, hw1⟩
      obtain ⟨W1, hW1⟩ : ∃ W1, w1.alloc (.cells #[.bool false, .slice ad1 m1 k1] 51) = W1 := ⟨_, rfl⟩
      have hb1 : Below w1.heap.size w1 W1 := by rw [← hW1]; exact (Below.refl _ _).alloc (Nat.le_refl _) _
      have hk : W1.heap[w1.heap.size]? = some (.cells #[.bool false, .slice ad1 m1 k1] 51) := by rw [← hW1]; exact heap_alloc_new _ _
      obtain ⟨p1, p2, _, _⟩ := num_cells hk
      have hm1 : m1 ≤ 50 := by have := h1.1; omega
      have cr := root_any3 N ad1 k1 m1 W1 (h1.below hb1 (Nat.le_refl _)) (by omega)
      have HB1 := Lib.hid (below_of hw1 hb1); have CR := Lib.hid cr; have HW1 := Lib.hid hW1
      clear hb1 hk h1 hw1 cr hW1
      go_wp2_with (rw [HW1.out])
      refine CR.out.mono ?_
      rintro e w2 ⟨r, hr, ad2, k2, m2, rfl, hm2, hh2, hw2⟩
      have hrl : (grps r).length ≤ 50 := len_of_le (show r ≤ N from Nat.le_trans (Nat.le_mul_self r) hr.1) (by omega)
      have ct := textNat_any r ad2 k2 m2 w2 ⟨hm2, hh2⟩ (by omega) (HR.out.below (below_of HB1.out hw2))
      obtain ⟨T, hT⟩ : ∃ T, byteL (textN r) = T := ⟨_, rfl⟩
      rw [hT] at ct
      have CT := Lib.hid ct; have HB2 := Lib.hid (below_of HB1.out hw2); have HT := Lib.hid hT; have HRR := Lib.hid hr
      clear ct hm2 hh2 hw2 CR hT hr hrl
      go_wp2_with fail
      refine CT.out.mono ?_
      rintro e w3 ⟨rfl, hw3⟩
      have HB3 := Lib.hid (below_of HB2.out hw3)
      clear hw3 CT
      go_wp2_with fail
      go_ret2
      have ht : textI ((r : Nat) : Int) = T := by
        rw [← HT.out]
        unfold textI
        rw [if_neg (by omega), Int.natAbs_natCast]
        rfl
      refine ⟨HB3.out, r, HRR.out.1, HRR.out.2, ?_⟩
      rw [ht]
      rfl

theorem quot_fits {x y : Int} (hx : Fits x) : (x / y).natAbs < 10 ^ 200 := Nat.lt_of_le_of_lt (Int.natAbs_ediv_le_natAbs x y) hx

set_option maxRecDepth 100000 in
set_option maxHeartbeats 8000000 in
theorem div_i (s t : ByteArray) (hs : s.size ≤ 1099511627776) (ht : t.size ≤ 1099511627776) (w : World) (hR : Ready w) :
    Calls Tryd.prog 18 #[.string s, .string t] w fun e w' => e = .returned (.tuple #[.string (divQ s t), .string (divR s t), .int .i64 (divZ s t)]) ∧ Below w.heap.size w w' := by
  have cv1 := fun W => valid_w s hs W
  have cv2 := fun W => valid_w t ht W
  unfold divQ divR divZ
  cases hv1 : validB s with
  | false =>
    rw [hv1] at cv1
    have CV1 := Lib.hid cv1
    clear cv1 cv2 hv1 hR
    go_enter Tryd.func18, Tryd.ntmps18
    go_wp2_with fail
    refine (CV1.out _).mono ?_
    rintro e w1 ⟨rfl, rfl⟩
    go_wp2_with fail
    go_ret3
    exact ⟨rfl, Below.refl _ _⟩
  | true =>
    cases hv2 : validB t with
    | false =>
      rw [hv1] at cv1
      rw [hv2] at cv2
      have CV1 := Lib.hid cv1; have CV2 := Lib.hid cv2
      clear cv1 cv2 hv1 hv2 hR
      go_enter Tryd.func18, Tryd.ntmps18
      go_wp2_with fail
      refine (CV1.out _).mono ?_
      rintro e w1 ⟨rfl, rfl⟩
      go_wp2_with fail
      refine (CV2.out _).mono ?_
      rintro e w1 ⟨rfl, rfl⟩
      go_wp2_with fail
      go_ret3
      exact ⟨rfl, Below.refl _ _⟩
    | true =>
      have e1 : (t.toList == (⟨#[48]⟩ : ByteArray).toList) = decide (numB t = 0) := by rw [str_eq_iff]; exact decide_eq_decide.2 (zero_text hv2).symm
      have e3 : (t.toList == [48]) = decide (numB t = 0) := by rw [← list48]; exact e1
      by_cases hz : numB t = 0
      · rw [decide_eq_true hz] at e1 e3
        rw [decide_eq_false (show ¬ numB t ≠ 0 from fun h => h hz)]
        have e4 : t.toList = [48] := by simpa using e3
        rw [hv1] at cv1
        rw [hv2] at cv2
        have CV1 := Lib.hid cv1; have CV2 := Lib.hid cv2
        clear cv1 cv2 hv1 hv2 hR hz
        go_enter Tryd.func18, Tryd.ntmps18
        go_wp2_with fail
        refine (CV1.out _).mono ?_
        rintro e w1 ⟨rfl, rfl⟩
        go_wp2_with fail
        refine (CV2.out _).mono ?_
        rintro e w1 ⟨rfl, rfl⟩
        go_wp2_with fail
        go_ret3
        exact ⟨rfl, Below.refl _ _⟩
      · rw [decide_eq_false hz] at e1 e3
        have e4 : t.toList ≠ [48] := by simpa using e3
        have hd0 : 0 < (numB t).natAbs := by omega
        have n1 := fun W => numberOf_any s hv1 W
        have n2 := fun W => numberOf_any t hv2 W
        have g1 := fits_groups (text_valid hv1).1
        have g2 := fits_groups (text_valid hv2).1
        have hqf := quot_fits (y := numB t) (text_valid hv1).1
        have hQl := len_of_le (Int.natAbs_ediv_le_natAbs (numB s) (numB t)) g1
        have hRl : (grps (numB s % numB t).natAbs).length ≤ 50 := by
          refine len_of_le (A := (numB t).natAbs) ?_ g2
          have h1 := Int.emod_nonneg (numB s) hz
          have h2 := Int.emod_lt (numB s) hz
          omega
        have cc := fun W a1 m1 c1 a2 m2 c2 (l1 : m1 ≤ 900) (l2 : m2 ≤ 900) h1 h2 => divN_any (decide (numB s < 0)) (decide (numB t < 0)) (numB s).natAbs (numB t).natAbs hd0 a1 a2 m1 m2 c1 c2 W h1 h2 l1 l2
        simp only [intD_decide] at cc
        rw [hv1] at cv1
        rw [hv2] at cv2
        rw [show (true && true && decide (numB t ≠ 0)) = true by simp [hz], if_pos rfl, if_pos rfl, if_pos rfl]
        unfold resT resR resZ
        rw [if_pos hqf, if_pos hqf, if_pos hqf]
        obtain ⟨X, hX⟩ : ∃ X, numB s / numB t = X := ⟨_, rfl⟩
        obtain ⟨Y, hY⟩ : ∃ X, numB s % numB t = X := ⟨_, rfl⟩
        rw [hX, hY]
        rw [hX] at hQl
        rw [hY] at hRl
        obtain ⟨T1, hT1⟩ : ∃ T, textI X = T := ⟨_, rfl⟩
        obtain ⟨T2, hT2⟩ : ∃ T, textI Y = T := ⟨_, rfl⟩
        rw [hT1, hT2]
        have HT1 := Lib.hid hT1; have HT2 := Lib.hid hT2
        clear hT1 hT2
        simp only [hX, hY] at cc
        obtain ⟨N1, hN1⟩ : ∃ N, (numB s).natAbs = N := ⟨_, rfl⟩
        obtain ⟨N2, hN2⟩ : ∃ N, (numB t).natAbs = N := ⟨_, rfl⟩
        obtain ⟨b1, hb1⟩ : ∃ N, decide (numB s < 0) = N := ⟨_, rfl⟩
        obtain ⟨b2, hb2⟩ : ∃ N, decide (numB t < 0) = N := ⟨_, rfl⟩
        rw [hN1, hb1] at n1
        rw [hN2, hb2] at n2
        rw [hN1] at g1
        rw [hN2] at g2
        simp only [hN1, hN2, hb1, hb2] at cc
        have CV1 := Lib.hid cv1; have CV2 := Lib.hid cv2; have C1 := Lib.hid n1; have C2 := Lib.hid n2; have HC := Lib.hid cc; have HR := Lib.hid hR; have HL := Lib.hid (And.intro hQl hRl)
        clear cv1 cv2 cc hv1 hv2 n1 n2 hX hY hN1 hN2 hb1 hb2 hz hd0 hqf hQl hRl hR
        go_enter Tryd.func18, Tryd.ntmps18
        go_wp2_with fail
        refine (CV1.out _).mono ?_
        rintro e w1 ⟨rfl, rfl⟩
        go_wp2_with fail
        refine (CV2.out _).mono ?_
        rintro e w1 ⟨rfl, rfl⟩
        go_wp2_with fail
        refine (C1.out _).mono ?_
        rintro e w1 ⟨ad1, m1, k1, rfl, h1, hw1⟩
        have H1 := Lib.hid h1; have HW1 := Lib.hid hw1
        clear h1 hw1
        go_wp2_with fail
        refine (C2.out _).mono ?_
        rintro e w2 ⟨ad2, m2, k2, rfl, h2, hw2⟩
        have cf := HC.out w2 ad1 m1 k1 ad2 m2 k2 (by have := H1.out.1; omega) (by have := h2.1; omega) (H1.out.below hw2 (Nat.le_refl _)) h2
        have CF := Lib.hid cf; have HB12 := Lib.hid (below_of HW1.out hw2)
        clear h2 hw2 cf H1 HW1
        go_wp2_with fail
        refine CF.out.mono ?_
        rintro e w3 ⟨bq, Nq, aq, mq, cq, Nr, ar, mr, cr, rfl, hq1, hr1, hq2, hr2, hw3⟩
        have hb13 := below_of HB12.out hw3
        obtain ⟨W4, hW4, hb4, k1', k2'⟩ := two_frame w3 bq false aq ar mq mr cq cr
        have kt1 := fun W (b : Below W4.heap.size W4 W) => numText_any bq Nq aq mq cq W ((hq2.below hb4 (Nat.le_refl _)).below b (Nat.le_refl _)) (by have h4 := HL.out.1; rw [← hq1, natAbs_intD, hq2.1] at h4; omega) (HR.out.below (below_of (below_of hb13 hb4) b))
        have kt2 := fun W (b : Below W4.heap.size W4 W) => numText_any false Nr ar mr cr W ((hr2.below hb4 (Nat.le_refl _)).below b (Nat.le_refl _)) (by have h4 := HL.out.2; rw [← hr1, Int.natAbs_natCast, hr2.1] at h4; omega) (HR.out.below (below_of (below_of hb13 hb4) b))
        rw [hq1] at kt1
        rw [show intD false Nr = ((Nr : Nat) : Int) from rfl, hr1] at kt2
        have hc4 := fun W (b : Below W4.heap.size W4 W) => show (W.cell? ⟨w3.heap.size, 0, none⟩ = some (.bool bq) ∧ W.cell? ⟨w3.heap.size, 1, none⟩ = some (.slice aq mq cq)) ∧ (W.cell? ⟨w3.heap.size + 1, 0, none⟩ = some (.bool false) ∧ W.cell? ⟨w3.heap.size + 1, 1, none⟩ = some (.slice ar mr cr)) from
          ⟨⟨(num_cells (num_kept k1' b)).1, (num_cells (num_kept k1' b)).2.1⟩, ⟨(num_cells (num_kept k2' b)).1, (num_cells (num_kept k2' b)).2.1⟩⟩
        rw [HT1.out] at kt1
        rw [HT2.out] at kt2
        have KT1 := Lib.hid kt1; have KT2 := Lib.hid kt2; have HC4 := Lib.hid hc4; have HW4 := Lib.hid hW4; have HB14 := Lib.hid (below_of hb13 hb4)
        clear hw3 CF kt1 kt2 hc4 hW4 hb4 k1' k2' hb13 hq1 hq2 hr1 hr2
        go_wp2_with fail
        rw [HW4.out]
        go_region_held3 (fun W => (W.cell? ⟨w3.heap.size, 0, none⟩ = some (.bool bq) ∧ W.cell? ⟨w3.heap.size, 1, none⟩ = some (.slice aq mq cq)) ∧ (W.cell? ⟨w3.heap.size + 1, 0, none⟩ = some (.bool false) ∧ W.cell? ⟨w3.heap.size + 1, 1, none⟩ = some (.slice ar mr cr)))
          (first | exact HC4.out _ ⟨rfl, rfl, rfl, Nat.le_refl _, fun _ _ => rfl⟩ | exact HC4.out _ hbA | exact HC4.out _ hbB)
          (first | (go_at_call 34; (with_reducible refine (KT1.out _ ?_).mono ?_); (first | exact ⟨rfl, rfl, rfl, Nat.le_refl _, fun _ _ => rfl⟩ | exact hbB); (rintro e wA ⟨rfl, hbA'⟩); (first | (have hbA := below_of hbB ⟨hbA'.os, hbA'.tape, hbA'.output, hbA'.size, hbA'.block⟩) | (have hbA : Below W4.heap.size W4 wA := ⟨hbA'.os, hbA'.tape, hbA'.output, hbA'.size, hbA'.block⟩))) | (go_at_call 34; (with_reducible refine (KT2.out _ ?_).mono ?_); (first | exact ⟨rfl, rfl, rfl, Nat.le_refl _, fun _ _ => rfl⟩ | exact hbA); (rintro e wB ⟨rfl, hbB'⟩); (first | (have hbB := below_of hbA ⟨hbB'.os, hbB'.tape, hbB'.output, hbB'.size, hbB'.block⟩) | (have hbB : Below W4.heap.size W4 wB := ⟨hbB'.os, hbB'.tape, hbB'.output, hbB'.size, hbB'.block⟩))))
        all_goals (
          go_wp2
          go_ret3
          first
            | exact ⟨rfl, below_of HB14.out hbB⟩
            | exact ⟨rfl, below_of HB14.out hbA⟩)
end Go.Proofs.YtildgpahacaglaaDoor
