/-
  The contracts of package integer: what combines two numbers.
-/
import Derived.Test.YtildgpahacaglaaDoorNumD
import Derived.Test.YtildgpahacaglaaDoorIntV
namespace Go.Proofs.YtildgpahacaglaaDoor
open Go Go.Proofs Go.RowKit Go.Lib

theorem valid_textB (x : Int) : validB (textI x) = decide (x.natAbs < 10 ^ 200) := by
  by_cases h : x.natAbs < 10 ^ 200
  · rw [decide_eq_true h]; exact (valid_text h).1
  · rw [decide_eq_false h, Bool.eq_false_iff]
    intro e
    obtain ⟨y, hy, he⟩ := (validB_iff _).1 e
    exact h (by rw [textI_inj he]; exact hy)
theorem text_len_m {x : Int} {m : Nat} (h : x.natAbs < 10000 ^ m) : (textI x).size ≤ 4 * m + 2 := by
  unfold textI
  rw [byteL_size, List.length_append]
  have := textN_len_le h
  split <;> simp <;> omega
theorem fits_groups {x : Int} (h : Fits x) : (grps x.natAbs).length ≤ 50 := grps_length_le 50 _ (by rw [← pow4]; exact h)

set_option maxHeartbeats 4000000 in
theorem result_any (b : Bool) (N : Nat) (ad : Option Addr) (m c : Nat) (w : World) (h : NatAt w ad m c N) (hm : m ≤ 1000) (hR : Ready w) :
    Calls Tryd.prog 44 #[.agg #[.bool b, .slice ad m c]] w (ResPost w (intD b N)) := by
  obtain ⟨W0, hW0⟩ : ∃ W0, w.alloc (.cells #[.bool b, .slice ad m c] 51) = W0 := ⟨_, rfl⟩
  have hb0 : Below w.heap.size w W0 := by rw [← hW0]; exact (Below.refl _ _).alloc (Nat.le_refl _) _
  have hk : W0.heap[w.heap.size]? = some (.cells #[.bool b, .slice ad m c] 51) := by rw [← hW0]; exact heap_alloc_new _ _
  obtain ⟨p1, p2, _, _⟩ := num_cells hk
  have ct := numText_any b N ad m c W0 (h.below hb0 (Nat.le_refl _)) hm (hR.below hb0)
  have hl : (textI (intD b N)).size ≤ 1099511627776 := by
    have := text_len_m (x := intD b N) (m := m) (by rw [natAbs_intD]; exact (grps_length_iff m N).1 (Nat.le_of_eq h.1))
    omega
  have cv := fun W => valid_w (textI (intD b N)) hl W
  have hv := valid_textB (intD b N)
  unfold ResPost resT resZ
  by_cases hf : (intD b N).natAbs < 10 ^ 200
  · rw [if_pos hf, if_pos hf]
    rw [hv, decide_eq_true hf] at cv
    obtain ⟨T, hT⟩ : ∃ T, textI (intD b N) = T := ⟨_, rfl⟩
    rw [hT] at ct cv ⊢
    have CT := Lib.hid ct; have CV := Lib.hid cv; have HW := Lib.hid hW0; have HB := Lib.hid hb0
    clear ct cv hW0 hb0 hk h hR hT hf hv hl
    go_enter Tryd.func44, Tryd.ntmps44
    go_wp2_with (rw [HW.out])
    refine CT.out.mono ?_
    rintro e w5 ⟨rfl, hb⟩
    have HB5 := Lib.hid (below_of HB.out hb)
    clear hb
    go_wp2_with fail
    refine (CV.out _).mono ?_
    rintro e w6 ⟨rfl, rfl⟩
    go_wp2_with fail
    go_ret2
    exact ⟨rfl, HB5.out⟩
  · rw [if_neg hf, if_neg hf]
    rw [hv, decide_eq_false hf] at cv
    obtain ⟨T, hT⟩ : ∃ T, textI (intD b N) = T := ⟨_, rfl⟩
    rw [hT] at ct cv
    have CT := Lib.hid ct; have CV := Lib.hid cv; have HW := Lib.hid hW0; have HB := Lib.hid hb0
    clear ct cv hW0 hb0 hk h hR hT hf hv hl
    go_enter Tryd.func44, Tryd.ntmps44
    go_wp2_with (rw [HW.out])
    refine CT.out.mono ?_
    rintro e w5 ⟨rfl, hb⟩
    have HB5 := Lib.hid (below_of HB.out hb)
    clear hb
    go_wp2_with fail
    refine (CV.out _).mono ?_
    rintro e w6 ⟨rfl, rfl⟩
    go_wp2_with fail
    go_ret2
    exact ⟨rfl, HB5.out⟩

set_option maxRecDepth 100000 in
set_option maxHeartbeats 4000000 in
theorem combine_plus (f : Int → Int → Int) (s t : ByteArray) (hs : s.size ≤ 1099511627776) (ht : t.size ≤ 1099511627776) (w : World) (hR : Ready w)
    (hf : ∀ x y, Fits x → Fits y → (grps (f x y).natAbs).length ≤ 200)
    (hc : ∀ W a1 m1 c1 a2 m2 c2, Ready W → m1 ≤ 50 → m2 ≤ 50 → NatAt W a1 m1 c1 (numB s).natAbs → NatAt W a2 m2 c2 (numB t).natAbs →
      Calls Tryd.prog 28 #[.agg #[.bool (decide (numB s < 0)), .slice a1 m1 c1], .agg #[.bool (decide (numB t < 0)), .slice a2 m2 c2]] W (NumPost W (f (numB s) (numB t)))) :
    Calls Tryd.prog 27 #[.string s, .string t, .func (.func 28) #[] #[]] w fun e w' => e = .returned (.tuple #[.string (opT f s t), .int .i64 (opZ f s t)]) ∧ Below w.heap.size w w' := by
  have cv1 := fun W => valid_w s hs W
  have cv2 := fun W => valid_w t ht W
  unfold opT opZ
  cases hv1 : validB s with
  | false =>
    rw [hv1] at cv1
    have CV1 := Lib.hid cv1
    clear cv1 cv2 hc hf hR hv1
    go_enter Tryd.func27, Tryd.ntmps27
    go_wp2_with fail
    refine (CV1.out _).mono ?_
    rintro e w1 ⟨rfl, rfl⟩
    go_wp2_with fail
    go_ret2
    exact ⟨rfl, Below.refl _ _⟩
  | true =>
    cases hv2 : validB t with
    | false =>
      rw [hv1] at cv1
      rw [hv2] at cv2
      have CV1 := Lib.hid cv1; have CV2 := Lib.hid cv2
      clear cv1 cv2 hc hf hR hv1 hv2
      go_enter Tryd.func27, Tryd.ntmps27
      go_wp2_with fail
      refine (CV1.out _).mono ?_
      rintro e w1 ⟨rfl, rfl⟩
      go_wp2_with fail
      refine (CV2.out _).mono ?_
      rintro e w1 ⟨rfl, rfl⟩
      go_wp2_with fail
      go_ret2
      exact ⟨rfl, Below.refl _ _⟩
    | true =>
      have n1 := fun W => numberOf_any s hv1 W
      have n2 := fun W => numberOf_any t hv2 W
      have g1 := fits_groups (text_valid hv1).1
      have g2 := fits_groups (text_valid hv2).1
      have hlen := hf _ _ (text_valid hv1).1 (text_valid hv2).1
      rw [hv1] at cv1
      rw [hv2] at cv2
      rw [show (true && true) = true from rfl, if_pos rfl, if_pos rfl]
      obtain ⟨X, hX⟩ : ∃ X, f (numB s) (numB t) = X := ⟨_, rfl⟩
      rw [hX] at hlen ⊢
      simp only [hX] at hc
      obtain ⟨N1, hN1⟩ : ∃ N, (numB s).natAbs = N := ⟨_, rfl⟩
      obtain ⟨N2, hN2⟩ : ∃ N, (numB t).natAbs = N := ⟨_, rfl⟩
      obtain ⟨b1, hb1⟩ : ∃ N, decide (numB s < 0) = N := ⟨_, rfl⟩
      obtain ⟨b2, hb2⟩ : ∃ N, decide (numB t < 0) = N := ⟨_, rfl⟩
      rw [hN1, hb1] at n1
      rw [hN2, hb2] at n2
      rw [hN1] at g1
      rw [hN2] at g2
      simp only [hN1, hN2, hb1, hb2] at hc
      have CV1 := Lib.hid cv1; have CV2 := Lib.hid cv2; have C1 := Lib.hid n1; have C2 := Lib.hid n2; have HC := Lib.hid hc; have HR := Lib.hid hR; have HL := Lib.hid hlen
      clear cv1 cv2 hc hf hR hv1 hv2 n1 n2 hX hN1 hN2 hb1 hb2 hlen
      go_enter Tryd.func27, Tryd.ntmps27
      go_wp2_with fail
      refine (CV1.out _).mono ?_
      rintro e w1 ⟨rfl, rfl⟩
      go_wp2_with fail
      refine (CV2.out _).mono ?_
      rintro e w1 ⟨rfl, rfl⟩
      go_wp2_with fail
      refine (C1.out _).mono ?_
      rintro e w1 ⟨ad1, m1, k1, rfl, h1, hw1⟩
      have H1 := Lib.hid h1; have HW1 := Lib.hid hw1
      clear h1 hw1
      go_wp2_with fail
      refine (C2.out _).mono ?_
      rintro e w2 ⟨ad2, m2, k2, rfl, h2, hw2⟩
      have hb12 := below_of HW1.out hw2
      have cf := HC.out w2 ad1 m1 k1 ad2 m2 k2 (HR.out.below hb12) (by have := H1.out.1; omega) (by have := h2.1; omega) (H1.out.below hw2 (Nat.le_refl _)) h2
      have CF := Lib.hid cf; have HB12 := Lib.hid hb12
      clear h2 hw2 hb12 cf H1 HW1
      go_wp2_with fail
      refine CF.out.mono ?_
      rintro e w3 ⟨neg, G, ad3, m3, k3, rfl, hg, h3, hw3⟩
      have hb13 := below_of HB12.out hw3
      have cr := result_any neg G ad3 m3 k3 w3 h3 (by have h4 := HL.out; rw [← hg, natAbs_intD, h3.1] at h4; omega) (HR.out.below hb13)
      rw [hg] at cr
      have CR := Lib.hid cr; have HB13 := Lib.hid hb13
      clear hg h3 hw3 hb13 cr CF
      go_wp2_with fail
      refine CR.out.mono ?_
      rintro e w4 ⟨rfl, hw4⟩
      have HB14 := Lib.hid (below_of HB13.out hw4)
      clear hw4 CR
      go_wp2_with fail
      go_ret2
      exact ⟨rfl, HB14.out⟩
set_option maxRecDepth 100000 in
set_option maxHeartbeats 4000000 in
theorem combine_minus (f : Int → Int → Int) (s t : ByteArray) (hs : s.size ≤ 1099511627776) (ht : t.size ≤ 1099511627776) (w : World) (hR : Ready w)
    (hf : ∀ x y, Fits x → Fits y → (grps (f x y).natAbs).length ≤ 200)
    (hc : ∀ W a1 m1 c1 a2 m2 c2, Ready W → m1 ≤ 50 → m2 ≤ 50 → NatAt W a1 m1 c1 (numB s).natAbs → NatAt W a2 m2 c2 (numB t).natAbs →
      Calls Tryd.prog 29 #[.agg #[.bool (decide (numB s < 0)), .slice a1 m1 c1], .agg #[.bool (decide (numB t < 0)), .slice a2 m2 c2]] W (NumPost W (f (numB s) (numB t)))) :
    Calls Tryd.prog 27 #[.string s, .string t, .func (.func 29) #[] #[]] w fun e w' => e = .returned (.tuple #[.string (opT f s t), .int .i64 (opZ f s t)]) ∧ Below w.heap.size w w' := by
  have cv1 := fun W => valid_w s hs W
  have cv2 := fun W => valid_w t ht W
  unfold opT opZ
  cases hv1 : validB s with
  | false =>
    rw [hv1] at cv1
    have CV1 := Lib.hid cv1
    clear cv1 cv2 hc hf hR hv1
    go_enter Tryd.func27, Tryd.ntmps27
    go_wp2_with fail
    refine (CV1.out _).mono ?_
    rintro e w1 ⟨rfl, rfl⟩
    go_wp2_with fail
    go_ret2
    exact ⟨rfl, Below.refl _ _⟩
  | true =>
    cases hv2 : validB t with
    | false =>
      rw [hv1] at cv1
      rw [hv2] at cv2
      have CV1 := Lib.hid cv1; have CV2 := Lib.hid cv2
      clear cv1 cv2 hc hf hR hv1 hv2
      go_enter Tryd.func27, Tryd.ntmps27
      go_wp2_with fail
      refine (CV1.out _).mono ?_
      rintro e w1 ⟨rfl, rfl⟩
      go_wp2_with fail
      refine (CV2.out _).mono ?_
      rintro e w1 ⟨rfl, rfl⟩
      go_wp2_with fail
      go_ret2
      exact ⟨rfl, Below.refl _ _⟩
    | true =>
      have n1 := fun W => numberOf_any s hv1 W
      have n2 := fun W => numberOf_any t hv2 W
      have g1 := fits_groups (text_valid hv1).1
      have g2 := fits_groups (text_valid hv2).1
      have hlen := hf _ _ (text_valid hv1).1 (text_valid hv2).1
      rw [hv1] at cv1
      rw [hv2] at cv2
      rw [show (true && true) = true from rfl, if_pos rfl, if_pos rfl]
      obtain ⟨X, hX⟩ : ∃ X, f (numB s) (numB t) = X := ⟨_, rfl⟩
      rw [hX] at hlen ⊢
      simp only [hX] at hc
      obtain ⟨N1, hN1⟩ : ∃ N, (numB s).natAbs = N := ⟨_, rfl⟩
      obtain ⟨N2, hN2⟩ : ∃ N, (numB t).natAbs = N := ⟨_, rfl⟩
      obtain ⟨b1, hb1⟩ : ∃ N, decide (numB s < 0) = N := ⟨_, rfl⟩
      obtain ⟨b2, hb2⟩ : ∃ N, decide (numB t < 0) = N := ⟨_, rfl⟩
      rw [hN1, hb1] at n1
      rw [hN2, hb2] at n2
      rw [hN1] at g1
      rw [hN2] at g2
      simp only [hN1, hN2, hb1, hb2] at hc
      have CV1 := Lib.hid cv1; have CV2 := Lib.hid cv2; have C1 := Lib.hid n1; have C2 := Lib.hid n2; have HC := Lib.hid hc; have HR := Lib.hid hR; have HL := Lib.hid hlen
      clear cv1 cv2 hc hf hR hv1 hv2 n1 n2 hX hN1 hN2 hb1 hb2 hlen
      go_enter Tryd.func27, Tryd.ntmps27
      go_wp2_with fail
      refine (CV1.out _).mono ?_
      rintro e w1 ⟨rfl, rfl⟩
      go_wp2_with fail
      refine (CV2.out _).mono ?_
      rintro e w1 ⟨rfl, rfl⟩
      go_wp2_with fail
      refine (C1.out _).mono ?_
      rintro e w1 ⟨ad1, m1, k1, rfl, h1, hw1⟩
      have H1 := Lib.hid h1; have HW1 := Lib.hid hw1
      clear h1 hw1
      go_wp2_with fail
      refine (C2.out _).mono ?_
      rintro e w2 ⟨ad2, m2, k2, rfl, h2, hw2⟩
      have hb12 := below_of HW1.out hw2
      have cf := HC.out w2 ad1 m1 k1 ad2 m2 k2 (HR.out.below hb12) (by have := H1.out.1; omega) (by have := h2.1; omega) (H1.out.below hw2 (Nat.le_refl _)) h2
      have CF := Lib.hid cf; have HB12 := Lib.hid hb12
      clear h2 hw2 hb12 cf H1 HW1
      go_wp2_with fail
      refine CF.out.mono ?_
      rintro e w3 ⟨neg, G, ad3, m3, k3, rfl, hg, h3, hw3⟩
      have hb13 := below_of HB12.out hw3
      have cr := result_any neg G ad3 m3 k3 w3 h3 (by have h4 := HL.out; rw [← hg, natAbs_intD, h3.1] at h4; omega) (HR.out.below hb13)
      rw [hg] at cr
      have CR := Lib.hid cr; have HB13 := Lib.hid hb13
      clear hg h3 hw3 hb13 cr CF
      go_wp2_with fail
      refine CR.out.mono ?_
      rintro e w4 ⟨rfl, hw4⟩
      have HB14 := Lib.hid (below_of HB13.out hw4)
      clear hw4 CR
      go_wp2_with fail
      go_ret2
      exact ⟨rfl, HB14.out⟩
set_option maxRecDepth 100000 in
set_option maxHeartbeats 4000000 in
theorem combine_times (f : Int → Int → Int) (s t : ByteArray) (hs : s.size ≤ 1099511627776) (ht : t.size ≤ 1099511627776) (w : World) (hR : Ready w)
    (hf : ∀ x y, Fits x → Fits y → (grps (f x y).natAbs).length ≤ 200)
    (hc : ∀ W a1 m1 c1 a2 m2 c2, Ready W → m1 ≤ 50 → m2 ≤ 50 → NatAt W a1 m1 c1 (numB s).natAbs → NatAt W a2 m2 c2 (numB t).natAbs →
      Calls Tryd.prog 30 #[.agg #[.bool (decide (numB s < 0)), .slice a1 m1 c1], .agg #[.bool (decide (numB t < 0)), .slice a2 m2 c2]] W (NumPost W (f (numB s) (numB t)))) :
    Calls Tryd.prog 27 #[.string s, .string t, .func (.func 30) #[] #[]] w fun e w' => e = .returned (.tuple #[.string (opT f s t), .int .i64 (opZ f s t)]) ∧ Below w.heap.size w w' := by
  have cv1 := fun W => valid_w s hs W
  have cv2 := fun W => valid_w t ht W
  unfold opT opZ
  cases hv1 : validB s with
  | false =>
    rw [hv1] at cv1
    have CV1 := Lib.hid cv1
    clear cv1 cv2 hc hf hR hv1
    go_enter Tryd.func27, Tryd.ntmps27
    go_wp2_with fail
    refine (CV1.out _).mono ?_
    rintro e w1 ⟨rfl, rfl⟩
    go_wp2_with fail
    go_ret2
    exact ⟨rfl, Below.refl _ _⟩
  | true =>
    cases hv2 : validB t with
    | false =>
      rw [hv1] at cv1
      rw [hv2] at cv2
      have CV1 := Lib.hid cv1; have CV2 := Lib.hid cv2
      clear cv1 cv2 hc hf hR hv1 hv2
      go_enter Tryd.func27, Tryd.ntmps27
      go_wp2_with fail
      refine (CV1.out _).mono ?_
      rintro e w1 ⟨rfl, rfl⟩
      go_wp2_with fail
      refine (CV2.out _).mono ?_
      rintro e w1 ⟨rfl, rfl⟩
      go_wp2_with fail
      go_ret2
      exact ⟨rfl, Below.refl _ _⟩
    | true =>
      have n1 := fun W => numberOf_any s hv1 W
      have n2 := fun W => numberOf_any t hv2 W
      have g1 := fits_groups (text_valid hv1).1
      have g2 := fits_groups (text_valid hv2).1
      have hlen := hf _ _ (text_valid hv1).1 (text_valid hv2).1
      rw [hv1] at cv1
      rw [hv2] at cv2
      rw [show (true && true) = true from rfl, if_pos rfl, if_pos rfl]
      obtain ⟨X, hX⟩ : ∃ X, f (numB s) (numB t) = X := ⟨_, rfl⟩
      rw [hX] at hlen ⊢
      simp only [hX] at hc
      obtain ⟨N1, hN1⟩ : ∃ N, (numB s).natAbs = N := ⟨_, rfl⟩
      obtain ⟨N2, hN2⟩ : ∃ N, (numB t).natAbs = N := ⟨_, rfl⟩
      obtain ⟨b1, hb1⟩ : ∃ N, decide (numB s < 0) = N := ⟨_, rfl⟩
      obtain ⟨b2, hb2⟩ : ∃ N, decide (numB t < 0) = N := ⟨_, rfl⟩
      rw [hN1, hb1] at n1
      rw [hN2, hb2] at n2
      rw [hN1] at g1
      rw [hN2] at g2
      simp only [hN1, hN2, hb1, hb2] at hc
      have CV1 := Lib.hid cv1; have CV2 := Lib.hid cv2; have C1 := Lib.hid n1; have C2 := Lib.hid n2; have HC := Lib.hid hc; have HR := Lib.hid hR; have HL := Lib.hid hlen
      clear cv1 cv2 hc hf hR hv1 hv2 n1 n2 hX hN1 hN2 hb1 hb2 hlen
      go_enter Tryd.func27, Tryd.ntmps27
      go_wp2_with fail
      refine (CV1.out _).mono ?_
      rintro e w1 ⟨rfl, rfl⟩
      go_wp2_with fail
      refine (CV2.out _).mono ?_
      rintro e w1 ⟨rfl, rfl⟩
      go_wp2_with fail
      refine (C1.out _).mono ?_
      rintro e w1 ⟨ad1, m1, k1, rfl, h1, hw1⟩
      have H1 := Lib.hid h1; have HW1 := Lib.hid hw1
      clear h1 hw1
      go_wp2_with fail
      refine (C2.out _).mono ?_
      rintro e w2 ⟨ad2, m2, k2, rfl, h2, hw2⟩
      have hb12 := below_of HW1.out hw2
      have cf := HC.out w2 ad1 m1 k1 ad2 m2 k2 (HR.out.below hb12) (by have := H1.out.1; omega) (by have := h2.1; omega) (H1.out.below hw2 (Nat.le_refl _)) h2
      have CF := Lib.hid cf; have HB12 := Lib.hid hb12
      clear h2 hw2 hb12 cf H1 HW1
      go_wp2_with fail
      refine CF.out.mono ?_
      rintro e w3 ⟨neg, G, ad3, m3, k3, rfl, hg, h3, hw3⟩
      have hb13 := below_of HB12.out hw3
      have cr := result_any neg G ad3 m3 k3 w3 h3 (by have h4 := HL.out; rw [← hg, natAbs_intD, h3.1] at h4; omega) (HR.out.below hb13)
      rw [hg] at cr
      have CR := Lib.hid cr; have HB13 := Lib.hid hb13
      clear hg h3 hw3 hb13 cr CF
      go_wp2_with fail
      refine CR.out.mono ?_
      rintro e w4 ⟨rfl, hw4⟩
      have HB14 := Lib.hid (below_of HB13.out hw4)
      clear hw4 CR
      go_wp2_with fail
      go_ret2
      exact ⟨rfl, HB14.out⟩
set_option maxRecDepth 100000 in
set_option maxHeartbeats 4000000 in
theorem combine_gcd (f : Int → Int → Int) (s t : ByteArray) (hs : s.size ≤ 1099511627776) (ht : t.size ≤ 1099511627776) (w : World) (hR : Ready w)
    (hf : ∀ x y, Fits x → Fits y → (grps (f x y).natAbs).length ≤ 200)
    (hc : ∀ W a1 m1 c1 a2 m2 c2, Ready W → m1 ≤ 50 → m2 ≤ 50 → NatAt W a1 m1 c1 (numB s).natAbs → NatAt W a2 m2 c2 (numB t).natAbs →
      Calls Tryd.prog 38 #[.agg #[.bool (decide (numB s < 0)), .slice a1 m1 c1], .agg #[.bool (decide (numB t < 0)), .slice a2 m2 c2]] W (NumPost W (f (numB s) (numB t)))) :
    Calls Tryd.prog 27 #[.string s, .string t, .func (.func 38) #[] #[]] w fun e w' => e = .returned (.tuple #[.string (opT f s t), .int .i64 (opZ f s t)]) ∧ Below w.heap.size w w' := by
  have cv1 := fun W => valid_w s hs W
  have cv2 := fun W => valid_w t ht W
  unfold opT opZ
  cases hv1 : validB s with
  | false =>
    rw [hv1] at cv1
    have CV1 := Lib.hid cv1
    clear cv1 cv2 hc hf hR hv1
    go_enter Tryd.func27, Tryd.ntmps27
    go_wp2_with fail
    refine (CV1.out _).mono ?_
    rintro e w1 ⟨rfl, rfl⟩
    go_wp2_with fail
    go_ret2
    exact ⟨rfl, Below.refl _ _⟩
  | true =>
    cases hv2 : validB t with
    | false =>
      rw [hv1] at cv1
      rw [hv2] at cv2
      have CV1 := Lib.hid cv1; have CV2 := Lib.hid cv2
      clear cv1 cv2 hc hf hR hv1 hv2
      go_enter Tryd.func27, Tryd.ntmps27
      go_wp2_with fail
      refine (CV1.out _).mono ?_
      rintro e w1 ⟨rfl, rfl⟩
      go_wp2_with fail
      refine (CV2.out _).mono ?_
      rintro e w1 ⟨rfl, rfl⟩
      go_wp2_with fail
      go_ret2
      exact ⟨rfl, Below.refl _ _⟩
    | true =>
      have n1 := fun W => numberOf_any s hv1 W
      have n2 := fun W => numberOf_any t hv2 W
      have g1 := fits_groups (text_valid hv1).1
      have g2 := fits_groups (text_valid hv2).1
      have hlen := hf _ _ (text_valid hv1).1 (text_valid hv2).1
      rw [hv1] at cv1
      rw [hv2] at cv2
      rw [show (true && true) = true from rfl, if_pos rfl, if_pos rfl]
      obtain ⟨X, hX⟩ : ∃ X, f (numB s) (numB t) = X := ⟨_, rfl⟩
      rw [hX] at hlen ⊢
      simp only [hX] at hc
      obtain ⟨N1, hN1⟩ : ∃ N, (numB s).natAbs = N := ⟨_, rfl⟩
      obtain ⟨N2, hN2⟩ : ∃ N, (numB t).natAbs = N := ⟨_, rfl⟩
      obtain ⟨b1, hb1⟩ : ∃ N, decide (numB s < 0) = N := ⟨_, rfl⟩
      obtain ⟨b2, hb2⟩ : ∃ N, decide (numB t < 0) = N := ⟨_, rfl⟩
      rw [hN1, hb1] at n1
      rw [hN2, hb2] at n2
      rw [hN1] at g1
      rw [hN2] at g2
      simp only [hN1, hN2, hb1, hb2] at hc
      have CV1 := Lib.hid cv1; have CV2 := Lib.hid cv2; have C1 := Lib.hid n1; have C2 := Lib.hid n2; have HC := Lib.hid hc; have HR := Lib.hid hR; have HL := Lib.hid hlen
      clear cv1 cv2 hc hf hR hv1 hv2 n1 n2 hX hN1 hN2 hb1 hb2 hlen
      go_enter Tryd.func27, Tryd.ntmps27
      go_wp2_with fail
      refine (CV1.out _).mono ?_
      rintro e w1 ⟨rfl, rfl⟩
      go_wp2_with fail
      refine (CV2.out _).mono ?_
      rintro e w1 ⟨rfl, rfl⟩
      go_wp2_with fail
      refine (C1.out _).mono ?_
      rintro e w1 ⟨ad1, m1, k1, rfl, h1, hw1⟩
      have H1 := Lib.hid h1; have HW1 := Lib.hid hw1
      clear h1 hw1
      go_wp2_with fail
      refine (C2.out _).mono ?_
      rintro e w2 ⟨ad2, m2, k2, rfl, h2, hw2⟩
      have hb12 := below_of HW1.out hw2
      have cf := HC.out w2 ad1 m1 k1 ad2 m2 k2 (HR.out.below hb12) (by have := H1.out.1; omega) (by have := h2.1; omega) (H1.out.below hw2 (Nat.le_refl _)) h2
      have CF := Lib.hid cf; have HB12 := Lib.hid hb12
      clear h2 hw2 hb12 cf H1 HW1
      go_wp2_with fail
      refine CF.out.mono ?_
      rintro e w3 ⟨neg, G, ad3, m3, k3, rfl, hg, h3, hw3⟩
      have hb13 := below_of HB12.out hw3
      have cr := result_any neg G ad3 m3 k3 w3 h3 (by have h4 := HL.out; rw [← hg, natAbs_intD, h3.1] at h4; omega) (HR.out.below hb13)
      rw [hg] at cr
      have CR := Lib.hid cr; have HB13 := Lib.hid hb13
      clear hg h3 hw3 hb13 cr CF
      go_wp2_with fail
      refine CR.out.mono ?_
      rintro e w4 ⟨rfl, hw4⟩
      have HB14 := Lib.hid (below_of HB13.out hw4)
      clear hw4 CR
      go_wp2_with fail
      go_ret2
      exact ⟨rfl, HB14.out⟩
end Go.Proofs.YtildgpahacaglaaDoor
