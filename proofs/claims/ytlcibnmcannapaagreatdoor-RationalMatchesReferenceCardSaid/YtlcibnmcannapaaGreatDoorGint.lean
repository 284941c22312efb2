/-
  The contracts of package integer: what combines two numbers.
  The contracts of package integer.
  The contracts of package integer: quotients and roots.
-/
import Derived.Test.YtlcibnmcannapaaGreatDoorGnum
import Derived.Test.YtlcibnmcannapaaGreatDoorGof
namespace Go.Proofs.YtlcibnmcannapaaGreatDoor
open Go Go.Proofs Go.RowKit Go.Lib

theorem valid_textB (x : Int) : validB (textI x) = decide (x.natAbs < 10 ^ 200) := by
  by_cases h : x.natAbs < 10 ^ 200
  · rw [decide_eq_true h]; exact (valid_text h).1
  · rw [decide_eq_false h, Bool.eq_false_iff]
    intro e
    obtain ⟨y, hy, he⟩ := (validB_iff _).1 e
    exact h (by rw [textI_inj he]; exact hy)
theorem text_len_m {x : Int} {m : Nat} (h : x.natAbs < 10000 ^ m) : (textI x).size ≤ 4 * m + 2 := by
  unfold textI
  rw [byteL_size, List.length_append]
  have := textN_len_le h
  split <;> simp <;> omega
theorem fits_groups {x : Int} (h : Fits x) : (grps x.natAbs).length ≤ 50 := grps_length_le 50 _ (by rw [← pow4]; exact h)

set_option maxHeartbeats 4000000 in
theorem result_any (b : Bool) (N : Nat) (ad : Option Addr) (m c : Nat) (w : World) (h : NatAt w ad m c N) (hm : m ≤ 1000) (hR : Ready w) :
    Calls Tryz.prog 113 #[.agg #[.bool b, .slice ad m c]] w (ResPost w (intD b N)) := by
  obtain ⟨W0, hW0⟩ : ∃ W0, w.alloc (.cells #[.bool b, .slice ad m c] 90) = W0 := ⟨_, rfl⟩
  have hb0 : Below w.heap.size w W0 := by rw [← hW0]; exact (Below.refl _ _).alloc (Nat.le_refl _) _
  have hk : W0.heap[w.heap.size]? = some (.cells #[.bool b, .slice ad m c] 90) := by rw [← hW0]; exact heap_alloc_new _ _
  obtain ⟨p1, p2, _, _⟩ := num_cells hk
  have ct := numText_any b N ad m c W0 (h.below hb0 (Nat.le_refl _)) hm (hR.below hb0)
  have hl : (textI (intD b N)).size ≤ 1099511627776 := by
    have := text_len_m (x := intD b N) (m := m) (by rw [natAbs_intD]; exact (grps_length_iff m N).1 (Nat.le_of_eq h.1))
    omega
  have cv := fun W => valid_w (textI (intD b N)) hl W
  have hv := valid_textB (intD b N)
  unfold ResPost resT resZ
  by_cases hf : (intD b N).natAbs < 10 ^ 200
  · rw [if_pos hf, if_pos hf]
    rw [hv, decide_eq_true hf] at cv
    obtain ⟨T, hT⟩ : ∃ T, textI (intD b N) = T := ⟨_, rfl⟩
    rw [hT] at ct cv ⊢
    have CT := Lib.hid ct; have CV := Lib.hid cv; have HW := Lib.hid hW0; have HB := Lib.hid hb0
    clear ct cv hW0 hb0 hk h hR hT hf hv hl
    go_enter Tryz.func113, Tryz.ntmps113
    go_wp2_with (rw [HW.out])
    refine CT.out.mono ?_
    rintro e w5 ⟨rfl, hb⟩
    have HB5 := Lib.hid (below_of HB.out hb)
    clear hb
    go_wp2_with fail
    refine (CV.out _).mono ?_
    rintro e w6 ⟨rfl, rfl⟩
    go_wp2_with fail
    go_ret2
    exact ⟨rfl, HB5.out⟩
  · rw [if_neg hf, if_neg hf]
    rw [hv, decide_eq_false hf] at cv
    obtain ⟨T, hT⟩ : ∃ T, textI (intD b N) = T := ⟨_, rfl⟩
    rw [hT] at ct cv
    have CT := Lib.hid ct; have CV := Lib.hid cv; have HW := Lib.hid hW0; have HB := Lib.hid hb0
    clear ct cv hW0 hb0 hk h hR hT hf hv hl
    go_enter Tryz.func113, Tryz.ntmps113
    go_wp2_with (rw [HW.out])
    refine CT.out.mono ?_
    rintro e w5 ⟨rfl, hb⟩
    have HB5 := Lib.hid (below_of HB.out hb)
    clear hb
    go_wp2_with fail
    refine (CV.out _).mono ?_
    rintro e w6 ⟨rfl, rfl⟩
    go_wp2_with fail
    go_ret2
    exact ⟨rfl, HB5.out⟩

set_option maxRecDepth 100000 in
set_option maxHeartbeats 4000000 in
theorem combine_plus (f : Int → Int → Int) (s t : ByteArray) (hs : s.size ≤ 1099511627776) (ht : t.size ≤ 1099511627776) (w : World) (hR : Ready w)
    (hf : ∀ x y, Fits x → Fits y → (grps (f x y).natAbs).length ≤ 200)
    (hc : ∀ W a1 m1 c1 a2 m2 c2, Ready W → m1 ≤ 50 → m2 ≤ 50 → NatAt W a1 m1 c1 (numB s).natAbs → NatAt W a2 m2 c2 (numB t).natAbs →
      Calls Tryz.prog 97 #[.agg #[.bool (decide (numB s < 0)), .slice a1 m1 c1], .agg #[.bool (decide (numB t < 0)), .slice a2 m2 c2]] W (NumPost W (f (numB s) (numB t)))) :
    Calls Tryz.prog 89 #[.string s, .string t, .func (.func 97) #[] #[]] w fun e w' => e = .returned (.tuple #[.string (opT f s t), .int .i64 (opZ f s t)]) ∧ Below w.heap.size w w' := by
  have cv1 := fun W => valid_w s hs W
  have cv2 := fun W => valid_w t ht W
  unfold opT opZ
  cases hv1 : validB s with
  | false =>
    rw [hv1] at cv1
    have CV1 := Lib.hid cv1
    clear cv1 cv2 hc hf hR hv1
    go_enter Tryz.func89, Tryz.ntmps89
    go_wp2_with fail
    refine (CV1.out _).mono ?_
    rintro e w1 ⟨rfl, rfl⟩
    go_wp2_with fail
    go_ret2
    exact ⟨rfl, Below.refl _ _⟩
  | true =>
    cases hv2 : validB t with
    | false =>
      rw [hv1] at cv1
      rw [hv2] at cv2
      have CV1 := Lib.hid cv1; have CV2 := Lib.hid cv2
      clear cv1 cv2 hc hf hR hv1 hv2
      go_enter Tryz.func89, Tryz.ntmps89
      go_wp2_with fail
      refine (CV1.out _).mono ?_
      rintro e w1 ⟨rfl, rfl⟩
      go_wp2_with fail
      refine (CV2.out _).mono ?_
      rintro e w1 ⟨rfl, rfl⟩
      go_wp2_with fail
      go_ret2
      exact ⟨rfl, Below.refl _ _⟩
    | true =>
      have n1 := fun W => numberOf_any s hv1 W
      have n2 := fun W => numberOf_any t hv2 W
      have g1 := fits_groups (text_valid hv1).1
      have g2 := fits_groups (text_valid hv2).1
      have hlen := hf _ _ (text_valid hv1).1 (text_valid hv2).1
      rw [hv1] at cv1
      rw [hv2] at cv2
      rw [show (true && true) = true from rfl, if_pos rfl, if_pos rfl]
      obtain ⟨X, hX⟩ : ∃ X, f (numB s) (numB t) = X := ⟨_, rfl⟩
      rw [hX] at hlen ⊢
      simp only [hX] at hc
      obtain ⟨N1, hN1⟩ : ∃ N, (numB s).natAbs = N := ⟨_, rfl⟩
      obtain ⟨N2, hN2⟩ : ∃ N, (numB t).natAbs = N := ⟨_, rfl⟩
      obtain ⟨b1, hb1⟩ : ∃ N, decide (numB s < 0) = N := ⟨_, rfl⟩
      obtain ⟨b2, hb2⟩ : ∃ N, decide (numB t < 0) = N := ⟨_, rfl⟩
      rw [hN1, hb1] at n1
      rw [hN2, hb2] at n2
      rw [hN1] at g1
      rw [hN2] at g2
      simp only [hN1, hN2, hb1, hb2] at hc
      have CV1 := Lib.hid cv1; have CV2 := Lib.hid cv2; have C1 := Lib.hid n1; have C2 := Lib.hid n2; have HC := Lib.hid hc; have HR := Lib.hid hR; have HL := Lib.hid hlen
      clear cv1 cv2 hc hf hR hv1 hv2 n1 n2 hX hN1 hN2 hb1 hb2 hlen
      go_enter Tryz.func89, Tryz.ntmps89
      go_wp2_with fail
      refine (CV1.out _).mono ?_
      rintro e w1 ⟨rfl, rfl⟩
      go_wp2_with fail
      refine (CV2.out _).mono ?_
      rintro e w1 ⟨rfl, rfl⟩
      go_wp2_with fail
      refine (C1.out _).mono ?_
      rintro e w1 ⟨ad1, m1, k1, rfl, h1, hw1⟩
      have H1 := Lib.hid h1; have HW1 := Lib.hid hw1
      clear h1 hw1
      go_wp2_with fail
      refine (C2.out _).mono ?_
      rintro e w2 ⟨ad2, m2, k2, rfl, h2, hw2⟩
      have hb12 := below_of HW1.out hw2
      have cf := HC.out w2 ad1 m1 k1 ad2 m2 k2 (HR.out.below hb12) (by have := H1.out.1; omega) (by have := h2.1; omega) (H1.out.below hw2 (Nat.le_refl _)) h2
      have CF := Lib.hid cf; have HB12 := Lib.hid hb12
      clear h2 hw2 hb12 cf H1 HW1
      go_wp2_with fail
      refine CF.out.mono ?_
      rintro e w3 ⟨neg, G, ad3, m3, k3, rfl, hg, h3, hw3⟩
      have hb13 := below_of HB12.out hw3
      have cr := result_any neg G ad3 m3 k3 w3 h3 (by have h4 := HL.out; rw [← hg, natAbs_intD, h3.1] at h4; omega) (HR.out.below hb13)
      rw [hg] at cr
      have CR := Lib.hid cr; have HB13 := Lib.hid hb13
      clear hg h3 hw3 hb13 cr CF
      go_wp2_with fail
      refine CR.out.mono ?_
      rintro e w4 ⟨rfl, hw4⟩
      have HB14 := Lib.hid (below_of HB13.out hw4)
      clear hw4 CR
      go_wp2_with fail
      go_ret2
      exact ⟨rfl, HB14.out⟩
set_option maxRecDepth 100000 in
set_option maxHeartbeats 4000000 in
theorem combine_minus (f : Int → Int → Int) (s t : ByteArray) (hs : s.size ≤ 1099511627776) (ht : t.size ≤ 1099511627776) (w : World) (hR : Ready w)
    (hf : ∀ x y, Fits x → Fits y → (grps (f x y).natAbs).length ≤ 200)
    (hc : ∀ W a1 m1 c1 a2 m2 c2, Ready W → m1 ≤ 50 → m2 ≤ 50 → NatAt W a1 m1 c1 (numB s).natAbs → NatAt W a2 m2 c2 (numB t).natAbs →
      Calls Tryz.prog 98 #[.agg #[.bool (decide (numB s < 0)), .slice a1 m1 c1], .agg #[.bool (decide (numB t < 0)), .slice a2 m2 c2]] W (NumPost W (f (numB s) (numB t)))) :
    Calls Tryz.prog 89 #[.string s, .string t, .func (.func 98) #[] #[]] w fun e w' => e = .returned (.tuple #[.string (opT f s t), .int .i64 (opZ f s t)]) ∧ Below w.heap.size w w' := by
  have cv1 := fun W => valid_w s hs W
  have cv2 := fun W => valid_w t ht W
  unfold opT opZ
  cases hv1 : validB s with
  | false =>
    rw [hv1] at cv1
    have CV1 := Lib.hid cv1
    clear cv1 cv2 hc hf hR hv1
    go_enter Tryz.func89, Tryz.ntmps89
    go_wp2_with fail
    refine (CV1.out _).mono ?_
    rintro e w1 ⟨rfl, rfl⟩
    go_wp2_with fail
    go_ret2
    exact ⟨rfl, Below.refl _ _⟩
  | true =>
    cases hv2 : validB t with
    | false =>
      rw [hv1] at cv1
      rw [hv2] at cv2
      have CV1 := Lib.hid cv1; have CV2 := Lib.hid cv2
      clear cv1 cv2 hc hf hR hv1 hv2
      go_enter Tryz.func89, Tryz.ntmps89
      go_wp2_with fail
      refine (CV1.out _).mono ?_
      rintro e w1 ⟨rfl, rfl⟩
      go_wp2_with fail
      refine (CV2.out _).mono ?_
      rintro e w1 ⟨rfl, rfl⟩
      go_wp2_with fail
      go_ret2
      exact ⟨rfl, Below.refl _ _⟩
    | true =>
      have n1 := fun W => numberOf_any s hv1 W
      have n2 := fun W => numberOf_any t hv2 W
      have g1 := fits_groups (text_valid hv1).1
      have g2 := fits_groups (text_valid hv2).1
      have hlen := hf _ _ (text_valid hv1).1 (text_valid hv2).1
      rw [hv1] at cv1
      rw [hv2] at cv2
      rw [show (true && true) = true from rfl, if_pos rfl, if_pos rfl]
      obtain ⟨X, hX⟩ : ∃ X, f (numB s) (numB t) = X := ⟨_, rfl⟩
      rw [hX] at hlen ⊢
      simp only [hX] at hc
      obtain ⟨N1, hN1⟩ : ∃ N, (numB s).natAbs = N := ⟨_, rfl⟩
      obtain ⟨N2, hN2⟩ : ∃ N, (numB t).natAbs = N := ⟨_, rfl⟩
      obtain ⟨b1, hb1⟩ : ∃ N, decide (numB s < 0) = N := ⟨_, rfl⟩
      obtain ⟨b2, hb2⟩ : ∃ N, decide (numB t < 0) = N := ⟨_, rfl⟩
      rw [hN1, hb1] at n1
      rw [hN2, hb2] at n2
      rw [hN1] at g1
      rw [hN2] at g2
      simp only [hN1, hN2, hb1, hb2] at hc
      have CV1 := Lib.hid cv1; have CV2 := Lib.hid cv2; have C1 := Lib.hid n1; have C2 := Lib.hid n2; have HC := Lib.hid hc; have HR := Lib.hid hR; have HL := Lib.hid hlen
      clear cv1 cv2 hc hf hR hv1 hv2 n1 n2 hX hN1 hN2 hb1 hb2 hlen
      go_enter Tryz.func89, Tryz.ntmps89
      go_wp2_with fail
      refine (CV1.out _).mono ?_
      rintro e w1 ⟨rfl, rfl⟩
      go_wp2_with fail
      refine (CV2.out _).mono ?_
      rintro e w1 ⟨rfl, rfl⟩
      go_wp2_with fail
      refine (C1.out _).mono ?_
      rintro e w1 ⟨ad1, m1, k1, rfl, h1, hw1⟩
      have H1 := Lib.hid h1; have HW1 := Lib.hid hw1
      clear h1 hw1
      go_wp2_with fail
      refine (C2.out _).mono ?_
      rintro e w2 ⟨ad2, m2, k2, rfl, h2, hw2⟩
      have hb12 := below_of HW1.out hw2
      have cf := HC.out w2 ad1 m1 k1 ad2 m2 k2 (HR.out.below hb12) (by have := H1.out.1; omega) (by have := h2.1; omega) (H1.out.below hw2 (Nat.le_refl _)) h2
      have CF := Lib.hid cf; have HB12 := Lib.hid hb12
      clear h2 hw2 hb12 cf H1 HW1
      go_wp2_with fail
      refine CF.out.mono ?_
      rintro e w3 ⟨neg, G, ad3, m3, k3, rfl, hg, h3, hw3⟩
      have hb13 := below_of HB12.out hw3
      have cr := result_any neg G ad3 m3 k3 w3 h3 (by have h4 := HL.out; rw [← hg, natAbs_intD, h3.1] at h4; omega) (HR.out.below hb13)
      rw [hg] at cr
      have CR := Lib.hid cr; have HB13 := Lib.hid hb13
      clear hg h3 hw3 hb13 cr CF
      go_wp2_with fail
      refine CR.out.mono ?_
      rintro e w4 ⟨rfl, hw4⟩
      have HB14 := Lib.hid (below_of HB13.out hw4)
      clear hw4 CR
      go_wp2_with fail
      go_ret2
      exact ⟨rfl, HB14.out⟩
set_option maxRecDepth 100000 in
set_option maxHeartbeats 4000000 in
theorem combine_times (f : Int → Int → Int) (s t : ByteArray) (hs : s.size ≤ 1099511627776) (ht : t.size ≤ 1099511627776) (w : World) (hR : Ready w)
    (hf : ∀ x y, Fits x → Fits y → (grps (f x y).natAbs).length ≤ 200)
    (hc : ∀ W a1 m1 c1 a2 m2 c2, Ready W → m1 ≤ 50 → m2 ≤ 50 → NatAt W a1 m1 c1 (numB s).natAbs → NatAt W a2 m2 c2 (numB t).natAbs →
      Calls Tryz.prog 117 #[.agg #[.bool (decide (numB s < 0)), .slice a1 m1 c1], .agg #[.bool (decide (numB t < 0)), .slice a2 m2 c2]] W (NumPost W (f (numB s) (numB t)))) :
    Calls Tryz.prog 89 #[.string s, .string t, .func (.func 117) #[] #[]] w fun e w' => e = .returned (.tuple #[.string (opT f s t), .int .i64 (opZ f s t)]) ∧ Below w.heap.size w w' := by
  have cv1 := fun W => valid_w s hs W
  have cv2 := fun W => valid_w t ht W
  unfold opT opZ
  cases hv1 : validB s with
  | false =>
    rw [hv1] at cv1
    have CV1 := Lib.hid cv1
    clear cv1 cv2 hc hf hR hv1
    go_enter Tryz.func89, Tryz.ntmps89
    go_wp2_with fail
    refine (CV1.out _).mono ?_
    rintro e w1 ⟨rfl, rfl⟩
    go_wp2_with fail
    go_ret2
    exact ⟨rfl, Below.refl _ _⟩
  | true =>
    cases hv2 : validB t with
    | false =>
      rw [hv1] at cv1
      rw [hv2] at cv2
      have CV1 := Lib.hid cv1; have CV2 := Lib.hid cv2
      clear cv1 cv2 hc hf hR hv1 hv2
      go_enter Tryz.func89, Tryz.ntmps89
      go_wp2_with fail
      refine (CV1.out _).mono ?_
      rintro e w1 ⟨rfl, rfl⟩
      go_wp2_with fail
      refine (CV2.out _).mono ?_
      rintro e w1 ⟨rfl, rfl⟩
      go_wp2_with fail
      go_ret2
      exact ⟨rfl, Below.refl _ _⟩
    | true =>
      have n1 := fun W => numberOf_any s hv1 W
      have n2 := fun W => numberOf_any t hv2 W
      have g1 := fits_groups (text_valid hv1).1
      have g2 := fits_groups (text_valid hv2).1
      have hlen := hf _ _ (text_valid hv1).1 (text_valid hv2).1
      rw [hv1] at cv1
      rw [hv2] at cv2
      rw [show (true && true) = true from rfl, if_pos rfl, if_pos rfl]
      obtain ⟨X, hX⟩ : ∃ X, f (numB s) (numB t) = X := ⟨_, rfl⟩
      rw [hX] at hlen ⊢
      simp only [hX] at hc
      obtain ⟨N1, hN1⟩ : ∃ N, (numB s).natAbs = N := ⟨_, rfl⟩
      obtain ⟨N2, hN2⟩ : ∃ N, (numB t).natAbs = N := ⟨_, rfl⟩
      obtain ⟨b1, hb1⟩ : ∃ N, decide (numB s < 0) = N := ⟨_, rfl⟩
      obtain ⟨b2, hb2⟩ : ∃ N, decide (numB t < 0) = N := ⟨_, rfl⟩
      rw [hN1, hb1] at n1
      rw [hN2, hb2] at n2
      rw [hN1] at g1
      rw [hN2] at g2
      simp only [hN1, hN2, hb1, hb2] at hc
      have CV1 := Lib.hid cv1; have CV2 := Lib.hid cv2; have C1 := Lib.hid n1; have C2 := Lib.hid n2; have HC := Lib.hid hc; have HR := Lib.hid hR; have HL := Lib.hid hlen
      clear cv1 cv2 hc hf hR hv1 hv2 n1 n2 hX hN1 hN2 hb1 hb2 hlen
      go_enter Tryz.func89, Tryz.ntmps89
      go_wp2_with fail
      refine (CV1.out _).mono ?_
      rintro e w1 ⟨rfl, rfl⟩
      go_wp2_with fail
      refine (CV2.out _).mono ?_
      rintro e w1 ⟨rfl, rfl⟩
      go_wp2_with fail
      refine (C1.out _).mono ?_
      rintro e w1 ⟨ad1, m1, k1, rfl, h1, hw1⟩
      have H1 := Lib.hid h1; have HW1 := Lib.hid hw1
      clear h1 hw1
      go_wp2_with fail
      refine (C2.out _).mono ?_
      rintro e w2 ⟨ad2, m2, k2, rfl, h2, hw2⟩
      have hb12 := below_of HW1.out hw2
      have cf := HC.out w2 ad1 m1 k1 ad2 m2 k2 (HR.out.below hb12) (by have := H1.out.1; omega) (by have := h2.1; omega) (H1.out.below hw2 (Nat.le_refl _)) h2
      have CF := Lib.hid cf; have HB12 := Lib.hid hb12
      clear h2 hw2 hb12 cf H1 HW1
      go_wp2_with fail
      refine CF.out.mono ?_
      rintro e w3 ⟨neg, G, ad3, m3, k3, rfl, hg, h3, hw3⟩
      have hb13 := below_of HB12.out hw3
      have cr := result_any neg G ad3 m3 k3 w3 h3 (by have h4 := HL.out; rw [← hg, natAbs_intD, h3.1] at h4; omega) (HR.out.below hb13)
      rw [hg] at cr
      have CR := Lib.hid cr; have HB13 := Lib.hid hb13
      clear hg h3 hw3 hb13 cr CF
      go_wp2_with fail
      refine CR.out.mono ?_
      rintro e w4 ⟨rfl, hw4⟩
      have HB14 := Lib.hid (below_of HB13.out hw4)
      clear hw4 CR
      go_wp2_with fail
      go_ret2
      exact ⟨rfl, HB14.out⟩
set_option maxRecDepth 100000 in
set_option maxHeartbeats 4000000 in
theorem combine_gcd (f : Int → Int → Int) (s t : ByteArray) (hs : s.size ≤ 1099511627776) (ht : t.size ≤ 1099511627776) (w : World) (hR : Ready w)
    (hf : ∀ x y, Fits x → Fits y → (grps (f x y).natAbs).length ≤ 200)
    (hc : ∀ W a1 m1 c1 a2 m2 c2, Ready W → m1 ≤ 50 → m2 ≤ 50 → NatAt W a1 m1 c1 (numB s).natAbs → NatAt W a2 m2 c2 (numB t).natAbs →
      Calls Tryz.prog 90 #[.agg #[.bool (decide (numB s < 0)), .slice a1 m1 c1], .agg #[.bool (decide (numB t < 0)), .slice a2 m2 c2]] W (NumPost W (f (numB s) (numB t)))) :
    Calls Tryz.prog 89 #[.string s, .string t, .func (.func 90) #[] #[]] w fun e w' => e = .returned (.tuple #[.string (opT f s t), .int .i64 (opZ f s t)]) ∧ Below w.heap.size w w' := by
  have cv1 := fun W => valid_w s hs W
  have cv2 := fun W => valid_w t ht W
  unfold opT opZ
  cases hv1 : validB s with
  | false =>
    rw [hv1] at cv1
    have CV1 := Lib.hid cv1
    clear cv1 cv2 hc hf hR hv1
    go_enter Tryz.func89, Tryz.ntmps89
    go_wp2_with fail
    refine (CV1.out _).mono ?_
    rintro e w1 ⟨rfl, rfl⟩
    go_wp2_with fail
    go_ret2
    exact ⟨rfl, Below.refl _ _⟩
  | true =>
    cases hv2 : validB t with
    | false =>
      rw [hv1] at cv1
      rw [hv2] at cv2
      have CV1 := Lib.hid cv1; have CV2 := Lib.hid cv2
      clear cv1 cv2 hc hf hR hv1 hv2
      go_enter Tryz.func89, Tryz.ntmps89
      go_wp2_with fail
      refine (CV1.out _).mono ?_
      rintro e w1 ⟨rfl, rfl⟩
      go_wp2_with fail
      refine (CV2.out _).mono ?_
      rintro e w1 ⟨rfl, rfl⟩
      go_wp2_with fail
      go_ret2
      exact ⟨rfl, Below.refl _ _⟩
    | true =>
      have n1 := fun W => numberOf_any s hv1 W
      have n2 := fun W => numberOf_any t hv2 W
      have g1 := fits_groups (text_valid hv1).1
      have g2 := fits_groups (text_valid hv2).1
      have hlen := hf _ _ (text_valid hv1).1 (text_valid hv2).1
      rw [hv1] at cv1
      rw [hv2] at cv2
      rw [show (true && true) = true from rfl, if_pos rfl, if_pos rfl]
      obtain ⟨X, hX⟩ : ∃ X, f (numB s) (numB t) = X := ⟨_, rfl⟩
      rw [hX] at hlen ⊢
      simp only [hX] at hc
      obtain ⟨N1, hN1⟩ : ∃ N, (numB s).natAbs = N := ⟨_, rfl⟩
      obtain ⟨N2, hN2⟩ : ∃ N, (numB t).natAbs = N := ⟨_, rfl⟩
      obtain ⟨b1, hb1⟩ : ∃ N, decide (numB s < 0) = N := ⟨_, rfl⟩
      obtain ⟨b2, hb2⟩ : ∃ N, decide (numB t < 0) = N := ⟨_, rfl⟩
      rw [hN1, hb1] at n1
      rw [hN2, hb2] at n2
      rw [hN1] at g1
      rw [hN2] at g2
      simp only [hN1, hN2, hb1, hb2] at hc
      have CV1 := Lib.hid cv1; have CV2 := Lib.hid cv2; have C1 := Lib.hid n1; have C2 := Lib.hid n2; have HC := Lib.hid hc; have HR := Lib.hid hR; have HL := Lib.hid hlen
      clear cv1 cv2 hc hf hR hv1 hv2 n1 n2 hX hN1 hN2 hb1 hb2 hlen
      go_enter Tryz.func89, Tryz.ntmps89
      go_wp2_with fail
      refine (CV1.out _).mono ?_
      rintro e w1 ⟨rfl, rfl⟩
      go_wp2_with fail
      refine (CV2.out _).mono ?_
      rintro e w1 ⟨rfl, rfl⟩
      go_wp2_with fail
      refine (C1.out _).mono ?_
      rintro e w1 ⟨ad1, m1, k1, rfl, h1, hw1⟩
      have H1 := Lib.hid h1; have HW1 := Lib.hid hw1
      clear h1 hw1
      go_wp2_with fail
      refine (C2.out _).mono ?_
      rintro e w2 ⟨ad2, m2, k2, rfl, h2, hw2⟩
      have hb12 := below_of HW1.out hw2
      have cf := HC.out w2 ad1 m1 k1 ad2 m2 k2 (HR.out.below hb12) (by have := H1.out.1; omega) (by have := h2.1; omega) (H1.out.below hw2 (Nat.le_refl _)) h2
      have CF := Lib.hid cf; have HB12 := Lib.hid hb12
      clear h2 hw2 hb12 cf H1 HW1
      go_wp2_with fail
      refine CF.out.mono ?_
      rintro e w3 ⟨neg, G, ad3, m3, k3, rfl, hg, h3, hw3⟩
      have hb13 := below_of HB12.out hw3
      have cr := result_any neg G ad3 m3 k3 w3 h3 (by have h4 := HL.out; rw [← hg, natAbs_intD, h3.1] at h4; omega) (HR.out.below hb13)
      rw [hg] at cr
      have CR := Lib.hid cr; have HB13 := Lib.hid hb13
      clear hg h3 hw3 hb13 cr CF
      go_wp2_with fail
      refine CR.out.mono ?_
      rintro e w4 ⟨rfl, hw4⟩
      have HB14 := Lib.hid (below_of HB13.out hw4)
      clear hw4 CR
      go_wp2_with fail
      go_ret2
      exact ⟨rfl, HB14.out⟩
end Go.Proofs.YtlcibnmcannapaaGreatDoor

namespace Go.Proofs.YtlcibnmcannapaaGreatDoor
open Go Go.Proofs Go.RowKit Go.Lib

theorem len_of_le {N A : Nat} {m : Nat} (h : N ≤ A) (hA : (grps A).length ≤ m) : (grps N).length ≤ m :=
  grps_length_le m N (Nat.lt_of_le_of_lt h ((grps_length_iff m A).1 hA))
theorem len_sum {A B : Nat} {m : Nat} (hA : (grps A).length ≤ m) (hB : (grps B).length ≤ m) : (grps (A + B)).length ≤ m + 1 := by
  apply grps_length_le
  have h1 := (grps_length_iff m A).1 hA
  have h2 := (grps_length_iff m B).1 hB
  rw [Nat.pow_succ]
  generalize 10000 ^ m = p at *
  omega
theorem len_prod {A B : Nat} {m n : Nat} (hA : (grps A).length ≤ m) (hB : (grps B).length ≤ n) : (grps (A * B)).length ≤ m + n := by
  apply grps_length_le
  have h1 := (grps_length_iff m A).1 hA
  have h2 := (grps_length_iff n B).1 hB
  rw [Nat.pow_add]
  exact Nat.mul_lt_mul'' h1 h2
theorem intD_decide (x : Int) : intD (decide (x < 0)) x.natAbs = x := intD_self x

theorem valid_i (s : ByteArray) (hs : s.size ≤ 1099511627776) (w : World) (_ : Ready w) :
    Calls Tryz.prog 76 #[.string s] w fun e w' => e = .returned (.bool (validB s)) ∧ Below w.heap.size w w' := by
  refine (valid_w s hs w).mono ?_
  rintro e w' ⟨rfl, rfl⟩
  exact ⟨rfl, Below.refl _ _⟩
theorem add_i (s t : ByteArray) (hs : s.size ≤ 1099511627776) (ht : t.size ≤ 1099511627776) (w : World) (hR : Ready w) :
    Calls Tryz.prog 69 #[.string s, .string t] w fun e w' => e = .returned (.tuple #[.string (opT (· + ·) s t), .int .i64 (opZ (· + ·) s t)]) ∧ Below w.heap.size w w' := by
  have c := combine_plus (· + ·) s t hs ht w hR (fun x y hx hy => Nat.le_trans (len_of_le (Int.natAbs_add_le x y) (len_sum (fits_groups hx) (fits_groups hy))) (by omega)) (fun W a1 m1 c1 a2 m2 c2 _ l1 l2 h1 h2 => by
    have := plusN_any (decide (numB s < 0)) (decide (numB t < 0)) _ _ a1 a2 m1 m2 c1 c2 W h1 h2 (by omega) (by omega)
    rw [intD_decide, intD_decide] at this
    exact this)
  obtain ⟨T, hT⟩ : ∃ T, opT (· + ·) s t = T := ⟨_, rfl⟩
  obtain ⟨Z, hZ⟩ : ∃ T, opZ (· + ·) s t = T := ⟨_, rfl⟩
  rw [hT, hZ] at c ⊢
  have C := Lib.hid c
  clear c hT hZ
  go_enter Tryz.func69, Tryz.ntmps69
  go_wp2_with fail
  refine C.out.mono ?_
  rintro e w1 ⟨rfl, b⟩
  go_wp2_with fail
  go_ret2
  exact ⟨rfl, b⟩
theorem sub_i (s t : ByteArray) (hs : s.size ≤ 1099511627776) (ht : t.size ≤ 1099511627776) (w : World) (hR : Ready w) :
    Calls Tryz.prog 70 #[.string s, .string t] w fun e w' => e = .returned (.tuple #[.string (opT (· - ·) s t), .int .i64 (opZ (· - ·) s t)]) ∧ Below w.heap.size w w' := by
  have c := combine_minus (· - ·) s t hs ht w hR (fun x y hx hy => Nat.le_trans (len_of_le (Int.natAbs_sub_le x y) (len_sum (fits_groups hx) (fits_groups hy))) (by omega)) (fun W a1 m1 c1 a2 m2 c2 _ l1 l2 h1 h2 => by
    have := minusN_any (decide (numB s < 0)) (decide (numB t < 0)) _ _ a1 a2 m1 m2 c1 c2 W h1 h2 (by omega) (by omega)
    rw [intD_decide, intD_decide] at this
    exact this)
  obtain ⟨T, hT⟩ : ∃ T, opT (· - ·) s t = T := ⟨_, rfl⟩
  obtain ⟨Z, hZ⟩ : ∃ T, opZ (· - ·) s t = T := ⟨_, rfl⟩
  rw [hT, hZ] at c ⊢
  have C := Lib.hid c
  clear c hT hZ
  go_enter Tryz.func70, Tryz.ntmps70
  go_wp2_with fail
  refine C.out.mono ?_
  rintro e w1 ⟨rfl, b⟩
  go_wp2_with fail
  go_ret2
  exact ⟨rfl, b⟩
theorem mul_i (s t : ByteArray) (hs : s.size ≤ 1099511627776) (ht : t.size ≤ 1099511627776) (w : World) (hR : Ready w) :
    Calls Tryz.prog 95 #[.string s, .string t] w fun e w' => e = .returned (.tuple #[.string (opT (· * ·) s t), .int .i64 (opZ (· * ·) s t)]) ∧ Below w.heap.size w w' := by
  have c := combine_times (· * ·) s t hs ht w hR (fun x y hx hy => Nat.le_trans (by rw [Int.natAbs_mul]; exact len_prod (fits_groups hx) (fits_groups hy)) (by omega)) (fun W a1 m1 c1 a2 m2 c2 _ l1 l2 h1 h2 => by
    have := timesN_any (decide (numB s < 0)) (decide (numB t < 0)) _ _ a1 a2 m1 m2 c1 c2 W h1 h2 (by omega)
    rw [intD_decide, intD_decide] at this
    exact this)
  obtain ⟨T, hT⟩ : ∃ T, opT (· * ·) s t = T := ⟨_, rfl⟩
  obtain ⟨Z, hZ⟩ : ∃ T, opZ (· * ·) s t = T := ⟨_, rfl⟩
  rw [hT, hZ] at c ⊢
  have C := Lib.hid c
  clear c hT hZ
  go_enter Tryz.func95, Tryz.ntmps95
  go_wp2_with fail
  refine C.out.mono ?_
  rintro e w1 ⟨rfl, b⟩
  go_wp2_with fail
  go_ret2
  exact ⟨rfl, b⟩
theorem gcd_le_sum (m n : Nat) : Nat.gcd m n ≤ m + n := by
  rcases Nat.eq_zero_or_pos m with h | h
  · subst h; rw [Nat.gcd_zero_left]; omega
  · have := Nat.gcd_le_left n h; omega
theorem gcd_i (s t : ByteArray) (hs : s.size ≤ 1099511627776) (ht : t.size ≤ 1099511627776) (w : World) (hR : Ready w) :
    Calls Tryz.prog 62 #[.string s, .string t] w fun e w' => e = .returned (.tuple #[.string (opT gcdI s t), .int .i64 (opZ gcdI s t)]) ∧ Below w.heap.size w w' := by
  have c := combine_gcd gcdI s t hs ht w hR (fun x y hx hy => Nat.le_trans (len_of_le (show (gcdI x y).natAbs ≤ x.natAbs + y.natAbs by unfold gcdI; rw [Int.natAbs_natCast]; exact gcd_le_sum _ _) (len_sum (fits_groups hx) (fits_groups hy))) (by omega)) (fun W a1 m1 c1 a2 m2 c2 hW l1 l2 h1 h2 =>
    gcdN_any (decide (numB s < 0)) (decide (numB t < 0)) _ _ a1 a2 m1 m2 c1 c2 W h1 h2 (by omega) (by omega) hW)
  obtain ⟨T, hT⟩ : ∃ T, opT gcdI s t = T := ⟨_, rfl⟩
  obtain ⟨Z, hZ⟩ : ∃ T, opZ gcdI s t = T := ⟨_, rfl⟩
  rw [hT, hZ] at c ⊢
  have C := Lib.hid c
  clear c hT hZ
  go_enter Tryz.func62, Tryz.ntmps62
  go_wp2_with fail
  refine C.out.mono ?_
  rintro e w1 ⟨rfl, b⟩
  go_wp2_with fail
  go_ret2
  exact ⟨rfl, b⟩
theorem neg_pos {x : Int} (h : decide (x < 0) = true) : x.natAbs ≠ 0 := by
  have := of_decide_eq_true h
  omega
set_option maxRecDepth 100000 in
set_option maxHeartbeats 4000000 in
theorem cmp_i (s t : ByteArray) (hs : s.size ≤ 1099511627776) (ht : t.size ≤ 1099511627776) (w : World) (_ : Ready w) :
    Calls Tryz.prog 51 #[.string s, .string t] w fun e w' => e = .returned (.int .i64 (cmpB s t)) ∧ Below w.heap.size w w' := by
  have cv1 := fun W => valid_w s hs W
  have cv2 := fun W => valid_w t ht W
  unfold cmpB
  cases hv1 : validB s with
  | false =>
    rw [hv1] at cv1
    have CV1 := Lib.hid cv1
    clear cv1 cv2 hv1
    go_enter Tryz.func51, Tryz.ntmps51
    go_wp2_with fail
    refine (CV1.out _).mono ?_
    rintro e w1 ⟨rfl, rfl⟩
    go_wp2_with fail
    go_ret
    exact ⟨rfl, Below.refl _ _⟩
  | true =>
    cases hv2 : validB t with
    | false =>
      rw [hv1] at cv1
      rw [hv2] at cv2
      have CV1 := Lib.hid cv1; have CV2 := Lib.hid cv2
      clear cv1 cv2 hv1 hv2
      go_enter Tryz.func51, Tryz.ntmps51
      go_wp2_with fail
      refine (CV1.out _).mono ?_
      rintro e w1 ⟨rfl, rfl⟩
      go_wp2_with fail
      refine (CV2.out _).mono ?_
      rintro e w1 ⟨rfl, rfl⟩
      go_wp2_with fail
      go_ret
      exact ⟨rfl, Below.refl _ _⟩
    | true =>
      have n1 := fun W => numberOf_any s hv1 W
      have n2 := fun W => numberOf_any t hv2 W
      have cc := fun W a1 m1 c1 a2 m2 c2 h1 h2 => numCmp_any (decide (numB s < 0)) (decide (numB t < 0)) _ _ neg_pos neg_pos a1 a2 m1 m2 c1 c2 W h1 h2
      simp only [intD_decide] at cc
      rw [hv1] at cv1
      rw [hv2] at cv2
      rw [show (true && true) = true from rfl, if_pos rfl]
      rw [show (if numB s < numB t then (-1 : Int) else if numB t < numB s then 1 else 0) = sgnI (numB s) (numB t) from rfl]
      obtain ⟨X, hX⟩ : ∃ X, sgnI (numB s) (numB t) = X := ⟨_, rfl⟩
      rw [hX]
      simp only [hX] at cc
      obtain ⟨N1, hN1⟩ : ∃ N, (numB s).natAbs = N := ⟨_, rfl⟩
      obtain ⟨N2, hN2⟩ : ∃ N, (numB t).natAbs = N := ⟨_, rfl⟩
      obtain ⟨b1, hb1⟩ : ∃ N, decide (numB s < 0) = N := ⟨_, rfl⟩
      obtain ⟨b2, hb2⟩ : ∃ N, decide (numB t < 0) = N := ⟨_, rfl⟩
      rw [hN1, hb1] at n1
      rw [hN2, hb2] at n2
      simp only [hN1, hN2, hb1, hb2] at cc
      have CV1 := Lib.hid cv1; have CV2 := Lib.hid cv2; have C1 := Lib.hid n1; have C2 := Lib.hid n2; have HC := Lib.hid cc
      clear cv1 cv2 cc hv1 hv2 n1 n2 hX hN1 hN2 hb1 hb2
      go_enter Tryz.func51, Tryz.ntmps51
      go_wp2_with fail
      refine (CV1.out _).mono ?_
      rintro e w1 ⟨rfl, rfl⟩
      go_wp2_with fail
      refine (CV2.out _).mono ?_
      rintro e w1 ⟨rfl, rfl⟩
      go_wp2_with fail
      refine (C1.out _).mono ?_
      rintro e w1 ⟨ad1, m1, k1, rfl, h1, hw1⟩
      have H1 := Lib.hid h1; have HW1 := Lib.hid hw1
      clear h1 hw1
      go_wp2_with fail
      refine (C2.out _).mono ?_
      rintro e w2 ⟨ad2, m2, k2, rfl, h2, hw2⟩
      have cf := HC.out w2 ad1 m1 k1 ad2 m2 k2 (H1.out.below hw2 (Nat.le_refl _)) h2
      have CF := Lib.hid cf; have HB12 := Lib.hid (below_of HW1.out hw2)
      clear h2 hw2 cf H1 HW1
      go_wp2_with fail
      refine CF.out.mono ?_
      rintro e w3 ⟨rfl, hw3⟩
      have HB13 := Lib.hid (below_of HB12.out hw3)
      clear hw3 CF
      go_wp2_with fail
      go_ret
      exact ⟨rfl, HB13.out⟩
theorem from_i (n : Int) (hlo : -9223372036854775808 ≤ n) (hhi : n ≤ 9223372036854775807) (w : World) (hR : Ready w) :
    Calls Tryz.prog 63 #[.int .i64 n] w fun e w' => e = .returned (.string (textI n)) ∧ Below w.heap.size w w' := by
  have c := strconv_Itoa n hlo hhi w hR
  rw [itoa_textI] at c
  obtain ⟨T, hT⟩ : ∃ T, textI n = T := ⟨_, rfl⟩
  rw [hT] at c ⊢
  have C := Lib.hid c
  clear c hT
  go_enter Tryz.func63, Tryz.ntmps63
  go_wp2_with fail
  refine C.out.mono ?_
  rintro e w1 ⟨rfl, k, os, rfl⟩
  have hb : Below w.heap.size w («Sort».grow (w.drewN k) os) := below_of (below_drewN (Below.refl _ _) k) (Lib.below_grow _ _ (Nat.le_refl _) 0 os)
  have HB := Lib.hid hb
  clear hb
  go_wp2_with fail
  go_ret
  exact ⟨rfl, HB.out⟩
theorem root_unique {N a b : Nat} (ha : a * a ≤ N) (ha' : N < (a + 1) * (a + 1)) (hb : b * b ≤ N) (hb' : N < (b + 1) * (b + 1)) : a = b := by
  rcases Nat.lt_trichotomy a b with h | h | h
  · have := Nat.mul_le_mul (show a + 1 ≤ b by omega) (show a + 1 ≤ b by omega); omega
  · exact h
  · have := Nat.mul_le_mul (show b + 1 ≤ a by omega) (show b + 1 ≤ a by omega); omega
end Go.Proofs.YtlcibnmcannapaaGreatDoor

namespace Go.Proofs.YtlcibnmcannapaaGreatDoor
open Go Go.Proofs Go.RowKit Go.Lib

theorem zero_text {t : ByteArray} (h : validB t = true) : numB t = 0 ↔ t = ⟨#[48]⟩ := by
  constructor
  · intro e
    have := (text_valid h).2
    rw [e] at this
    exact this
  · rintro rfl
    decide +kernel

theorem quot_fits {x y : Int} (hx : Fits x) : (x / y).natAbs < 10 ^ 200 := Nat.lt_of_le_of_lt (Int.natAbs_ediv_le_natAbs x y) hx

set_option maxRecDepth 100000 in
set_option maxHeartbeats 8000000 in
theorem div_i (s t : ByteArray) (hs : s.size ≤ 1099511627776) (ht : t.size ≤ 1099511627776) (w : World) (hR : Ready w) :
    Calls Tryz.prog 50 #[.string s, .string t] w fun e w' => e = .returned (.tuple #[.string (divQ s t), .string (divR s t), .int .i64 (divZ s t)]) ∧ Below w.heap.size w w' := by
  have cv1 := fun W => valid_w s hs W
  have cv2 := fun W => valid_w t ht W
  unfold divQ divR divZ
  cases hv1 : validB s with
  | false =>
    rw [hv1] at cv1
    have CV1 := Lib.hid cv1
    clear cv1 cv2 hv1 hR
    go_enter Tryz.func50, Tryz.ntmps50
    go_wp2_with fail
    refine (CV1.out _).mono ?_
    rintro e w1 ⟨rfl, rfl⟩
    go_wp2_with fail
    go_ret3
    exact ⟨rfl, Below.refl _ _⟩
  | true =>
    cases hv2 : validB t with
    | false =>
      rw [hv1] at cv1
      rw [hv2] at cv2
      have CV1 := Lib.hid cv1; have CV2 := Lib.hid cv2
      clear cv1 cv2 hv1 hv2 hR
      go_enter Tryz.func50, Tryz.ntmps50
      go_wp2_with fail
      refine (CV1.out _).mono ?_
      rintro e w1 ⟨rfl, rfl⟩
      go_wp2_with fail
      refine (CV2.out _).mono ?_
      rintro e w1 ⟨rfl, rfl⟩
      go_wp2_with fail
      go_ret3
      exact ⟨rfl, Below.refl _ _⟩
    | true =>
      have e1 : (t.toList == (⟨#[48]⟩ : ByteArray).toList) = decide (numB t = 0) := by rw [str_eq_iff]; exact decide_eq_decide.2 (zero_text hv2).symm
      have e3 : (t.toList == [48]) = decide (numB t = 0) := by rw [← list48]; exact e1
      by_cases hz : numB t = 0
      · rw [decide_eq_true hz] at e1 e3
        rw [decide_eq_false (show ¬ numB t ≠ 0 from fun h => h hz)]
        have e4 : t.toList = [48] := by simpa using e3
        rw [hv1] at cv1
        rw [hv2] at cv2
        have CV1 := Lib.hid cv1; have CV2 := Lib.hid cv2
        clear cv1 cv2 hv1 hv2 hR hz
        go_enter Tryz.func50, Tryz.ntmps50
        go_wp2_with fail
        refine (CV1.out _).mono ?_
        rintro e w1 ⟨rfl, rfl⟩
        go_wp2_with fail
        refine (CV2.out _).mono ?_
        rintro e w1 ⟨rfl, rfl⟩
        go_wp2_with fail
        go_ret3
        exact ⟨rfl, Below.refl _ _⟩
      · rw [decide_eq_false hz] at e1 e3
        have e4 : t.toList ≠ [48] := by simpa using e3
        have hd0 : 0 < (numB t).natAbs := by omega
        have n1 := fun W => numberOf_any s hv1 W
        have n2 := fun W => numberOf_any t hv2 W
        have g1 := fits_groups (text_valid hv1).1
        have g2 := fits_groups (text_valid hv2).1
        have hqf := quot_fits (y := numB t) (text_valid hv1).1
        have hQl := len_of_le (Int.natAbs_ediv_le_natAbs (numB s) (numB t)) g1
        have hRl : (grps (numB s % numB t).natAbs).length ≤ 50 := by
          refine len_of_le (A := (numB t).natAbs) ?_ g2
          have h1 := Int.emod_nonneg (numB s) hz
          have h2 := Int.emod_lt (numB s) hz
          omega
        have cc := fun W a1 m1 c1 a2 m2 c2 (l1 : m1 ≤ 900) (l2 : m2 ≤ 900) h1 h2 => divN_any (decide (numB s < 0)) (decide (numB t < 0)) (numB s).natAbs (numB t).natAbs hd0 a1 a2 m1 m2 c1 c2 W h1 h2 l1 l2
        simp only [intD_decide] at cc
        rw [hv1] at cv1
        rw [hv2] at cv2
        rw [show (true && true && decide (numB t ≠ 0)) = true by simp [hz], if_pos rfl, if_pos rfl, if_pos rfl]
        unfold resT resR resZ
        rw [if_pos hqf, if_pos hqf, if_pos hqf]
        obtain ⟨X, hX⟩ : ∃ X, numB s / numB t = X := ⟨_, rfl⟩
        obtain ⟨Y, hY⟩ : ∃ X, numB s % numB t = X := ⟨_, rfl⟩
        rw [hX, hY]
        rw [hX] at hQl
        rw [hY] at hRl
        obtain ⟨T1, hT1⟩ : ∃ T, textI X = T := ⟨_, rfl⟩
        obtain ⟨T2, hT2⟩ : ∃ T, textI Y = T := ⟨_, rfl⟩
        rw [hT1, hT2]
        have HT1 := Lib.hid hT1; have HT2 := Lib.hid hT2
        clear hT1 hT2
        simp only [hX, hY] at cc
        obtain ⟨N1, hN1⟩ : ∃ N, (numB s).natAbs = N := ⟨_, rfl⟩
        obtain ⟨N2, hN2⟩ : ∃ N, (numB t).natAbs = N := ⟨_, rfl⟩
        obtain ⟨b1, hb1⟩ : ∃ N, decide (numB s < 0) = N := ⟨_, rfl⟩
        obtain ⟨b2, hb2⟩ : ∃ N, decide (numB t < 0) = N := ⟨_, rfl⟩
        rw [hN1, hb1] at n1
        rw [hN2, hb2] at n2
        rw [hN1] at g1
        rw [hN2] at g2
        simp only [hN1, hN2, hb1, hb2] at cc
        have CV1 := Lib.hid cv1; have CV2 := Lib.hid cv2; have C1 := Lib.hid n1; have C2 := Lib.hid n2; have HC := Lib.hid cc; have HR := Lib.hid hR; have HL := Lib.hid (And.intro hQl hRl)
        clear cv1 cv2 cc hv1 hv2 n1 n2 hX hY hN1 hN2 hb1 hb2 hz hd0 hqf hQl hRl hR
        go_enter Tryz.func50, Tryz.ntmps50
        go_wp2_with fail
        refine (CV1.out _).mono ?_
        rintro e w1 ⟨rfl, rfl⟩
        go_wp2_with fail
        refine (CV2.out _).mono ?_
        rintro e w1 ⟨rfl, rfl⟩
        go_wp2_with fail
        refine (C1.out _).mono ?_
        rintro e w1 ⟨ad1, m1, k1, rfl, h1, hw1⟩
        have H1 := Lib.hid h1; have HW1 := Lib.hid hw1
        clear h1 hw1
        go_wp2_with fail
        refine (C2.out _).mono ?_
        rintro e w2 ⟨ad2, m2, k2, rfl, h2, hw2⟩
        have cf := HC.out w2 ad1 m1 k1 ad2 m2 k2 (by have := H1.out.1; omega) (by have := h2.1; omega) (H1.out.below hw2 (Nat.le_refl _)) h2
        have CF := Lib.hid cf; have HB12 := Lib.hid (below_of HW1.out hw2)
        clear h2 hw2 cf H1 HW1
        go_wp2_with fail
        refine CF.out.mono ?_
        rintro e w3 ⟨bq, Nq, aq, mq, cq, Nr, ar, mr, cr, rfl, hq1, hr1, hq2, hr2, hw3⟩
        have hb13 := below_of HB12.out hw3
        obtain ⟨W4, hW4, hb4, k1', k2'⟩ := two_frame w3 bq false aq ar mq mr cq cr
        have kt1 := fun W (b : Below W4.heap.size W4 W) => numText_any bq Nq aq mq cq W ((hq2.below hb4 (Nat.le_refl _)).below b (Nat.le_refl _)) (by have h4 := HL.out.1; rw [← hq1, natAbs_intD, hq2.1] at h4; omega) (HR.out.below (below_of (below_of hb13 hb4) b))
        have kt2 := fun W (b : Below W4.heap.size W4 W) => numText_any false Nr ar mr cr W ((hr2.below hb4 (Nat.le_refl _)).below b (Nat.le_refl _)) (by have h4 := HL.out.2; rw [← hr1, Int.natAbs_natCast, hr2.1] at h4; omega) (HR.out.below (below_of (below_of hb13 hb4) b))
        rw [hq1] at kt1
        rw [show intD false Nr = ((Nr : Nat) : Int) from rfl, hr1] at kt2
        have hc4 := fun W (b : Below W4.heap.size W4 W) => show (W.cell? ⟨w3.heap.size, 0, none⟩ = some (.bool bq) ∧ W.cell? ⟨w3.heap.size, 1, none⟩ = some (.slice aq mq cq)) ∧ (W.cell? ⟨w3.heap.size + 1, 0, none⟩ = some (.bool false) ∧ W.cell? ⟨w3.heap.size + 1, 1, none⟩ = some (.slice ar mr cr)) from
          ⟨⟨(num_cells (num_kept k1' b)).1, (num_cells (num_kept k1' b)).2.1⟩, ⟨(num_cells (num_kept k2' b)).1, (num_cells (num_kept k2' b)).2.1⟩⟩
        rw [HT1.out] at kt1
        rw [HT2.out] at kt2
        have KT1 := Lib.hid kt1; have KT2 := Lib.hid kt2; have HC4 := Lib.hid hc4; have HW4 := Lib.hid hW4; have HB14 := Lib.hid (below_of hb13 hb4)
        clear hw3 CF kt1 kt2 hc4 hW4 hb4 k1' k2' hb13 hq1 hq2 hr1 hr2
        go_wp2_with fail
        rw [HW4.out]
        go_region_held3 (fun W => (W.cell? ⟨w3.heap.size, 0, none⟩ = some (.bool bq) ∧ W.cell? ⟨w3.heap.size, 1, none⟩ = some (.slice aq mq cq)) ∧ (W.cell? ⟨w3.heap.size + 1, 0, none⟩ = some (.bool false) ∧ W.cell? ⟨w3.heap.size + 1, 1, none⟩ = some (.slice ar mr cr)))
          (first | exact HC4.out _ ⟨rfl, rfl, rfl, Nat.le_refl _, fun _ _ => rfl⟩ | exact HC4.out _ hbA | exact HC4.out _ hbB)
          (first | (go_at_call 79; (with_reducible refine (KT1.out _ ?_).mono ?_); (first | exact ⟨rfl, rfl, rfl, Nat.le_refl _, fun _ _ => rfl⟩ | exact hbB); (rintro e wA ⟨rfl, hbA'⟩); (first | (have hbA := below_of hbB ⟨hbA'.os, hbA'.tape, hbA'.output, hbA'.size, hbA'.block⟩) | (have hbA : Below W4.heap.size W4 wA := ⟨hbA'.os, hbA'.tape, hbA'.output, hbA'.size, hbA'.block⟩))) | (go_at_call 79; (with_reducible refine (KT2.out _ ?_).mono ?_); (first | exact ⟨rfl, rfl, rfl, Nat.le_refl _, fun _ _ => rfl⟩ | exact hbA); (rintro e wB ⟨rfl, hbB'⟩); (first | (have hbB := below_of hbA ⟨hbB'.os, hbB'.tape, hbB'.output, hbB'.size, hbB'.block⟩) | (have hbB : Below W4.heap.size W4 wB := ⟨hbB'.os, hbB'.tape, hbB'.output, hbB'.size, hbB'.block⟩))))
        all_goals (
          go_wp2
          go_ret3
          first
            | exact ⟨rfl, below_of HB14.out hbB⟩
            | exact ⟨rfl, below_of HB14.out hbA⟩)
end Go.Proofs.YtlcibnmcannapaaGreatDoor
