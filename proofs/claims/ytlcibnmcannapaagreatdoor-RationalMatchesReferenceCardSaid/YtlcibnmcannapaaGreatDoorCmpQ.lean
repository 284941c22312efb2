/-
  The contract of the reference's Compare of fractions; what one round of comparing does, in plain mathematics.
-/
import Derived.Test.YtlcibnmcannapaaGreatDoorProdQ
import Derived.Test.YtlcibnmcannapaaGreatDoorChain
namespace Go.Proofs.YtlcibnmcannapaaGreatDoor
open Go Go.Proofs Go.RowKit Go.Lib

def strOfV : Value → ByteArray
  | .string s => s
  | _ => ByteArray.empty
/-- What holds at the head of the loop of Compare. -/
def CmpInv (n d m c s R : Int) : Prop := Fits n ∧ Fits d ∧ Fits m ∧ Fits c ∧ 0 < d ∧ 0 < c ∧ (s = 1 ∨ s = -1) ∧ s * sgZ (n * c) (m * d) = R
theorem sgZ_cases (x y : Int) : (sgZ x y = 1 ∧ y < x) ∨ (sgZ x y = 0 ∧ x = y) ∨ (sgZ x y = -1 ∧ x < y) := by
  rcases Int.lt_trichotomy x y with h | h | h
  · exact .inr (.inr ⟨sgZ_lt h, h⟩)
  · exact .inr (.inl ⟨by rw [h]; exact sgZ_self y, h⟩)
  · exact .inl ⟨sgZ_gt h, h⟩
theorem rem_fits {x d : Int} (hd : Fits d) (h0 : 0 < d) : Fits (x % d) := by
  have h1 := Int.emod_nonneg x (show d ≠ 0 by omega)
  have h2 := Int.emod_lt_of_pos x h0
  unfold Fits at *
  omega
/-- The whole parts differ. -/
theorem cmp_whole {n d m c s R : Int} (h : CmpInv n d m c s R) (hz : n / d ≠ m / c) : s * sgZ (n / d) (m / c) = R := by
  obtain ⟨_, _, _, _, h5, h6, _, h8⟩ := h
  rw [← whole_ne h5 h6 hz]; exact h8
/-- They are equal, and one has no remainder. -/
theorem cmp_end {n d m c s R : Int} (h : CmpInv n d m c s R) (hz : n / d = m / c) (hr : n % d = 0 ∨ m % c = 0) : s * sgZ (zOr (n % d)) (zOr (m % c)) = R := by
  obtain ⟨_, _, _, _, h5, h6, _, h8⟩ := h
  rw [← rest_end h5 h6 (Int.emod_nonneg n (by omega)) (Int.emod_nonneg m (by omega)) hr, ← whole_eq hz]; exact h8
theorem zOr_sg {x y : Int} (hx : 0 ≤ x) (hy : 0 ≤ y) (h : x = 0 ∨ y = 0) : sgZ (zOr x) (zOr y) = sgZ x y := by
  unfold zOr
  rcases h with h | h
  · subst h
    rw [if_pos rfl]
    by_cases h2 : y = 0
    · subst h2; rfl
    · rw [if_neg h2, sgZ_lt (show (0 : Int) < y by omega)]; rfl
  · subst h
    rw [if_pos rfl]
    by_cases h2 : x = 0
    · subst h2; rfl
    · rw [if_neg h2, sgZ_gt (show (0 : Int) < x by omega)]; rfl
theorem zOr_fits (x : Int) : Fits (zOr x) := by
  unfold zOr
  split
  · unfold Fits; exact Nat.pos_of_ne_zero (by decide)
  · exact one_fits
/-- And when both have one, they are turned over. -/
theorem cmp_next {n d m c s R : Int} (h : CmpInv n d m c s R) (hz : n / d = m / c) (hr : n % d ≠ 0) (ht : m % c ≠ 0) : CmpInv d (n % d) c (m % c) (-s) R ∧ (n % d).natAbs < d.natAbs := by
  obtain ⟨h1, h2, h3, h4, h5, h6, h7, h8⟩ := h
  have p1 := Int.emod_nonneg n (show d ≠ 0 by omega)
  have p2 := Int.emod_nonneg m (show c ≠ 0 by omega)
  have p3 := Int.emod_lt_of_pos n h5
  refine ⟨⟨h2, rem_fits h2 h5, h4, rem_fits h4 h6, by omega, by omega, by omega, ?_⟩, by omega⟩
  rw [whole_eq hz, rest_flip, Int.mul_neg] at h8
  rw [Int.neg_mul]
  exact h8
theorem cmp_texts {x y : Int} (hx : Fits x) (hy : Fits y) : cmpB (textI x) (textI y) = sgZ x y := by
  unfold cmpB sgZ
  rw [(valid_text hx).1, (valid_text hy).1, (valid_text hx).2, (valid_text hy).2]
  rfl
theorem text_is0 (x : Int) : ((textI x).toList == [48]) = decide (x = 0) := by
  rw [← list48, str_eq_iff]
  exact decide_eq_decide.2 textI_zero
theorem cmpInv_start {an ad bn bd : ByteArray} (h : bothB an ad bn bd = true) : CmpInv (numB an) (numB ad) (numB bn) (numB bd) 1 (cmpQ an ad bn bd) := by
  obtain ⟨v1, v2⟩ := both_parts h
  obtain ⟨u1, u2, u3, _⟩ := validQ_parts v1
  obtain ⟨u4, u5, u6, _⟩ := validQ_parts v2
  refine ⟨(text_valid u1).1, (text_valid u2).1, (text_valid u4).1, (text_valid u5).1, u3, u6, .inl rfl, ?_⟩
  rw [Int.one_mul, cmpQ_both h]
theorem zeroOr_any (x : Int) (w : World) : Calls Tryz.prog 54 #[.string (textI x)] w fun e w' => e = .returned (.string (textI (zOr x))) ∧ w' = w := by
  have h := text_is0 x
  by_cases hx : x = 0
  · have e : textI (zOr x) = textI x := by unfold zOr; rw [if_pos hx, hx]
    rw [e]
    rw [decide_eq_true hx] at h
    generalize textI x = T at *
    clear hx e
    go_enter Tryz.func54, Tryz.ntmps54
    go_wp2
    go_ret
    exact ⟨rfl, rfl⟩
  · have e : textI (zOr x) = ⟨#[49]⟩ := by unfold zOr; rw [if_neg hx]; decide +kernel
    rw [e]
    rw [decide_eq_false hx] at h
    generalize textI x = T at *
    clear hx e
    go_enter Tryz.func54, Tryz.ntmps54
    go_wp2
    go_ret
    exact ⟨rfl, rfl⟩

set_option maxRecDepth 100000 in
set_option maxHeartbeats 8000000 in
theorem cmpR4_any (an ad bn bd : ByteArray) (h1 : an.size ≤ 1099511627776) (h2 : ad.size ≤ 1099511627776) (h3 : bn.size ≤ 1099511627776) (h4 : bd.size ≤ 1099511627776) (w : World) :
    Calls Tryz.prog 21 #[.agg #[.string an, .string ad], .agg #[.string bn, .string bd]] w fun e w' => e = .returned (.int .i64 (cmpQ an ad bn bd)) ∧ Below w.heap.size w w' := by
  obtain ⟨W0, hW0, b0, hcc⟩ := box_two w an ad bn bd
  have HW := Lib.hid hW0; have HC := Lib.hid hcc; have B0 := Lib.hid b0
  have P0 := Lib.hid (Below.refl W0.heap.size W0)
  clear hW0 hcc b0
  have va := fun W => validR4_any an ad h1 h2 W
  have vb := fun W => validR4_any bn bd h3 h4 W
  cases hv : bothB an ad bn bd with
  | false =>
    have hb : cmpQ an ad bn bd = 0 := by unfold cmpQ; rw [hv]; rfl
    rw [hb]
    unfold bothB at hv
    cases e1 : validQ an ad with
    | false =>
      rw [e1] at va
      have VA := Lib.hid va; have VB := Lib.hid vb
      clear va vb e1 hv hb
      go_enter Tryz.func21, Tryz.ntmps21
      obtain ⟨⟨ca0, cb0, cc0, cd0⟩, ⟨ce0, cf0, cg0, ch0⟩⟩ := HC.out _ (Below.refl _ _)
      go_wp2_with (rw [HW.out])
      refine (VA.out _).mono ?_
      rintro e w1 ⟨rfl, b1⟩
      have P1 := Lib.hid (below_up P0.out b1)
      obtain ⟨⟨ca1, cb1, cc1, cd1⟩, ⟨ce1, cf1, cg1, ch1⟩⟩ := HC.out _ P1.out
      clear b1 P0 ca0 cb0 cc0 cd0 ce0 cf0 cg0 ch0 
      go_wp2_with fail
      refine (VB.out _).mono ?_
      rintro e w2 ⟨rfl, b2⟩
      have P2 := Lib.hid (below_up P1.out b2)
      obtain ⟨⟨ca2, cb2, cc2, cd2⟩, ⟨ce2, cf2, cg2, ch2⟩⟩ := HC.out _ P2.out
      clear b2 P1 ca1 cb1 cc1 cd1 ce1 cf1 cg1 ch1 
      go_wp2
      go_ret
      exact ⟨rfl, below_up B0.out P2.out⟩
    | true =>
      rw [e1, Bool.true_and] at hv
      rw [e1] at va
      rw [hv] at vb
      have VA := Lib.hid va; have VB := Lib.hid vb
      clear va vb e1 hv hb
      go_enter Tryz.func21, Tryz.ntmps21
      obtain ⟨⟨ca0, cb0, cc0, cd0⟩, ⟨ce0, cf0, cg0, ch0⟩⟩ := HC.out _ (Below.refl _ _)
      go_wp2_with (rw [HW.out])
      refine (VA.out _).mono ?_
      rintro e w1 ⟨rfl, b1⟩
      have P1 := Lib.hid (below_up P0.out b1)
      obtain ⟨⟨ca1, cb1, cc1, cd1⟩, ⟨ce1, cf1, cg1, ch1⟩⟩ := HC.out _ P1.out
      clear b1 P0 ca0 cb0 cc0 cd0 ce0 cf0 cg0 ch0 
      go_wp2_with fail
      refine (VB.out _).mono ?_
      rintro e w2 ⟨rfl, b2⟩
      have P2 := Lib.hid (below_up P1.out b2)
      obtain ⟨⟨ca2, cb2, cc2, cd2⟩, ⟨ce2, cf2, cg2, ch2⟩⟩ := HC.out _ P2.out
      clear b2 P1 ca1 cb1 cc1 cd1 ce1 cf1 cg1 ch1 
      go_wp2
      go_ret
      exact ⟨rfl, below_up B0.out P2.out⟩
  | true =>
    have hinv := cmpInv_start hv
    obtain ⟨v1, v2⟩ := both_parts hv
    obtain ⟨u1, u2, _, _⟩ := validQ_parts v1
    obtain ⟨u3, u4, _, _⟩ := validQ_parts v2
    rw [v1] at va
    rw [v2] at vb
    have HS := Lib.hid (show CmpInv (numB an) (numB ad) (numB bn) (numB bd) 1 (cmpQ an ad bn bd) ∧ an = textI (numB an) ∧ ad = textI (numB ad) ∧ bn = textI (numB bn) ∧ bd = textI (numB bd) from ⟨hinv, (text_valid u1).2, (text_valid u2).2, (text_valid u3).2, (text_valid u4).2⟩)
    generalize cmpQ an ad bn bd = R at *
    have VA := Lib.hid va; have VB := Lib.hid vb
    clear va vb hinv v1 v2 u1 u2 u3 u4 hv h1 h2 h3 h4
    go_enter Tryz.func21, Tryz.ntmps21
    obtain ⟨⟨ca0, cb0, cc0, cd0⟩, ⟨ce0, cf0, cg0, ch0⟩⟩ := HC.out _ (Below.refl _ _)
    go_wp2_with (rw [HW.out])
    refine (VA.out _).mono ?_
    rintro e w1 ⟨rfl, b1⟩
    have P1 := Lib.hid (below_up P0.out b1)
    obtain ⟨⟨ca1, cb1, cc1, cd1⟩, ⟨ce1, cf1, cg1, ch1⟩⟩ := HC.out _ P1.out
    clear b1 P0 ca0 cb0 cc0 cd0 ce0 cf0 cg0 ch0 
    go_wp2_with fail
    refine (VB.out _).mono ?_
    rintro e w2 ⟨rfl, b2⟩
    have P2 := Lib.hid (below_up P1.out b2)
    obtain ⟨⟨ca2, cb2, cc2, cd2⟩, ⟨ce2, cf2, cg2, ch2⟩⟩ := HC.out _ P2.out
    clear b2 P1 ca1 cb1 cc1 cd1 ce1 cf1 cg1 ch1 
    go_wp2_with fail
    clear ca2 cb2 cc2 cd2 ce2 cf2 cg2 ch2
    go_loopw [7, 8, 9, 10, 11] (fun sg vn vd vm vc wr => ∃ n d m c s : Int, sg = .int .i64 s ∧ vn = .string (textI n) ∧ vd = .string (textI d) ∧ vm = .string (textI m) ∧ vc = .string (textI c) ∧ Hid (CmpInv n d m c s R) ∧ Hid (Below W0.heap.size W0 wr)) (fun _ _ vd _ _ _ => (numB (strOfV vd)).natAbs)
    case atStart => exact ⟨numB an, numB ad, numB bn, numB bd, 1, rfl, by rw [← HS.out.2.1], by rw [← HS.out.2.2.1], by rw [← HS.out.2.2.2.1], by rw [← HS.out.2.2.2.2], HS.out.1, P2.out⟩
    case round =>
      obtain ⟨n, d, m, c, s, rfl, rfl, rfl, rfl, rfl, hinv, hbr⟩ := hrel
      have hi := hinv.out
      obtain ⟨f1, f2, f3, f4, pd, pc, hs, _⟩ := hi
      obtain ⟨q1, q2⟩ := div_texts f1 f2 (by omega)
      have q3 := rem_text f1 f2 (by omega)
      obtain ⟨r1, r2⟩ := div_texts f3 f4 (by omega)
      have r3 := rem_text f3 f4 (by omega)
      have ca := fun W => divR_any (textI n) (textI d) (le_of_fits f1) (le_of_fits f2) W
      have cb := fun W => divR_any (textI m) (textI c) (le_of_fits f3) (le_of_fits f4) W
      have cc := fun W => cmpR_any (textI (n / d)) (textI (m / c)) (le_of_fits (quot_fit f1)) (le_of_fits (quot_fit f3)) W
      rw [q1, q2, q3] at ca
      rw [r1, r2, r3] at cb
      rw [cmp_texts (quot_fit f1) (quot_fit f3)] at cc
      have hn0 := text_is0 (n % d)
      have ht0 := text_is0 (m % c)
      have hw := cmp_whole hinv.out
      have he := cmp_end hinv.out
      have hx := cmp_next hinv.out
      have hdn := (valid_text f2).2
      have cz := fun W => zeroOr_any (n % d) W
      have cy := fun W => zeroOr_any (m % c) W
      have ck := fun W => cmpR_any (textI (zOr (n % d))) (textI (zOr (m % c))) (le_of_fits (zOr_fits _)) (le_of_fits (zOr_fits _)) W
      rw [cmp_texts (zOr_fits _) (zOr_fits _)] at ck
      have hrn := (valid_text (rem_fits (x := n) f2 pd)).2
      clear q1 q2 q3 r1 r2 r3 f1 f2 f3 f4 pd pc hinv
      generalize n / d = Q1 at *
      generalize m / c = Q2 at *
      have HDN := Lib.hid hdn; have HRN := Lib.hid hrn
      clear hdn hrn
      have CA := Lib.hid ca; have CB := Lib.hid cb; have CC := Lib.hid cc; have CZ := Lib.hid cz; have CY := Lib.hid cy; have CK := Lib.hid ck; have HX := Lib.hid hx
      clear ca cb cc cz cy ck hx
      rcases sgZ_cases Q1 Q2 with ⟨hz, hl⟩ | ⟨hz, hl⟩ | ⟨hz, hl⟩
      · have hr := hw (by omega)
        rw [hz] at hr CC
        have HRR := Lib.hid hr
        clear hr hw he hz hl hn0 ht0
        rcases hs with rfl | rfl
        · go_wp2_with fail
          refine (CA.out _).mono ?_
          rintro e wa ⟨rfl, ba⟩
          go_wp2_with fail
          refine (CB.out _).mono ?_
          rintro e wb ⟨rfl, bb⟩
          go_wp2_with fail
          refine (CC.out _).mono ?_
          rintro e wc ⟨rfl, bc⟩
          have HB := Lib.hid (below_up hbr.out (below_up ba (below_up bb bc)))
          clear ba bb bc
          go_wp2_with fail
          go_ret
          exact ⟨by rw [← HRR.out]; rfl, below_up B0.out HB.out⟩
        · go_wp2_with fail
          refine (CA.out _).mono ?_
          rintro e wa ⟨rfl, ba⟩
          go_wp2_with fail
          refine (CB.out _).mono ?_
          rintro e wb ⟨rfl, bb⟩
          go_wp2_with fail
          refine (CC.out _).mono ?_
          rintro e wc ⟨rfl, bc⟩
          have HB := Lib.hid (below_up hbr.out (below_up ba (below_up bb bc)))
          clear ba bb bc
          go_wp2_with fail
          go_ret
          exact ⟨by rw [← HRR.out]; rfl, below_up B0.out HB.out⟩
      · rw [hz] at CC
        replace he := he hl
        have HX2 := Lib.hid (HX.out hl)
        clear hw hz HX
        subst hl
        by_cases hr0 : n % d = 0
        · rw [decide_eq_true hr0] at hn0
          replace he := he (.inl hr0)
          clear hr0 ht0
          rcases hs with rfl | rfl
          · rcases sgZ_cases (zOr (n % d)) (zOr (m % c)) with ⟨hk, hkl⟩ | ⟨hk, hkl⟩ | ⟨hk, hkl⟩
            · rw [hk] at CK he
              have HRR := Lib.hid he
              clear he hk hkl HX2
              go_wp2_with fail
              refine (CA.out _).mono ?_
              rintro e wa ⟨rfl, ba⟩
              go_wp2_with fail
              refine (CB.out _).mono ?_
              rintro e wb ⟨rfl, bb⟩
              go_wp2_with fail
              refine (CC.out _).mono ?_
              rintro e wc ⟨rfl, bc⟩
              have HB := Lib.hid (below_up hbr.out (below_up ba (below_up bb bc)))
              clear ba bb bc
              go_wp2_with fail
              refine (CZ.out _).mono ?_
              rintro e wd ⟨rfl, rfl⟩
              go_wp2_with fail
              refine (CY.out _).mono ?_
              rintro e we ⟨rfl, rfl⟩
              go_wp2_with fail
              refine (CK.out _).mono ?_
              rintro e wf ⟨rfl, bf⟩
              have HB2 := Lib.hid (below_up HB.out bf)
              clear bf
              go_wp2_with fail
              go_ret
              exact ⟨by rw [← HRR.out]; rfl, below_up B0.out HB2.out⟩
            · rw [hk] at CK he
              have HRR := Lib.hid he
              clear he hk hkl HX2
              go_wp2_with fail
              refine (CA.out _).mono ?_
              rintro e wa ⟨rfl, ba⟩
              go_wp2_with fail
              refine (CB.out _).mono ?_
              rintro e wb ⟨rfl, bb⟩
              go_wp2_with fail
              refine (CC.out _).mono ?_
              rintro e wc ⟨rfl, bc⟩
              have HB := Lib.hid (below_up hbr.out (below_up ba (below_up bb bc)))
              clear ba bb bc
              go_wp2_with fail
              refine (CZ.out _).mono ?_
              rintro e wd ⟨rfl, rfl⟩
              go_wp2_with fail
              refine (CY.out _).mono ?_
              rintro e we ⟨rfl, rfl⟩
              go_wp2_with fail
              refine (CK.out _).mono ?_
              rintro e wf ⟨rfl, bf⟩
              have HB2 := Lib.hid (below_up HB.out bf)
              clear bf
              go_wp2_with fail
              go_ret
              exact ⟨by rw [← HRR.out]; rfl, below_up B0.out HB2.out⟩
            · rw [hk] at CK he
              have HRR := Lib.hid he
              clear he hk hkl HX2
              go_wp2_with fail
              refine (CA.out _).mono ?_
              rintro e wa ⟨rfl, ba⟩
              go_wp2_with fail
              refine (CB.out _).mono ?_
              rintro e wb ⟨rfl, bb⟩
              go_wp2_with fail
              refine (CC.out _).mono ?_
              rintro e wc ⟨rfl, bc⟩
              have HB := Lib.hid (below_up hbr.out (below_up ba (below_up bb bc)))
              clear ba bb bc
              go_wp2_with fail
              refine (CZ.out _).mono ?_
              rintro e wd ⟨rfl, rfl⟩
              go_wp2_with fail
              refine (CY.out _).mono ?_
              rintro e we ⟨rfl, rfl⟩
              go_wp2_with fail
              refine (CK.out _).mono ?_
              rintro e wf ⟨rfl, bf⟩
              have HB2 := Lib.hid (below_up HB.out bf)
              clear bf
              go_wp2_with fail
              go_ret
              exact ⟨by rw [← HRR.out]; rfl, below_up B0.out HB2.out⟩
          · rcases sgZ_cases (zOr (n % d)) (zOr (m % c)) with ⟨hk, hkl⟩ | ⟨hk, hkl⟩ | ⟨hk, hkl⟩
            · rw [hk] at CK he
              have HRR := Lib.hid he
              clear he hk hkl HX2
              go_wp2_with fail
              refine (CA.out _).mono ?_
              rintro e wa ⟨rfl, ba⟩
              go_wp2_with fail
              refine (CB.out _).mono ?_
              rintro e wb ⟨rfl, bb⟩
              go_wp2_with fail
              refine (CC.out _).mono ?_
              rintro e wc ⟨rfl, bc⟩
              have HB := Lib.hid (below_up hbr.out (below_up ba (below_up bb bc)))
              clear ba bb bc
              go_wp2_with fail
              refine (CZ.out _).mono ?_
              rintro e wd ⟨rfl, rfl⟩
              go_wp2_with fail
              refine (CY.out _).mono ?_
              rintro e we ⟨rfl, rfl⟩
              go_wp2_with fail
              refine (CK.out _).mono ?_
              rintro e wf ⟨rfl, bf⟩
              have HB2 := Lib.hid (below_up HB.out bf)
              clear bf
              go_wp2_with fail
              go_ret
              exact ⟨by rw [← HRR.out]; rfl, below_up B0.out HB2.out⟩
            · rw [hk] at CK he
              have HRR := Lib.hid he
              clear he hk hkl HX2
              go_wp2_with fail
              refine (CA.out _).mono ?_
              rintro e wa ⟨rfl, ba⟩
              go_wp2_with fail
              refine (CB.out _).mono ?_
              rintro e wb ⟨rfl, bb⟩
              go_wp2_with fail
              refine (CC.out _).mono ?_
              rintro e wc ⟨rfl, bc⟩
              have HB := Lib.hid (below_up hbr.out (below_up ba (below_up bb bc)))
              clear ba bb bc
              go_wp2_with fail
              refine (CZ.out _).mono ?_
              rintro e wd ⟨rfl, rfl⟩
              go_wp2_with fail
              refine (CY.out _).mono ?_
              rintro e we ⟨rfl, rfl⟩
              go_wp2_with fail
              refine (CK.out _).mono ?_
              rintro e wf ⟨rfl, bf⟩
              have HB2 := Lib.hid (below_up HB.out bf)
              clear bf
              go_wp2_with fail
              go_ret
              exact ⟨by rw [← HRR.out]; rfl, below_up B0.out HB2.out⟩
            · rw [hk] at CK he
              have HRR := Lib.hid he
              clear he hk hkl HX2
              go_wp2_with fail
              refine (CA.out _).mono ?_
              rintro e wa ⟨rfl, ba⟩
              go_wp2_with fail
              refine (CB.out _).mono ?_
              rintro e wb ⟨rfl, bb⟩
              go_wp2_with fail
              refine (CC.out _).mono ?_
              rintro e wc ⟨rfl, bc⟩
              have HB := Lib.hid (below_up hbr.out (below_up ba (below_up bb bc)))
              clear ba bb bc
              go_wp2_with fail
              refine (CZ.out _).mono ?_
              rintro e wd ⟨rfl, rfl⟩
              go_wp2_with fail
              refine (CY.out _).mono ?_
              rintro e we ⟨rfl, rfl⟩
              go_wp2_with fail
              refine (CK.out _).mono ?_
              rintro e wf ⟨rfl, bf⟩
              have HB2 := Lib.hid (below_up HB.out bf)
              clear bf
              go_wp2_with fail
              go_ret
              exact ⟨by rw [← HRR.out]; rfl, below_up B0.out HB2.out⟩
        · rw [decide_eq_false hr0] at hn0
          by_cases ht1 : m % c = 0
          · rw [decide_eq_true ht1] at ht0
            replace he := he (.inr ht1)
            clear hr0 ht1
            rcases hs with rfl | rfl
            · rcases sgZ_cases (zOr (n % d)) (zOr (m % c)) with ⟨hk, hkl⟩ | ⟨hk, hkl⟩ | ⟨hk, hkl⟩
              · rw [hk] at CK he
                have HRR := Lib.hid he
                clear he hk hkl HX2
                go_wp2_with fail
                refine (CA.out _).mono ?_
                rintro e wa ⟨rfl, ba⟩
                go_wp2_with fail
                refine (CB.out _).mono ?_
                rintro e wb ⟨rfl, bb⟩
                go_wp2_with fail
                refine (CC.out _).mono ?_
                rintro e wc ⟨rfl, bc⟩
                have HB := Lib.hid (below_up hbr.out (below_up ba (below_up bb bc)))
                clear ba bb bc
                go_wp2_with fail
                refine (CZ.out _).mono ?_
                rintro e wd ⟨rfl, rfl⟩
                go_wp2_with fail
                refine (CY.out _).mono ?_
                rintro e we ⟨rfl, rfl⟩
                go_wp2_with fail
                refine (CK.out _).mono ?_
                rintro e wf ⟨rfl, bf⟩
                have HB2 := Lib.hid (below_up HB.out bf)
                clear bf
                go_wp2_with fail
                go_ret
                exact ⟨by rw [← HRR.out]; rfl, below_up B0.out HB2.out⟩
              · rw [hk] at CK he
                have HRR := Lib.hid he
                clear he hk hkl HX2
                go_wp2_with fail
                refine (CA.out _).mono ?_
                rintro e wa ⟨rfl, ba⟩
                go_wp2_with fail
                refine (CB.out _).mono ?_
                rintro e wb ⟨rfl, bb⟩
                go_wp2_with fail
                refine (CC.out _).mono ?_
                rintro e wc ⟨rfl, bc⟩
                have HB := Lib.hid (below_up hbr.out (below_up ba (below_up bb bc)))
                clear ba bb bc
                go_wp2_with fail
                refine (CZ.out _).mono ?_
                rintro e wd ⟨rfl, rfl⟩
                go_wp2_with fail
                refine (CY.out _).mono ?_
                rintro e we ⟨rfl, rfl⟩
                go_wp2_with fail
                refine (CK.out _).mono ?_
                rintro e wf ⟨rfl, bf⟩
                have HB2 := Lib.hid (below_up HB.out bf)
                clear bf
                go_wp2_with fail
                go_ret
                exact ⟨by rw [← HRR.out]; rfl, below_up B0.out HB2.out⟩
              · rw [hk] at CK he
                have HRR := Lib.hid he
                clear he hk hkl HX2
                go_wp2_with fail
                refine (CA.out _).mono ?_
                rintro e wa ⟨rfl, ba⟩
                go_wp2_with fail
                refine (CB.out _).mono ?_
                rintro e wb ⟨rfl, bb⟩
                go_wp2_with fail
                refine (CC.out _).mono ?_
                rintro e wc ⟨rfl, bc⟩
                have HB := Lib.hid (below_up hbr.out (below_up ba (below_up bb bc)))
                clear ba bb bc
                go_wp2_with fail
                refine (CZ.out _).mono ?_
                rintro e wd ⟨rfl, rfl⟩
                go_wp2_with fail
                refine (CY.out _).mono ?_
                rintro e we ⟨rfl, rfl⟩
                go_wp2_with fail
                refine (CK.out _).mono ?_
                rintro e wf ⟨rfl, bf⟩
                have HB2 := Lib.hid (below_up HB.out bf)
                clear bf
                go_wp2_with fail
                go_ret
                exact ⟨by rw [← HRR.out]; rfl, below_up B0.out HB2.out⟩
            · rcases sgZ_cases (zOr (n % d)) (zOr (m % c)) with ⟨hk, hkl⟩ | ⟨hk, hkl⟩ | ⟨hk, hkl⟩
              · rw [hk] at CK he
                have HRR := Lib.hid he
                clear he hk hkl HX2
                go_wp2_with fail
                refine (CA.out _).mono ?_
                rintro e wa ⟨rfl, ba⟩
                go_wp2_with fail
                refine (CB.out _).mono ?_
                rintro e wb ⟨rfl, bb⟩
                go_wp2_with fail
                refine (CC.out _).mono ?_
                rintro e wc ⟨rfl, bc⟩
                have HB := Lib.hid (below_up hbr.out (below_up ba (below_up bb bc)))
                clear ba bb bc
                go_wp2_with fail
                refine (CZ.out _).mono ?_
                rintro e wd ⟨rfl, rfl⟩
                go_wp2_with fail
                refine (CY.out _).mono ?_
                rintro e we ⟨rfl, rfl⟩
                go_wp2_with fail
                refine (CK.out _).mono ?_
                rintro e wf ⟨rfl, bf⟩
                have HB2 := Lib.hid (below_up HB.out bf)
                clear bf
                go_wp2_with fail
                go_ret
                exact ⟨by rw [← HRR.out]; rfl, below_up B0.out HB2.out⟩
              · rw [hk] at CK he
                have HRR := Lib.hid he
                clear he hk hkl HX2
                go_wp2_with fail
                refine (CA.out _).mono ?_
                rintro e wa ⟨rfl, ba⟩
                go_wp2_with fail
                refine (CB.out _).mono ?_
                rintro e wb ⟨rfl, bb⟩
                go_wp2_with fail
                refine (CC.out _).mono ?_
                rintro e wc ⟨rfl, bc⟩
                have HB := Lib.hid (below_up hbr.out (below_up ba (below_up bb bc)))
                clear ba bb bc
                go_wp2_with fail
                refine (CZ.out _).mono ?_
                rintro e wd ⟨rfl, rfl⟩
                go_wp2_with fail
                refine (CY.out _).mono ?_
                rintro e we ⟨rfl, rfl⟩
                go_wp2_with fail
                refine (CK.out _).mono ?_
                rintro e wf ⟨rfl, bf⟩
                have HB2 := Lib.hid (below_up HB.out bf)
                clear bf
                go_wp2_with fail
                go_ret
                exact ⟨by rw [← HRR.out]; rfl, below_up B0.out HB2.out⟩
              · rw [hk] at CK he
                have HRR := Lib.hid he
                clear he hk hkl HX2
                go_wp2_with fail
                refine (CA.out _).mono ?_
                rintro e wa ⟨rfl, ba⟩
                go_wp2_with fail
                refine (CB.out _).mono ?_
                rintro e wb ⟨rfl, bb⟩
                go_wp2_with fail
                refine (CC.out _).mono ?_
                rintro e wc ⟨rfl, bc⟩
                have HB := Lib.hid (below_up hbr.out (below_up ba (below_up bb bc)))
                clear ba bb bc
                go_wp2_with fail
                refine (CZ.out _).mono ?_
                rintro e wd ⟨rfl, rfl⟩
                go_wp2_with fail
                refine (CY.out _).mono ?_
                rintro e we ⟨rfl, rfl⟩
                go_wp2_with fail
                refine (CK.out _).mono ?_
                rintro e wf ⟨rfl, bf⟩
                have HB2 := Lib.hid (below_up HB.out bf)
                clear bf
                go_wp2_with fail
                go_ret
                exact ⟨by rw [← HRR.out]; rfl, below_up B0.out HB2.out⟩
          · rw [decide_eq_false ht1] at ht0
            have hx := HX2.out hr0 ht1
            have HXX := Lib.hid hx
            clear he hr0 ht1 HX2 hx CZ CY CK
            rcases hs with rfl | rfl
            · go_wp2_with fail
              refine (CA.out _).mono ?_
              rintro e wa ⟨rfl, ba⟩
              go_wp2_with fail
              refine (CB.out _).mono ?_
              rintro e wb ⟨rfl, bb⟩
              go_wp2_with fail
              refine (CC.out _).mono ?_
              rintro e wc ⟨rfl, bc⟩
              have HB := Lib.hid (below_up hbr.out (below_up ba (below_up bb bc)))
              clear ba bb bc
              go_wp2_with fail
              go_roundw
              case rel => exact ⟨d, n % d, c, m % c, -1, rfl, rfl, rfl, rfl, rfl, HXX.out.1, HB.out⟩
              case measure =>
                show (numB (textI (n % d))).natAbs < (numB (textI d)).natAbs
                rw [HDN.out, HRN.out]
                exact HXX.out.2
            · go_wp2_with fail
              refine (CA.out _).mono ?_
              rintro e wa ⟨rfl, ba⟩
              go_wp2_with fail
              refine (CB.out _).mono ?_
              rintro e wb ⟨rfl, bb⟩
              go_wp2_with fail
              refine (CC.out _).mono ?_
              rintro e wc ⟨rfl, bc⟩
              have HB := Lib.hid (below_up hbr.out (below_up ba (below_up bb bc)))
              clear ba bb bc
              go_wp2_with fail
              go_roundw
              case rel => exact ⟨d, n % d, c, m % c, 1, rfl, rfl, rfl, rfl, rfl, HXX.out.1, HB.out⟩
              case measure =>
                show (numB (textI (n % d))).natAbs < (numB (textI d)).natAbs
                rw [HDN.out, HRN.out]
                exact HXX.out.2
      · have hr := hw (by omega)
        rw [hz] at hr CC
        have HRR := Lib.hid hr
        clear hr hw he hz hl hn0 ht0
        rcases hs with rfl | rfl
        · go_wp2_with fail
          refine (CA.out _).mono ?_
          rintro e wa ⟨rfl, ba⟩
          go_wp2_with fail
          refine (CB.out _).mono ?_
          rintro e wb ⟨rfl, bb⟩
          go_wp2_with fail
          refine (CC.out _).mono ?_
          rintro e wc ⟨rfl, bc⟩
          have HB := Lib.hid (below_up hbr.out (below_up ba (below_up bb bc)))
          clear ba bb bc
          go_wp2_with fail
          go_ret
          exact ⟨by rw [← HRR.out]; rfl, below_up B0.out HB.out⟩
        · go_wp2_with fail
          refine (CA.out _).mono ?_
          rintro e wa ⟨rfl, ba⟩
          go_wp2_with fail
          refine (CB.out _).mono ?_
          rintro e wb ⟨rfl, bb⟩
          go_wp2_with fail
          refine (CC.out _).mono ?_
          rintro e wc ⟨rfl, bc⟩
          have HB := Lib.hid (below_up hbr.out (below_up ba (below_up bb bc)))
          clear ba bb bc
          go_wp2_with fail
          go_ret
          exact ⟨by rw [← HRR.out]; rfl, below_up B0.out HB.out⟩
end Go.Proofs.YtlcibnmcannapaaGreatDoor
