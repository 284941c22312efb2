/-
  The contracts of the reference's sums, differences, products and quotients of fractions.
-/
import Derived.Test.YtlcibnmcannapaaGreatDoorMakeQ
namespace Go.Proofs.YtlcibnmcannapaaGreatDoor
open Go Go.Proofs Go.RowKit Go.Lib

theorem res_yes {x : Int} (h : fitB x = true) : resT x = textI x ∧ resZ x = 0 := by
  have h' : x.natAbs < 10 ^ 200 := (fitB_iff x).1 h
  unfold resT resZ
  rw [if_pos h', if_pos h']
  exact ⟨rfl, rfl⟩
theorem res_no {x : Int} (h : fitB x = false) : resT x = ByteArray.empty ∧ resZ x = 30 := by
  have h' : ¬ x.natAbs < 10 ^ 200 := fun h2 => by rw [(fitB_iff x).2 h2] at h; cases h
  unfold resT resZ
  rw [if_neg h', if_neg h']
  exact ⟨rfl, rfl⟩
theorem op_valid (f : Int → Int → Int) {s t : ByteArray} (h1 : validB s = true) (h2 : validB t = true) : opT f s t = resT (f (numB s) (numB t)) ∧ opZ f s t = resZ (f (numB s) (numB t)) := by
  unfold opT opZ
  rw [h1, h2]
  exact ⟨rfl, rfl⟩
theorem op_texts (f : Int → Int → Int) {x y : Int} (h1 : Fits x) (h2 : Fits y) : opT f (textI x) (textI y) = resT (f x y) ∧ opZ f (textI x) (textI y) = resZ (f x y) := by
  have := op_valid f (valid_text h1).1 (valid_text h2).1
  rw [(valid_text h1).2, (valid_text h2).2] at this
  exact this
theorem make_texts {n d : Int} (hn : Fits n) (hd : Fits d) (h0 : d ≠ 0) : makeB (textI n) (textI d) = true ∧ valQ (textI n) (textI d) = Rat.divInt n d := by
  unfold makeB valQ
  rw [(valid_text hn).1, (valid_text hd).1, (valid_text hn).2, (valid_text hd).2, decide_eq_true h0]
  exact ⟨rfl, rfl⟩
theorem resT_size (x : Int) : (resT x).size ≤ 1099511627776 := by
  unfold resT
  split
  · rename_i h; exact le_of_fits h
  · show (0 : Nat) ≤ _; omega

set_option maxRecDepth 100000 in
set_option maxHeartbeats 4000000 in
theorem crossR_bad (an ad bn bd : ByteArray) (h1 : an.size ≤ 1099511627776) (h2 : ad.size ≤ 1099511627776) (h3 : bn.size ≤ 1099511627776) (h4 : bd.size ≤ 1099511627776) (hv : bothB an ad bn bd = false) (w : World) :
    Calls Tryz.prog 47 #[.agg #[.string an, .string ad], .agg #[.string bn, .string bd]] w fun e w' => e = .returned (.tuple #[.string ⟨#[]⟩, .string ⟨#[]⟩, .string ⟨#[]⟩, .bool false]) ∧ Below w.heap.size w w' := by
  obtain ⟨W0, hW0, b0, hcc⟩ := box_two w an ad bn bd
  have HW := Lib.hid hW0; have HC := Lib.hid hcc; have B0 := Lib.hid b0
  have P0 := Lib.hid (Below.refl W0.heap.size W0)
  clear hW0 hcc b0
  have va := fun W => validR4_any an ad h1 h2 W
  have vb := fun W => validR4_any bn bd h3 h4 W
  unfold bothB at hv
  cases e1 : validQ an ad with
  | false =>
    rw [e1] at va
    have VA := Lib.hid va; have VB := Lib.hid vb
    clear va vb e1 hv
    go_enter Tryz.func47, Tryz.ntmps47
    obtain ⟨⟨ca0, cb0, cc0, cd0⟩, ⟨ce0, cf0, cg0, ch0⟩⟩ := HC.out _ (Below.refl _ _)
    go_wp2_with (rw [HW.out])
    refine (VA.out _).mono ?_
    rintro e w1 ⟨rfl, b1⟩
    have P1 := Lib.hid (below_up P0.out b1)
    obtain ⟨⟨ca1, cb1, cc1, cd1⟩, ⟨ce1, cf1, cg1, ch1⟩⟩ := HC.out _ P1.out
    clear b1 P0 ca0 cb0 cc0 cd0 ce0 cf0 cg0 ch0 
    go_wp2_with fail
    refine (VB.out _).mono ?_
    rintro e w2 ⟨rfl, b2⟩
    have P2 := Lib.hid (below_up P1.out b2)
    obtain ⟨⟨ca2, cb2, cc2, cd2⟩, ⟨ce2, cf2, cg2, ch2⟩⟩ := HC.out _ P2.out
    clear b2 P1 ca1 cb1 cc1 cd1 ce1 cf1 cg1 ch1 
    go_wp2_with fail
    exact bodyPost_ret (v := .tuple #[.string ⟨#[]⟩, .string ⟨#[]⟩, .string ⟨#[]⟩, .bool false]) (by simp [results, Tryz.results47, go_sem]) rfl ⟨rfl, below_up B0.out P2.out⟩
  | true =>
    rw [e1, Bool.true_and] at hv
    rw [e1] at va
    rw [hv] at vb
    have VA := Lib.hid va; have VB := Lib.hid vb
    clear va vb e1 hv
    go_enter Tryz.func47, Tryz.ntmps47
    obtain ⟨⟨ca0, cb0, cc0, cd0⟩, ⟨ce0, cf0, cg0, ch0⟩⟩ := HC.out _ (Below.refl _ _)
    go_wp2_with (rw [HW.out])
    refine (VA.out _).mono ?_
    rintro e w1 ⟨rfl, b1⟩
    have P1 := Lib.hid (below_up P0.out b1)
    obtain ⟨⟨ca1, cb1, cc1, cd1⟩, ⟨ce1, cf1, cg1, ch1⟩⟩ := HC.out _ P1.out
    clear b1 P0 ca0 cb0 cc0 cd0 ce0 cf0 cg0 ch0 
    go_wp2_with fail
    refine (VB.out _).mono ?_
    rintro e w2 ⟨rfl, b2⟩
    have P2 := Lib.hid (below_up P1.out b2)
    obtain ⟨⟨ca2, cb2, cc2, cd2⟩, ⟨ce2, cf2, cg2, ch2⟩⟩ := HC.out _ P2.out
    clear b2 P1 ca1 cb1 cc1 cd1 ce1 cf1 cg1 ch1 
    go_wp2_with fail
    exact bodyPost_ret (v := .tuple #[.string ⟨#[]⟩, .string ⟨#[]⟩, .string ⟨#[]⟩, .bool false]) (by simp [results, Tryz.results47, go_sem]) rfl ⟨rfl, below_up B0.out P2.out⟩
set_option maxRecDepth 100000 in
set_option maxHeartbeats 4000000 in
theorem crossR_good (an ad bn bd : ByteArray) (h1 : an.size ≤ 1099511627776) (h2 : ad.size ≤ 1099511627776) (h3 : bn.size ≤ 1099511627776) (h4 : bd.size ≤ 1099511627776) (hv : bothB an ad bn bd = true) (w : World) :
    Calls Tryz.prog 47 #[.agg #[.string an, .string ad], .agg #[.string bn, .string bd]] w fun e w' => e = .returned (.tuple #[.string (resT (numB an * numB bd)), .string (resT (numB bn * numB ad)), .string (resT (numB ad * numB bd)), .bool (fitB (numB an * numB bd) && (fitB (numB bn * numB ad) && fitB (numB ad * numB bd)))]) ∧ Below w.heap.size w w' := by
  obtain ⟨W0, hW0, b0, hcc⟩ := box_two w an ad bn bd
  have HW := Lib.hid hW0; have HC := Lib.hid hcc; have B0 := Lib.hid b0
  have P0 := Lib.hid (Below.refl W0.heap.size W0)
  clear hW0 hcc b0
  have va := fun W => validR4_any an ad h1 h2 W
  have vb := fun W => validR4_any bn bd h3 h4 W
  obtain ⟨v1, v2⟩ := both_parts hv
  obtain ⟨u1, u2, _, _⟩ := validQ_parts v1
  obtain ⟨u3, u4, _, _⟩ := validQ_parts v2
  rw [v1] at va
  rw [v2] at vb
  have c1 := fun W => mulR_any an bd h1 h4 W
  have c2 := fun W => mulR_any bn ad h3 h2 W
  have c3 := fun W => mulR_any ad bd h2 h4 W
  rw [(op_valid _ u1 u4).1, (op_valid _ u1 u4).2] at c1
  rw [(op_valid _ u3 u2).1, (op_valid _ u3 u2).2] at c2
  rw [(op_valid _ u2 u4).1, (op_valid _ u2 u4).2] at c3
  obtain ⟨p, hp⟩ : ∃ x, numB an * numB bd = x := ⟨_, rfl⟩
  obtain ⟨q, hq⟩ : ∃ x, numB bn * numB ad = x := ⟨_, rfl⟩
  obtain ⟨r, hr⟩ : ∃ x, numB ad * numB bd = x := ⟨_, rfl⟩
  rw [hp] at c1 ⊢
  rw [hq] at c2 ⊢
  rw [hr] at c3 ⊢
  clear hp hq hr u1 u2 u3 u4 v1 v2 hv
  obtain ⟨T1, hT1⟩ : ∃ x, resT p = x := ⟨_, rfl⟩
  obtain ⟨T2, hT2⟩ : ∃ x, resT q = x := ⟨_, rfl⟩
  obtain ⟨T3, hT3⟩ : ∃ x, resT r = x := ⟨_, rfl⟩
  rw [hT1] at c1 ⊢
  rw [hT2] at c2 ⊢
  rw [hT3] at c3 ⊢
  clear hT1 hT2 hT3
  have VA := Lib.hid va; have VB := Lib.hid vb
  clear va vb
  cases f1 : fitB p with
  | false =>
    rw [(res_no f1).2] at c1
    generalize resZ q = z2 at *
    generalize resZ r = z3 at *
    rw [Bool.false_and]
    clear f1
    have C1 := Lib.hid c1; have C2 := Lib.hid c2; have C3 := Lib.hid c3
    clear c1 c2 c3
    go_enter Tryz.func47, Tryz.ntmps47
    obtain ⟨⟨ca0, cb0, cc0, cd0⟩, ⟨ce0, cf0, cg0, ch0⟩⟩ := HC.out _ (Below.refl _ _)
    go_wp2_with (rw [HW.out])
    refine (VA.out _).mono ?_
    rintro e w1 ⟨rfl, b1⟩
    have P1 := Lib.hid (below_up P0.out b1)
    obtain ⟨⟨ca1, cb1, cc1, cd1⟩, ⟨ce1, cf1, cg1, ch1⟩⟩ := HC.out _ P1.out
    clear b1 P0 ca0 cb0 cc0 cd0 ce0 cf0 cg0 ch0 
    go_wp2_with fail
    refine (VB.out _).mono ?_
    rintro e w2 ⟨rfl, b2⟩
    have P2 := Lib.hid (below_up P1.out b2)
    obtain ⟨⟨ca2, cb2, cc2, cd2⟩, ⟨ce2, cf2, cg2, ch2⟩⟩ := HC.out _ P2.out
    clear b2 P1 ca1 cb1 cc1 cd1 ce1 cf1 cg1 ch1 
    go_wp2_with fail
    refine (C1.out _).mono ?_
    rintro e w3 ⟨rfl, b3⟩
    have P3 := Lib.hid (below_up P2.out b3)
    obtain ⟨⟨ca3, cb3, cc3, cd3⟩, ⟨ce3, cf3, cg3, ch3⟩⟩ := HC.out _ P3.out
    clear b3 P2 ca2 cb2 cc2 cd2 ce2 cf2 cg2 ch2 
    go_wp2_with fail
    refine (C2.out _).mono ?_
    rintro e w4 ⟨rfl, b4⟩
    have P4 := Lib.hid (below_up P3.out b4)
    obtain ⟨⟨ca4, cb4, cc4, cd4⟩, ⟨ce4, cf4, cg4, ch4⟩⟩ := HC.out _ P4.out
    clear b4 P3 ca3 cb3 cc3 cd3 ce3 cf3 cg3 ch3 
    go_wp2_with fail
    refine (C3.out _).mono ?_
    rintro e w5 ⟨rfl, b5⟩
    have P5 := Lib.hid (below_up P4.out b5)
    obtain ⟨⟨ca5, cb5, cc5, cd5⟩, ⟨ce5, cf5, cg5, ch5⟩⟩ := HC.out _ P5.out
    clear b5 P4 ca4 cb4 cc4 cd4 ce4 cf4 cg4 ch4 
    go_wp2_with fail
    exact bodyPost_ret (v := .tuple #[.string T1, .string T2, .string T3, .bool false]) (by simp [results, Tryz.results47, go_sem]) rfl ⟨rfl, below_up B0.out P5.out⟩
  | true =>
    rw [(res_yes f1).2] at c1
    cases f2 : fitB q with
    | false =>
      rw [(res_no f2).2] at c2
      generalize resZ r = z3 at *
      rw [Bool.false_and, Bool.and_false]
      clear f1 f2
      have C1 := Lib.hid c1; have C2 := Lib.hid c2; have C3 := Lib.hid c3
      clear c1 c2 c3
      go_enter Tryz.func47, Tryz.ntmps47
      obtain ⟨⟨ca0, cb0, cc0, cd0⟩, ⟨ce0, cf0, cg0, ch0⟩⟩ := HC.out _ (Below.refl _ _)
      go_wp2_with (rw [HW.out])
      refine (VA.out _).mono ?_
      rintro e w1 ⟨rfl, b1⟩
      have P1 := Lib.hid (below_up P0.out b1)
      obtain ⟨⟨ca1, cb1, cc1, cd1⟩, ⟨ce1, cf1, cg1, ch1⟩⟩ := HC.out _ P1.out
      clear b1 P0 ca0 cb0 cc0 cd0 ce0 cf0 cg0 ch0 
      go_wp2_with fail
      refine (VB.out _).mono ?_
      rintro e w2 ⟨rfl, b2⟩
      have P2 := Lib.hid (below_up P1.out b2)
      obtain ⟨⟨ca2, cb2, cc2, cd2⟩, ⟨ce2, cf2, cg2, ch2⟩⟩ := HC.out _ P2.out
      clear b2 P1 ca1 cb1 cc1 cd1 ce1 cf1 cg1 ch1 
      go_wp2_with fail
      refine (C1.out _).mono ?_
      rintro e w3 ⟨rfl, b3⟩
      have P3 := Lib.hid (below_up P2.out b3)
      obtain ⟨⟨ca3, cb3, cc3, cd3⟩, ⟨ce3, cf3, cg3, ch3⟩⟩ := HC.out _ P3.out
      clear b3 P2 ca2 cb2 cc2 cd2 ce2 cf2 cg2 ch2 
      go_wp2_with fail
      refine (C2.out _).mono ?_
      rintro e w4 ⟨rfl, b4⟩
      have P4 := Lib.hid (below_up P3.out b4)
      obtain ⟨⟨ca4, cb4, cc4, cd4⟩, ⟨ce4, cf4, cg4, ch4⟩⟩ := HC.out _ P4.out
      clear b4 P3 ca3 cb3 cc3 cd3 ce3 cf3 cg3 ch3 
      go_wp2_with fail
      refine (C3.out _).mono ?_
      rintro e w5 ⟨rfl, b5⟩
      have P5 := Lib.hid (below_up P4.out b5)
      obtain ⟨⟨ca5, cb5, cc5, cd5⟩, ⟨ce5, cf5, cg5, ch5⟩⟩ := HC.out _ P5.out
      clear b5 P4 ca4 cb4 cc4 cd4 ce4 cf4 cg4 ch4 
      go_wp2_with fail
      exact bodyPost_ret (v := .tuple #[.string T1, .string T2, .string T3, .bool false]) (by simp [results, Tryz.results47, go_sem]) rfl ⟨rfl, below_up B0.out P5.out⟩
    | true =>
      rw [(res_yes f2).2] at c2
      cases f3 : fitB r with
      | false =>
        rw [(res_no f3).2] at c3
        clear f1 f2 f3
        have C1 := Lib.hid c1; have C2 := Lib.hid c2; have C3 := Lib.hid c3
        clear c1 c2 c3
        go_enter Tryz.func47, Tryz.ntmps47
        obtain ⟨⟨ca0, cb0, cc0, cd0⟩, ⟨ce0, cf0, cg0, ch0⟩⟩ := HC.out _ (Below.refl _ _)
        go_wp2_with (rw [HW.out])
        refine (VA.out _).mono ?_
        rintro e w1 ⟨rfl, b1⟩
        have P1 := Lib.hid (below_up P0.out b1)
        obtain ⟨⟨ca1, cb1, cc1, cd1⟩, ⟨ce1, cf1, cg1, ch1⟩⟩ := HC.out _ P1.out
        clear b1 P0 ca0 cb0 cc0 cd0 ce0 cf0 cg0 ch0 
        go_wp2_with fail
        refine (VB.out _).mono ?_
        rintro e w2 ⟨rfl, b2⟩
        have P2 := Lib.hid (below_up P1.out b2)
        obtain ⟨⟨ca2, cb2, cc2, cd2⟩, ⟨ce2, cf2, cg2, ch2⟩⟩ := HC.out _ P2.out
        clear b2 P1 ca1 cb1 cc1 cd1 ce1 cf1 cg1 ch1 
        go_wp2_with fail
        refine (C1.out _).mono ?_
        rintro e w3 ⟨rfl, b3⟩
        have P3 := Lib.hid (below_up P2.out b3)
        obtain ⟨⟨ca3, cb3, cc3, cd3⟩, ⟨ce3, cf3, cg3, ch3⟩⟩ := HC.out _ P3.out
        clear b3 P2 ca2 cb2 cc2 cd2 ce2 cf2 cg2 ch2 
        go_wp2_with fail
        refine (C2.out _).mono ?_
        rintro e w4 ⟨rfl, b4⟩
        have P4 := Lib.hid (below_up P3.out b4)
        obtain ⟨⟨ca4, cb4, cc4, cd4⟩, ⟨ce4, cf4, cg4, ch4⟩⟩ := HC.out _ P4.out
        clear b4 P3 ca3 cb3 cc3 cd3 ce3 cf3 cg3 ch3 
        go_wp2_with fail
        refine (C3.out _).mono ?_
        rintro e w5 ⟨rfl, b5⟩
        have P5 := Lib.hid (below_up P4.out b5)
        obtain ⟨⟨ca5, cb5, cc5, cd5⟩, ⟨ce5, cf5, cg5, ch5⟩⟩ := HC.out _ P5.out
        clear b5 P4 ca4 cb4 cc4 cd4 ce4 cf4 cg4 ch4 
        go_wp2_with fail
        exact bodyPost_ret (v := .tuple #[.string T1, .string T2, .string T3, .bool false]) (by simp [results, Tryz.results47, go_sem]) rfl ⟨rfl, below_up B0.out P5.out⟩
      | true =>
        rw [(res_yes f3).2] at c3
        clear f1 f2 f3
        have C1 := Lib.hid c1; have C2 := Lib.hid c2; have C3 := Lib.hid c3
        clear c1 c2 c3
        go_enter Tryz.func47, Tryz.ntmps47
        obtain ⟨⟨ca0, cb0, cc0, cd0⟩, ⟨ce0, cf0, cg0, ch0⟩⟩ := HC.out _ (Below.refl _ _)
        go_wp2_with (rw [HW.out])
        refine (VA.out _).mono ?_
        rintro e w1 ⟨rfl, b1⟩
        have P1 := Lib.hid (below_up P0.out b1)
        obtain ⟨⟨ca1, cb1, cc1, cd1⟩, ⟨ce1, cf1, cg1, ch1⟩⟩ := HC.out _ P1.out
        clear b1 P0 ca0 cb0 cc0 cd0 ce0 cf0 cg0 ch0 
        go_wp2_with fail
        refine (VB.out _).mono ?_
        rintro e w2 ⟨rfl, b2⟩
        have P2 := Lib.hid (below_up P1.out b2)
        obtain ⟨⟨ca2, cb2, cc2, cd2⟩, ⟨ce2, cf2, cg2, ch2⟩⟩ := HC.out _ P2.out
        clear b2 P1 ca1 cb1 cc1 cd1 ce1 cf1 cg1 ch1 
        go_wp2_with fail
        refine (C1.out _).mono ?_
        rintro e w3 ⟨rfl, b3⟩
        have P3 := Lib.hid (below_up P2.out b3)
        obtain ⟨⟨ca3, cb3, cc3, cd3⟩, ⟨ce3, cf3, cg3, ch3⟩⟩ := HC.out _ P3.out
        clear b3 P2 ca2 cb2 cc2 cd2 ce2 cf2 cg2 ch2 
        go_wp2_with fail
        refine (C2.out _).mono ?_
        rintro e w4 ⟨rfl, b4⟩
        have P4 := Lib.hid (below_up P3.out b4)
        obtain ⟨⟨ca4, cb4, cc4, cd4⟩, ⟨ce4, cf4, cg4, ch4⟩⟩ := HC.out _ P4.out
        clear b4 P3 ca3 cb3 cc3 cd3 ce3 cf3 cg3 ch3 
        go_wp2_with fail
        refine (C3.out _).mono ?_
        rintro e w5 ⟨rfl, b5⟩
        have P5 := Lib.hid (below_up P4.out b5)
        obtain ⟨⟨ca5, cb5, cc5, cd5⟩, ⟨ce5, cf5, cg5, ch5⟩⟩ := HC.out _ P5.out
        clear b5 P4 ca4 cb4 cc4 cd4 ce4 cf4 cg4 ch4 
        go_wp2_with fail
        exact bodyPost_ret (v := .tuple #[.string T1, .string T2, .string T3, .bool true]) (by simp [results, Tryz.results47, go_sem]) rfl ⟨rfl, below_up B0.out P5.out⟩
set_option maxRecDepth 100000 in
set_option maxHeartbeats 4000000 in
theorem addR4_any (an ad bn bd : ByteArray) (h1 : an.size ≤ 1099511627776) (h2 : ad.size ≤ 1099511627776) (h3 : bn.size ≤ 1099511627776) (h4 : bd.size ≤ 1099511627776) (w : World) :
    Calls Tryz.prog 16 #[.agg #[.string an, .string ad], .agg #[.string bn, .string bd]] w fun e w' => e = .returned (.tuple #[.agg #[.string (outN (addB an ad bn bd) (valQ an ad + valQ bn bd)), .string (outD (addB an ad bn bd) (valQ an ad + valQ bn bd))], .int .i64 (outE (addB an ad bn bd))]) ∧ Below w.heap.size w w' := by
  obtain ⟨W0, hW0, b0, hcc⟩ := box_three w an ad bn bd ⟨#[]⟩ ⟨#[]⟩
  have HW := Lib.hid hW0; have HC := Lib.hid hcc; have B0 := Lib.hid b0
  have P0 := Lib.hid (Below.refl W0.heap.size W0)
  clear hW0 hcc b0
  cases hv : bothB an ad bn bd with
  | false =>
    have hb : addB an ad bn bd = false := by unfold addB; rw [hv]; rfl
    rw [hb]
    have C := Lib.hid (fun W => crossR_bad an ad bn bd h1 h2 h3 h4 hv W)
    clear hv hb
    go_enter Tryz.func16, Tryz.ntmps16
    obtain ⟨⟨ca0, cb0, cc0, cd0⟩, ⟨ce0, cf0, cg0, ch0⟩, ⟨ci0, cj0, ck0, cl0⟩⟩ := HC.out _ (Below.refl _ _)
    go_wp2_with (rw [HW.out])
    refine (C.out _).mono ?_
    rintro e w1 ⟨rfl, b1⟩
    have P1 := Lib.hid (below_up P0.out b1)
    obtain ⟨⟨ca1, cb1, cc1, cd1⟩, ⟨ce1, cf1, cg1, ch1⟩, ⟨ci1, cj1, ck1, cl1⟩⟩ := HC.out _ P1.out
    clear b1 P0 ca0 cb0 cc0 cd0 ce0 cf0 cg0 ch0 ci0 cj0 ck0 cl0 
    go_wp2_with fail
    refine bodyPost_ret (v := .tuple #[.agg #[.string ⟨#[]⟩, .string ⟨#[]⟩], .int .i64 40]) (by simp [results, Tryz.results16, go_sem, ci1, cj1]) rfl ⟨rfl, rat_done B0.out (by omega) P1.out _ _⟩
  | true =>
    have cr := fun W => crossR_good an ad bn bd h1 h2 h3 h4 hv W
    have hval := add_val hv
    obtain ⟨v1, v2⟩ := both_parts hv
    have hr0 : numB ad * numB bd ≠ 0 := Int.mul_ne_zero (den_ne v1) (den_ne v2)
    have hb : addB an ad bn bd = ((fitB (numB an * numB bd) && (fitB (numB bn * numB ad) && fitB (numB ad * numB bd))) && fitB (numB an * numB bd + numB bn * numB ad)) := by unfold addB; rw [hv]; rfl
    rw [hb]
    obtain ⟨x, hx⟩ : ∃ x, valQ an ad + valQ bn bd = x := ⟨_, rfl⟩
    obtain ⟨p, hp⟩ : ∃ x, numB an * numB bd = x := ⟨_, rfl⟩
    obtain ⟨q, hq⟩ : ∃ x, numB bn * numB ad = x := ⟨_, rfl⟩
    obtain ⟨r, hr⟩ : ∃ x, numB ad * numB bd = x := ⟨_, rfl⟩
    rw [hx] at hval ⊢
    rw [hp, hq, hr] at cr hval
    rw [hr] at hr0
    rw [hp, hq, hr]
    clear hx hp hq hr hv v1 v2 hb
    obtain ⟨ok, hok⟩ : ∃ k, (fitB p && (fitB q && fitB r)) = k := ⟨_, rfl⟩
    rw [hok] at cr ⊢
    cases ok with
    | false =>
      rw [Bool.false_and]
      obtain ⟨T1, hT1⟩ : ∃ x, resT p = x := ⟨_, rfl⟩
      obtain ⟨T2, hT2⟩ : ∃ x, resT q = x := ⟨_, rfl⟩
      obtain ⟨T3, hT3⟩ : ∃ x, resT r = x := ⟨_, rfl⟩
      rw [hT1, hT2, hT3] at cr
      have C := Lib.hid cr
      clear cr hT1 hT2 hT3 hok hval hr0
      go_enter Tryz.func16, Tryz.ntmps16
      obtain ⟨⟨ca0, cb0, cc0, cd0⟩, ⟨ce0, cf0, cg0, ch0⟩, ⟨ci0, cj0, ck0, cl0⟩⟩ := HC.out _ (Below.refl _ _)
      go_wp2_with (rw [HW.out])
      refine (C.out _).mono ?_
      rintro e w1 ⟨rfl, b1⟩
      have P1 := Lib.hid (below_up P0.out b1)
      obtain ⟨⟨ca1, cb1, cc1, cd1⟩, ⟨ce1, cf1, cg1, ch1⟩, ⟨ci1, cj1, ck1, cl1⟩⟩ := HC.out _ P1.out
      clear b1 P0 ca0 cb0 cc0 cd0 ce0 cf0 cg0 ch0 ci0 cj0 ck0 cl0 
      go_wp2_with fail
      refine bodyPost_ret (v := .tuple #[.agg #[.string ⟨#[]⟩, .string ⟨#[]⟩], .int .i64 40]) (by simp [results, Tryz.results16, go_sem, ci1, cj1]) rfl ⟨rfl, rat_done B0.out (by omega) P1.out _ _⟩
    | true =>
      rw [Bool.true_and]
      simp only [Bool.and_eq_true] at hok
      obtain ⟨f1, f2, f3⟩ := hok
      rw [(res_yes f1).1, (res_yes f2).1, (res_yes f3).1] at cr
      rw [fitB_iff] at f1 f2 f3
      have cs := fun W => addR_any (textI p) (textI q) (le_of_fits f1) (le_of_fits f2) W
      rw [(op_texts _ f1 f2).1, (op_texts _ f1 f2).2] at cs
      cases f4 : fitB (p + q) with
      | false =>
        rw [(res_no f4).1, (res_no f4).2] at cs
        generalize textI p = TP at *
        generalize textI q = TQ at *
        generalize textI r = TR at *
        have C := Lib.hid cr; have CS := Lib.hid cs
        clear cr cs f1 f2 f3 f4 hval hr0
        go_enter Tryz.func16, Tryz.ntmps16
        obtain ⟨⟨ca0, cb0, cc0, cd0⟩, ⟨ce0, cf0, cg0, ch0⟩, ⟨ci0, cj0, ck0, cl0⟩⟩ := HC.out _ (Below.refl _ _)
        go_wp2_with (rw [HW.out])
        refine (C.out _).mono ?_
        rintro e w1 ⟨rfl, b1⟩
        have P1 := Lib.hid (below_up P0.out b1)
        obtain ⟨⟨ca1, cb1, cc1, cd1⟩, ⟨ce1, cf1, cg1, ch1⟩, ⟨ci1, cj1, ck1, cl1⟩⟩ := HC.out _ P1.out
        clear b1 P0 ca0 cb0 cc0 cd0 ce0 cf0 cg0 ch0 ci0 cj0 ck0 cl0 
        go_wp2_with fail
        refine (CS.out _).mono ?_
        rintro e w2 ⟨rfl, b2⟩
        have P2 := Lib.hid (below_up P1.out b2)
        obtain ⟨⟨ca2, cb2, cc2, cd2⟩, ⟨ce2, cf2, cg2, ch2⟩, ⟨ci2, cj2, ck2, cl2⟩⟩ := HC.out _ P2.out
        clear b2 P1 ca1 cb1 cc1 cd1 ce1 cf1 cg1 ch1 ci1 cj1 ck1 cl1 
        go_wp2_with fail
        refine bodyPost_ret (v := .tuple #[.agg #[.string ⟨#[]⟩, .string ⟨#[]⟩], .int .i64 40]) (by simp [results, Tryz.results16, go_sem, ci2, cj2]) rfl ⟨rfl, rat_done B0.out (by omega) P2.out _ _⟩
      | true =>
        rw [(res_yes f4).1, (res_yes f4).2] at cs
        rw [fitB_iff] at f4
        have cm := fun W => makeR4_any (textI (p + q)) (textI r) (le_of_fits f4) (le_of_fits f3) W
        rw [(make_texts f4 f3 hr0).1, (make_texts f4 f3 hr0).2, hval] at cm
        obtain ⟨XN, hXN⟩ : ∃ t, outN true x = t := ⟨_, rfl⟩
        obtain ⟨XD, hXD⟩ : ∃ t, outD true x = t := ⟨_, rfl⟩
        obtain ⟨XE, hXE⟩ : ∃ t, outE true = t := ⟨_, rfl⟩
        rw [hXN, hXD, hXE] at cm ⊢
        generalize textI (p + q) = TS at *
        generalize textI p = TP at *
        generalize textI q = TQ at *
        generalize textI r = TR at *
        have C := Lib.hid cr; have CS := Lib.hid cs; have CM := Lib.hid cm
        clear cr cs cm f1 f2 f3 f4 hval hr0 hXN hXD hXE
        go_enter Tryz.func16, Tryz.ntmps16
        obtain ⟨⟨ca0, cb0, cc0, cd0⟩, ⟨ce0, cf0, cg0, ch0⟩, ⟨ci0, cj0, ck0, cl0⟩⟩ := HC.out _ (Below.refl _ _)
        go_wp2_with (rw [HW.out])
        refine (C.out _).mono ?_
        rintro e w1 ⟨rfl, b1⟩
        have P1 := Lib.hid (below_up P0.out b1)
        obtain ⟨⟨ca1, cb1, cc1, cd1⟩, ⟨ce1, cf1, cg1, ch1⟩, ⟨ci1, cj1, ck1, cl1⟩⟩ := HC.out _ P1.out
        clear b1 P0 ca0 cb0 cc0 cd0 ce0 cf0 cg0 ch0 ci0 cj0 ck0 cl0 
        go_wp2_with fail
        refine (CS.out _).mono ?_
        rintro e w2 ⟨rfl, b2⟩
        have P2 := Lib.hid (below_up P1.out b2)
        obtain ⟨⟨ca2, cb2, cc2, cd2⟩, ⟨ce2, cf2, cg2, ch2⟩, ⟨ci2, cj2, ck2, cl2⟩⟩ := HC.out _ P2.out
        clear b2 P1 ca1 cb1 cc1 cd1 ce1 cf1 cg1 ch1 ci1 cj1 ck1 cl1 
        go_wp2_with fail
        refine (CM.out _).mono ?_
        rintro e w3 ⟨rfl, b3⟩
        have P3 := Lib.hid (below_up P2.out b3)
        obtain ⟨⟨ca3, cb3, cc3, cd3⟩, ⟨ce3, cf3, cg3, ch3⟩, ⟨ci3, cj3, ck3, cl3⟩⟩ := HC.out _ P3.out
        clear b3 P2 ca2 cb2 cc2 cd2 ce2 cf2 cg2 ch2 ci2 cj2 ck2 cl2 
        go_wp2_with fail
        refine bodyPost_ret (v := .tuple #[.agg #[.string XN, .string XD], .int .i64 XE]) (by simp [results, Tryz.results16, go_sem, ci3, cj3]) rfl ⟨rfl, rat_done B0.out (by omega) P3.out _ _⟩
set_option maxRecDepth 100000 in
set_option maxHeartbeats 4000000 in
theorem subR4_any (an ad bn bd : ByteArray) (h1 : an.size ≤ 1099511627776) (h2 : ad.size ≤ 1099511627776) (h3 : bn.size ≤ 1099511627776) (h4 : bd.size ≤ 1099511627776) (w : World) :
    Calls Tryz.prog 17 #[.agg #[.string an, .string ad], .agg #[.string bn, .string bd]] w fun e w' => e = .returned (.tuple #[.agg #[.string (outN (subB an ad bn bd) (valQ an ad - valQ bn bd)), .string (outD (subB an ad bn bd) (valQ an ad - valQ bn bd))], .int .i64 (outE (subB an ad bn bd))]) ∧ Below w.heap.size w w' := by
  obtain ⟨W0, hW0, b0, hcc⟩ := box_three w an ad bn bd ⟨#[]⟩ ⟨#[]⟩
  have HW := Lib.hid hW0; have HC := Lib.hid hcc; have B0 := Lib.hid b0
  have P0 := Lib.hid (Below.refl W0.heap.size W0)
  clear hW0 hcc b0
  cases hv : bothB an ad bn bd with
  | false =>
    have hb : subB an ad bn bd = false := by unfold subB; rw [hv]; rfl
    rw [hb]
    have C := Lib.hid (fun W => crossR_bad an ad bn bd h1 h2 h3 h4 hv W)
    clear hv hb
    go_enter Tryz.func17, Tryz.ntmps17
    obtain ⟨⟨ca0, cb0, cc0, cd0⟩, ⟨ce0, cf0, cg0, ch0⟩, ⟨ci0, cj0, ck0, cl0⟩⟩ := HC.out _ (Below.refl _ _)
    go_wp2_with (rw [HW.out])
    refine (C.out _).mono ?_
    rintro e w1 ⟨rfl, b1⟩
    have P1 := Lib.hid (below_up P0.out b1)
    obtain ⟨⟨ca1, cb1, cc1, cd1⟩, ⟨ce1, cf1, cg1, ch1⟩, ⟨ci1, cj1, ck1, cl1⟩⟩ := HC.out _ P1.out
    clear b1 P0 ca0 cb0 cc0 cd0 ce0 cf0 cg0 ch0 ci0 cj0 ck0 cl0 
    go_wp2_with fail
    refine bodyPost_ret (v := .tuple #[.agg #[.string ⟨#[]⟩, .string ⟨#[]⟩], .int .i64 40]) (by simp [results, Tryz.results17, go_sem, ci1, cj1]) rfl ⟨rfl, rat_done B0.out (by omega) P1.out _ _⟩
  | true =>
    have cr := fun W => crossR_good an ad bn bd h1 h2 h3 h4 hv W
    have hval := sub_val hv
    obtain ⟨v1, v2⟩ := both_parts hv
    have hr0 : numB ad * numB bd ≠ 0 := Int.mul_ne_zero (den_ne v1) (den_ne v2)
    have hb : subB an ad bn bd = ((fitB (numB an * numB bd) && (fitB (numB bn * numB ad) && fitB (numB ad * numB bd))) && fitB (numB an * numB bd - numB bn * numB ad)) := by unfold subB; rw [hv]; rfl
    rw [hb]
    obtain ⟨x, hx⟩ : ∃ x, valQ an ad - valQ bn bd = x := ⟨_, rfl⟩
    obtain ⟨p, hp⟩ : ∃ x, numB an * numB bd = x := ⟨_, rfl⟩
    obtain ⟨q, hq⟩ : ∃ x, numB bn * numB ad = x := ⟨_, rfl⟩
    obtain ⟨r, hr⟩ : ∃ x, numB ad * numB bd = x := ⟨_, rfl⟩
    rw [hx] at hval ⊢
    rw [hp, hq, hr] at cr hval
    rw [hr] at hr0
    rw [hp, hq, hr]
    clear hx hp hq hr hv v1 v2 hb
    obtain ⟨ok, hok⟩ : ∃ k, (fitB p && (fitB q && fitB r)) = k := ⟨_, rfl⟩
    rw [hok] at cr ⊢
    cases ok with
    | false =>
      rw [Bool.false_and]
      obtain ⟨T1, hT1⟩ : ∃ x, resT p = x := ⟨_, rfl⟩
      obtain ⟨T2, hT2⟩ : ∃ x, resT q = x := ⟨_, rfl⟩
      obtain ⟨T3, hT3⟩ : ∃ x, resT r = x := ⟨_, rfl⟩
      rw [hT1, hT2, hT3] at cr
      have C := Lib.hid cr
      clear cr hT1 hT2 hT3 hok hval hr0
      go_enter Tryz.func17, Tryz.ntmps17
      obtain ⟨⟨ca0, cb0, cc0, cd0⟩, ⟨ce0, cf0, cg0, ch0⟩, ⟨ci0, cj0, ck0, cl0⟩⟩ := HC.out _ (Below.refl _ _)
      go_wp2_with (rw [HW.out])
      refine (C.out _).mono ?_
      rintro e w1 ⟨rfl, b1⟩
      have P1 := Lib.hid (below_up P0.out b1)
      obtain ⟨⟨ca1, cb1, cc1, cd1⟩, ⟨ce1, cf1, cg1, ch1⟩, ⟨ci1, cj1, ck1, cl1⟩⟩ := HC.out _ P1.out
      clear b1 P0 ca0 cb0 cc0 cd0 ce0 cf0 cg0 ch0 ci0 cj0 ck0 cl0 
      go_wp2_with fail
      refine bodyPost_ret (v := .tuple #[.agg #[.string ⟨#[]⟩, .string ⟨#[]⟩], .int .i64 40]) (by simp [results, Tryz.results17, go_sem, ci1, cj1]) rfl ⟨rfl, rat_done B0.out (by omega) P1.out _ _⟩
    | true =>
      rw [Bool.true_and]
      simp only [Bool.and_eq_true] at hok
      obtain ⟨f1, f2, f3⟩ := hok
      rw [(res_yes f1).1, (res_yes f2).1, (res_yes f3).1] at cr
      rw [fitB_iff] at f1 f2 f3
      have cs := fun W => subR_any (textI p) (textI q) (le_of_fits f1) (le_of_fits f2) W
      rw [(op_texts _ f1 f2).1, (op_texts _ f1 f2).2] at cs
      cases f4 : fitB (p - q) with
      | false =>
        rw [(res_no f4).1, (res_no f4).2] at cs
        generalize textI p = TP at *
        generalize textI q = TQ at *
        generalize textI r = TR at *
        have C := Lib.hid cr; have CS := Lib.hid cs
        clear cr cs f1 f2 f3 f4 hval hr0
        go_enter Tryz.func17, Tryz.ntmps17
        obtain ⟨⟨ca0, cb0, cc0, cd0⟩, ⟨ce0, cf0, cg0, ch0⟩, ⟨ci0, cj0, ck0, cl0⟩⟩ := HC.out _ (Below.refl _ _)
        go_wp2_with (rw [HW.out])
        refine (C.out _).mono ?_
        rintro e w1 ⟨rfl, b1⟩
        have P1 := Lib.hid (below_up P0.out b1)
        obtain ⟨⟨ca1, cb1, cc1, cd1⟩, ⟨ce1, cf1, cg1, ch1⟩, ⟨ci1, cj1, ck1, cl1⟩⟩ := HC.out _ P1.out
        clear b1 P0 ca0 cb0 cc0 cd0 ce0 cf0 cg0 ch0 ci0 cj0 ck0 cl0 
        go_wp2_with fail
        refine (CS.out _).mono ?_
        rintro e w2 ⟨rfl, b2⟩
        have P2 := Lib.hid (below_up P1.out b2)
        obtain ⟨⟨ca2, cb2, cc2, cd2⟩, ⟨ce2, cf2, cg2, ch2⟩, ⟨ci2, cj2, ck2, cl2⟩⟩ := HC.out _ P2.out
        clear b2 P1 ca1 cb1 cc1 cd1 ce1 cf1 cg1 ch1 ci1 cj1 ck1 cl1 
        go_wp2_with fail
        refine bodyPost_ret (v := .tuple #[.agg #[.string ⟨#[]⟩, .string ⟨#[]⟩], .int .i64 40]) (by simp [results, Tryz.results17, go_sem, ci2, cj2]) rfl ⟨rfl, rat_done B0.out (by omega) P2.out _ _⟩
      | true =>
        rw [(res_yes f4).1, (res_yes f4).2] at cs
        rw [fitB_iff] at f4
        have cm := fun W => makeR4_any (textI (p - q)) (textI r) (le_of_fits f4) (le_of_fits f3) W
        rw [(make_texts f4 f3 hr0).1, (make_texts f4 f3 hr0).2, hval] at cm
        obtain ⟨XN, hXN⟩ : ∃ t, outN true x = t := ⟨_, rfl⟩
        obtain ⟨XD, hXD⟩ : ∃ t, outD true x = t := ⟨_, rfl⟩
        obtain ⟨XE, hXE⟩ : ∃ t, outE true = t := ⟨_, rfl⟩
        rw [hXN, hXD, hXE] at cm ⊢
        generalize textI (p - q) = TS at *
        generalize textI p = TP at *
        generalize textI q = TQ at *
        generalize textI r = TR at *
        have C := Lib.hid cr; have CS := Lib.hid cs; have CM := Lib.hid cm
        clear cr cs cm f1 f2 f3 f4 hval hr0 hXN hXD hXE
        go_enter Tryz.func17, Tryz.ntmps17
        obtain ⟨⟨ca0, cb0, cc0, cd0⟩, ⟨ce0, cf0, cg0, ch0⟩, ⟨ci0, cj0, ck0, cl0⟩⟩ := HC.out _ (Below.refl _ _)
        go_wp2_with (rw [HW.out])
        refine (C.out _).mono ?_
        rintro e w1 ⟨rfl, b1⟩
        have P1 := Lib.hid (below_up P0.out b1)
        obtain ⟨⟨ca1, cb1, cc1, cd1⟩, ⟨ce1, cf1, cg1, ch1⟩, ⟨ci1, cj1, ck1, cl1⟩⟩ := HC.out _ P1.out
        clear b1 P0 ca0 cb0 cc0 cd0 ce0 cf0 cg0 ch0 ci0 cj0 ck0 cl0 
        go_wp2_with fail
        refine (CS.out _).mono ?_
        rintro e w2 ⟨rfl, b2⟩
        have P2 := Lib.hid (below_up P1.out b2)
        obtain ⟨⟨ca2, cb2, cc2, cd2⟩, ⟨ce2, cf2, cg2, ch2⟩, ⟨ci2, cj2, ck2, cl2⟩⟩ := HC.out _ P2.out
        clear b2 P1 ca1 cb1 cc1 cd1 ce1 cf1 cg1 ch1 ci1 cj1 ck1 cl1 
        go_wp2_with fail
        refine (CM.out _).mono ?_
        rintro e w3 ⟨rfl, b3⟩
        have P3 := Lib.hid (below_up P2.out b3)
        obtain ⟨⟨ca3, cb3, cc3, cd3⟩, ⟨ce3, cf3, cg3, ch3⟩, ⟨ci3, cj3, ck3, cl3⟩⟩ := HC.out _ P3.out
        clear b3 P2 ca2 cb2 cc2 cd2 ce2 cf2 cg2 ch2 ci2 cj2 ck2 cl2 
        go_wp2_with fail
        refine bodyPost_ret (v := .tuple #[.agg #[.string XN, .string XD], .int .i64 XE]) (by simp [results, Tryz.results17, go_sem, ci3, cj3]) rfl ⟨rfl, rat_done B0.out (by omega) P3.out _ _⟩
end Go.Proofs.YtlcibnmcannapaaGreatDoor
