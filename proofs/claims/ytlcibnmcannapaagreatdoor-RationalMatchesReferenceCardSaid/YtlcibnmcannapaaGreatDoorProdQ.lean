/-
  The contracts of the reference's products and quotients of fractions, and of Of.
-/
import Derived.Test.YtlcibnmcannapaaGreatDoorOpsQ
namespace Go.Proofs.YtlcibnmcannapaaGreatDoor
open Go Go.Proofs Go.RowKit Go.Lib

set_option maxRecDepth 100000 in
set_option maxHeartbeats 4000000 in
theorem mulR4_any (an ad bn bd : ByteArray) (h1 : an.size ≤ 1099511627776) (h2 : ad.size ≤ 1099511627776) (h3 : bn.size ≤ 1099511627776) (h4 : bd.size ≤ 1099511627776) (w : World) :
    Calls Tryz.prog 18 #[.agg #[.string an, .string ad], .agg #[.string bn, .string bd]] w fun e w' => e = .returned (.tuple #[.agg #[.string (outN (mulB an ad bn bd) (valQ an ad * valQ bn bd)), .string (outD (mulB an ad bn bd) (valQ an ad * valQ bn bd))], .int .i64 (outE (mulB an ad bn bd))]) ∧ Below w.heap.size w w' := by
  obtain ⟨W0, hW0, b0, hcc⟩ := box_three w an ad bn bd ⟨#[]⟩ ⟨#[]⟩
  have HW := Lib.hid hW0; have HC := Lib.hid hcc; have B0 := Lib.hid b0
  have P0 := Lib.hid (Below.refl W0.heap.size W0)
  clear hW0 hcc b0
  have va := fun W => validR4_any an ad h1 h2 W
  have vb := fun W => validR4_any bn bd h3 h4 W
  cases e1 : validQ an ad with
  | false =>
    have hb : mulB an ad bn bd = false := by unfold mulB bothB; rw [e1]; rfl
    rw [hb]
    rw [e1] at va
    have VA := Lib.hid va; have VB := Lib.hid vb
    clear va vb e1 hb
    go_enter Tryz.func18, Tryz.ntmps18
    obtain ⟨⟨ca0, cb0, cc0, cd0⟩, ⟨ce0, cf0, cg0, ch0⟩, ⟨ci0, cj0, ck0, cl0⟩⟩ := HC.out _ (Below.refl _ _)
    go_wp2_with (rw [HW.out])
    refine (VA.out _).mono ?_
    rintro e w1 ⟨rfl, b1⟩
    have P1 := Lib.hid (below_up P0.out b1)
    obtain ⟨⟨ca1, cb1, cc1, cd1⟩, ⟨ce1, cf1, cg1, ch1⟩, ⟨ci1, cj1, ck1, cl1⟩⟩ := HC.out _ P1.out
    clear b1 P0 ca0 cb0 cc0 cd0 ce0 cf0 cg0 ch0 ci0 cj0 ck0 cl0 
    go_wp2_with fail
    refine (VB.out _).mono ?_
    rintro e w2 ⟨rfl, b2⟩
    have P2 := Lib.hid (below_up P1.out b2)
    obtain ⟨⟨ca2, cb2, cc2, cd2⟩, ⟨ce2, cf2, cg2, ch2⟩, ⟨ci2, cj2, ck2, cl2⟩⟩ := HC.out _ P2.out
    clear b2 P1 ca1 cb1 cc1 cd1 ce1 cf1 cg1 ch1 ci1 cj1 ck1 cl1 
    go_wp2_with fail
    refine bodyPost_ret (v := .tuple #[.agg #[.string ⟨#[]⟩, .string ⟨#[]⟩], .int .i64 40]) (by simp [results, Tryz.results18, go_sem, ci2, cj2]) rfl ⟨rfl, rat_done B0.out (by omega) P2.out _ _⟩
  | true =>
    cases e2 : validQ bn bd with
    | false =>
      have hb : mulB an ad bn bd = false := by unfold mulB bothB; rw [e1, e2]; rfl
      rw [hb]
      rw [e1] at va
      rw [e2] at vb
      have VA := Lib.hid va; have VB := Lib.hid vb
      clear va vb e1 e2 hb
      go_enter Tryz.func18, Tryz.ntmps18
      obtain ⟨⟨ca0, cb0, cc0, cd0⟩, ⟨ce0, cf0, cg0, ch0⟩, ⟨ci0, cj0, ck0, cl0⟩⟩ := HC.out _ (Below.refl _ _)
      go_wp2_with (rw [HW.out])
      refine (VA.out _).mono ?_
      rintro e w1 ⟨rfl, b1⟩
      have P1 := Lib.hid (below_up P0.out b1)
      obtain ⟨⟨ca1, cb1, cc1, cd1⟩, ⟨ce1, cf1, cg1, ch1⟩, ⟨ci1, cj1, ck1, cl1⟩⟩ := HC.out _ P1.out
      clear b1 P0 ca0 cb0 cc0 cd0 ce0 cf0 cg0 ch0 ci0 cj0 ck0 cl0 
      go_wp2_with fail
      refine (VB.out _).mono ?_
      rintro e w2 ⟨rfl, b2⟩
      have P2 := Lib.hid (below_up P1.out b2)
      obtain ⟨⟨ca2, cb2, cc2, cd2⟩, ⟨ce2, cf2, cg2, ch2⟩, ⟨ci2, cj2, ck2, cl2⟩⟩ := HC.out _ P2.out
      clear b2 P1 ca1 cb1 cc1 cd1 ce1 cf1 cg1 ch1 ci1 cj1 ck1 cl1 
      go_wp2_with fail
      refine bodyPost_ret (v := .tuple #[.agg #[.string ⟨#[]⟩, .string ⟨#[]⟩], .int .i64 40]) (by simp [results, Tryz.results18, go_sem, ci2, cj2]) rfl ⟨rfl, rat_done B0.out (by omega) P2.out _ _⟩
    | true =>
      obtain ⟨u1, u2, _, _⟩ := validQ_parts e1
      obtain ⟨u3, u4, _, _⟩ := validQ_parts e2
      have n1 := den_ne e1
      have n2 := den_ne e2
      have hval := mul_val an ad bn bd
      have hb : mulB an ad bn bd = (fitB (numB an * numB bn) && fitB (numB ad * numB bd)) := by unfold mulB bothB; rw [e1, e2]; rfl
      rw [hb]
      rw [e1] at va
      rw [e2] at vb
      have c1 := fun W => mulR_any an bn h1 h3 W
      have c2 := fun W => mulR_any ad bd h2 h4 W
      rw [(op_valid _ u1 u3).1, (op_valid _ u1 u3).2] at c1
      rw [(op_valid _ u2 u4).1, (op_valid _ u2 u4).2] at c2
      have hr0 : numB ad * numB bd ≠ 0 := Int.mul_ne_zero n1 n2
      obtain ⟨x, hx⟩ : ∃ x, valQ an ad * valQ bn bd = x := ⟨_, rfl⟩
      obtain ⟨p, hp⟩ : ∃ x, numB an * numB bn = x := ⟨_, rfl⟩
      obtain ⟨q, hq⟩ : ∃ x, numB ad * numB bd = x := ⟨_, rfl⟩
      rw [hx, hp, hq] at hval
      rw [hp] at c1 ⊢
      rw [hq] at c2 hr0 ⊢
      rw [hx]
      clear hp hq hx e1 e2 n1 n2 hb u1 u2 u3 u4
      cases f1 : fitB p with
      | false =>
        rw [(res_no f1).1, (res_no f1).2] at c1
        generalize resZ q = z2 at *
        generalize resT q = T2 at *
        simp only [Bool.false_and]
        clear f1 hval hr0
        have VA := Lib.hid va; have VB := Lib.hid vb; have C1 := Lib.hid c1; have C2 := Lib.hid c2
        clear va vb c1 c2
        go_enter Tryz.func18, Tryz.ntmps18
        obtain ⟨⟨ca0, cb0, cc0, cd0⟩, ⟨ce0, cf0, cg0, ch0⟩, ⟨ci0, cj0, ck0, cl0⟩⟩ := HC.out _ (Below.refl _ _)
        go_wp2_with (rw [HW.out])
        refine (VA.out _).mono ?_
        rintro e w1 ⟨rfl, b1⟩
        have P1 := Lib.hid (below_up P0.out b1)
        obtain ⟨⟨ca1, cb1, cc1, cd1⟩, ⟨ce1, cf1, cg1, ch1⟩, ⟨ci1, cj1, ck1, cl1⟩⟩ := HC.out _ P1.out
        clear b1 P0 ca0 cb0 cc0 cd0 ce0 cf0 cg0 ch0 ci0 cj0 ck0 cl0 
        go_wp2_with fail
        refine (VB.out _).mono ?_
        rintro e w2 ⟨rfl, b2⟩
        have P2 := Lib.hid (below_up P1.out b2)
        obtain ⟨⟨ca2, cb2, cc2, cd2⟩, ⟨ce2, cf2, cg2, ch2⟩, ⟨ci2, cj2, ck2, cl2⟩⟩ := HC.out _ P2.out
        clear b2 P1 ca1 cb1 cc1 cd1 ce1 cf1 cg1 ch1 ci1 cj1 ck1 cl1 
        go_wp2_with fail
        refine (C1.out _).mono ?_
        rintro e w3 ⟨rfl, b3⟩
        have P3 := Lib.hid (below_up P2.out b3)
        obtain ⟨⟨ca3, cb3, cc3, cd3⟩, ⟨ce3, cf3, cg3, ch3⟩, ⟨ci3, cj3, ck3, cl3⟩⟩ := HC.out _ P3.out
        clear b3 P2 ca2 cb2 cc2 cd2 ce2 cf2 cg2 ch2 ci2 cj2 ck2 cl2 
        go_wp2_with fail
        refine (C2.out _).mono ?_
        rintro e w4 ⟨rfl, b4⟩
        have P4 := Lib.hid (below_up P3.out b4)
        obtain ⟨⟨ca4, cb4, cc4, cd4⟩, ⟨ce4, cf4, cg4, ch4⟩, ⟨ci4, cj4, ck4, cl4⟩⟩ := HC.out _ P4.out
        clear b4 P3 ca3 cb3 cc3 cd3 ce3 cf3 cg3 ch3 ci3 cj3 ck3 cl3 
        go_wp2_with fail
        refine bodyPost_ret (v := .tuple #[.agg #[.string ⟨#[]⟩, .string ⟨#[]⟩], .int .i64 40]) (by simp [results, Tryz.results18, go_sem, ci4, cj4]) rfl ⟨rfl, rat_done B0.out (by omega) P4.out _ _⟩
      | true =>
        rw [(res_yes f1).1, (res_yes f1).2] at c1
        cases f2 : fitB q with
        | false =>
          rw [(res_no f2).1, (res_no f2).2] at c2
          rw [Bool.and_false]
          generalize textI p = T1 at *
          clear f1 f2 hval hr0
          have VA := Lib.hid va; have VB := Lib.hid vb; have C1 := Lib.hid c1; have C2 := Lib.hid c2
          clear va vb c1 c2
          go_enter Tryz.func18, Tryz.ntmps18
          obtain ⟨⟨ca0, cb0, cc0, cd0⟩, ⟨ce0, cf0, cg0, ch0⟩, ⟨ci0, cj0, ck0, cl0⟩⟩ := HC.out _ (Below.refl _ _)
          go_wp2_with (rw [HW.out])
          refine (VA.out _).mono ?_
          rintro e w1 ⟨rfl, b1⟩
          have P1 := Lib.hid (below_up P0.out b1)
          obtain ⟨⟨ca1, cb1, cc1, cd1⟩, ⟨ce1, cf1, cg1, ch1⟩, ⟨ci1, cj1, ck1, cl1⟩⟩ := HC.out _ P1.out
          clear b1 P0 ca0 cb0 cc0 cd0 ce0 cf0 cg0 ch0 ci0 cj0 ck0 cl0 
          go_wp2_with fail
          refine (VB.out _).mono ?_
          rintro e w2 ⟨rfl, b2⟩
          have P2 := Lib.hid (below_up P1.out b2)
          obtain ⟨⟨ca2, cb2, cc2, cd2⟩, ⟨ce2, cf2, cg2, ch2⟩, ⟨ci2, cj2, ck2, cl2⟩⟩ := HC.out _ P2.out
          clear b2 P1 ca1 cb1 cc1 cd1 ce1 cf1 cg1 ch1 ci1 cj1 ck1 cl1 
          go_wp2_with fail
          refine (C1.out _).mono ?_
          rintro e w3 ⟨rfl, b3⟩
          have P3 := Lib.hid (below_up P2.out b3)
          obtain ⟨⟨ca3, cb3, cc3, cd3⟩, ⟨ce3, cf3, cg3, ch3⟩, ⟨ci3, cj3, ck3, cl3⟩⟩ := HC.out _ P3.out
          clear b3 P2 ca2 cb2 cc2 cd2 ce2 cf2 cg2 ch2 ci2 cj2 ck2 cl2 
          go_wp2_with fail
          refine (C2.out _).mono ?_
          rintro e w4 ⟨rfl, b4⟩
          have P4 := Lib.hid (below_up P3.out b4)
          obtain ⟨⟨ca4, cb4, cc4, cd4⟩, ⟨ce4, cf4, cg4, ch4⟩, ⟨ci4, cj4, ck4, cl4⟩⟩ := HC.out _ P4.out
          clear b4 P3 ca3 cb3 cc3 cd3 ce3 cf3 cg3 ch3 ci3 cj3 ck3 cl3 
          go_wp2_with fail
          refine bodyPost_ret (v := .tuple #[.agg #[.string ⟨#[]⟩, .string ⟨#[]⟩], .int .i64 40]) (by simp [results, Tryz.results18, go_sem, ci4, cj4]) rfl ⟨rfl, rat_done B0.out (by omega) P4.out _ _⟩
        | true =>
          rw [(res_yes f2).1, (res_yes f2).2] at c2
          rw [fitB_iff] at f1 f2
          have cm := fun W => makeR4_any (textI p) (textI q) (le_of_fits f1) (le_of_fits f2) W
          simp only [Bool.true_and]
          rw [(make_texts f1 f2 hr0).1, (make_texts f1 f2 hr0).2, hval] at cm
          obtain ⟨XN, hXN⟩ : ∃ t, outN true x = t := ⟨_, rfl⟩
          obtain ⟨XD, hXD⟩ : ∃ t, outD true x = t := ⟨_, rfl⟩
          obtain ⟨XE, hXE⟩ : ∃ t, outE true = t := ⟨_, rfl⟩
          rw [hXN, hXD, hXE] at cm ⊢
          generalize textI p = T1 at *
          generalize textI q = T2 at *
          have CM := Lib.hid cm
          clear cm f1 f2 hval hr0 hXN hXD hXE
          have VA := Lib.hid va; have VB := Lib.hid vb; have C1 := Lib.hid c1; have C2 := Lib.hid c2
          clear va vb c1 c2
          go_enter Tryz.func18, Tryz.ntmps18
          obtain ⟨⟨ca0, cb0, cc0, cd0⟩, ⟨ce0, cf0, cg0, ch0⟩, ⟨ci0, cj0, ck0, cl0⟩⟩ := HC.out _ (Below.refl _ _)
          go_wp2_with (rw [HW.out])
          refine (VA.out _).mono ?_
          rintro e w1 ⟨rfl, b1⟩
          have P1 := Lib.hid (below_up P0.out b1)
          obtain ⟨⟨ca1, cb1, cc1, cd1⟩, ⟨ce1, cf1, cg1, ch1⟩, ⟨ci1, cj1, ck1, cl1⟩⟩ := HC.out _ P1.out
          clear b1 P0 ca0 cb0 cc0 cd0 ce0 cf0 cg0 ch0 ci0 cj0 ck0 cl0 
          go_wp2_with fail
          refine (VB.out _).mono ?_
          rintro e w2 ⟨rfl, b2⟩
          have P2 := Lib.hid (below_up P1.out b2)
          obtain ⟨⟨ca2, cb2, cc2, cd2⟩, ⟨ce2, cf2, cg2, ch2⟩, ⟨ci2, cj2, ck2, cl2⟩⟩ := HC.out _ P2.out
          clear b2 P1 ca1 cb1 cc1 cd1 ce1 cf1 cg1 ch1 ci1 cj1 ck1 cl1 
          go_wp2_with fail
          refine (C1.out _).mono ?_
          rintro e w3 ⟨rfl, b3⟩
          have P3 := Lib.hid (below_up P2.out b3)
          obtain ⟨⟨ca3, cb3, cc3, cd3⟩, ⟨ce3, cf3, cg3, ch3⟩, ⟨ci3, cj3, ck3, cl3⟩⟩ := HC.out _ P3.out
          clear b3 P2 ca2 cb2 cc2 cd2 ce2 cf2 cg2 ch2 ci2 cj2 ck2 cl2 
          go_wp2_with fail
          refine (C2.out _).mono ?_
          rintro e w4 ⟨rfl, b4⟩
          have P4 := Lib.hid (below_up P3.out b4)
          obtain ⟨⟨ca4, cb4, cc4, cd4⟩, ⟨ce4, cf4, cg4, ch4⟩, ⟨ci4, cj4, ck4, cl4⟩⟩ := HC.out _ P4.out
          clear b4 P3 ca3 cb3 cc3 cd3 ce3 cf3 cg3 ch3 ci3 cj3 ck3 cl3 
          go_wp2_with fail
          refine (CM.out _).mono ?_
          rintro e w5 ⟨rfl, b5⟩
          have P5 := Lib.hid (below_up P4.out b5)
          obtain ⟨⟨ca5, cb5, cc5, cd5⟩, ⟨ce5, cf5, cg5, ch5⟩, ⟨ci5, cj5, ck5, cl5⟩⟩ := HC.out _ P5.out
          clear b5 P4 ca4 cb4 cc4 cd4 ce4 cf4 cg4 ch4 ci4 cj4 ck4 cl4 
          go_wp2_with fail
          refine bodyPost_ret (v := .tuple #[.agg #[.string XN, .string XD], .int .i64 XE]) (by simp [results, Tryz.results18, go_sem, ci5, cj5]) rfl ⟨rfl, rat_done B0.out (by omega) P5.out _ _⟩
set_option maxRecDepth 100000 in
set_option maxHeartbeats 4000000 in
theorem divR4_any (an ad bn bd : ByteArray) (h1 : an.size ≤ 1099511627776) (h2 : ad.size ≤ 1099511627776) (h3 : bn.size ≤ 1099511627776) (h4 : bd.size ≤ 1099511627776) (w : World) :
    Calls Tryz.prog 19 #[.agg #[.string an, .string ad], .agg #[.string bn, .string bd]] w fun e w' => e = .returned (.tuple #[.agg #[.string (outN (divB an ad bn bd) (valQ an ad / valQ bn bd)), .string (outD (divB an ad bn bd) (valQ an ad / valQ bn bd))], .int .i64 (outE (divB an ad bn bd))]) ∧ Below w.heap.size w w' := by
  obtain ⟨W0, hW0, b0, hcc⟩ := box_three w an ad bn bd ⟨#[]⟩ ⟨#[]⟩
  have HW := Lib.hid hW0; have HC := Lib.hid hcc; have B0 := Lib.hid b0
  have P0 := Lib.hid (Below.refl W0.heap.size W0)
  clear hW0 hcc b0
  have va := fun W => validR4_any an ad h1 h2 W
  have vb := fun W => validR4_any bn bd h3 h4 W
  cases e1 : validQ an ad with
  | false =>
    have hb : divB an ad bn bd = false := by unfold divB bothB; rw [e1]; rfl
    rw [hb]
    rw [e1] at va
    have VA := Lib.hid va; have VB := Lib.hid vb
    clear va vb e1 hb
    go_enter Tryz.func19, Tryz.ntmps19
    obtain ⟨⟨ca0, cb0, cc0, cd0⟩, ⟨ce0, cf0, cg0, ch0⟩, ⟨ci0, cj0, ck0, cl0⟩⟩ := HC.out _ (Below.refl _ _)
    go_wp2_with (rw [HW.out])
    refine (VA.out _).mono ?_
    rintro e w1 ⟨rfl, b1⟩
    have P1 := Lib.hid (below_up P0.out b1)
    obtain ⟨⟨ca1, cb1, cc1, cd1⟩, ⟨ce1, cf1, cg1, ch1⟩, ⟨ci1, cj1, ck1, cl1⟩⟩ := HC.out _ P1.out
    clear b1 P0 ca0 cb0 cc0 cd0 ce0 cf0 cg0 ch0 ci0 cj0 ck0 cl0 
    go_wp2_with fail
    refine (VB.out _).mono ?_
    rintro e w2 ⟨rfl, b2⟩
    have P2 := Lib.hid (below_up P1.out b2)
    obtain ⟨⟨ca2, cb2, cc2, cd2⟩, ⟨ce2, cf2, cg2, ch2⟩, ⟨ci2, cj2, ck2, cl2⟩⟩ := HC.out _ P2.out
    clear b2 P1 ca1 cb1 cc1 cd1 ce1 cf1 cg1 ch1 ci1 cj1 ck1 cl1 
    go_wp2_with fail
    refine bodyPost_ret (v := .tuple #[.agg #[.string ⟨#[]⟩, .string ⟨#[]⟩], .int .i64 40]) (by simp [results, Tryz.results19, go_sem, ci2, cj2]) rfl ⟨rfl, rat_done B0.out (by omega) P2.out _ _⟩
  | true =>
    cases e2 : validQ bn bd with
    | false =>
      have hb : divB an ad bn bd = false := by unfold divB bothB; rw [e1, e2]; rfl
      rw [hb]
      rw [e1] at va
      rw [e2] at vb
      have VA := Lib.hid va; have VB := Lib.hid vb
      clear va vb e1 e2 hb
      go_enter Tryz.func19, Tryz.ntmps19
      obtain ⟨⟨ca0, cb0, cc0, cd0⟩, ⟨ce0, cf0, cg0, ch0⟩, ⟨ci0, cj0, ck0, cl0⟩⟩ := HC.out _ (Below.refl _ _)
      go_wp2_with (rw [HW.out])
      refine (VA.out _).mono ?_
      rintro e w1 ⟨rfl, b1⟩
      have P1 := Lib.hid (below_up P0.out b1)
      obtain ⟨⟨ca1, cb1, cc1, cd1⟩, ⟨ce1, cf1, cg1, ch1⟩, ⟨ci1, cj1, ck1, cl1⟩⟩ := HC.out _ P1.out
      clear b1 P0 ca0 cb0 cc0 cd0 ce0 cf0 cg0 ch0 ci0 cj0 ck0 cl0 
      go_wp2_with fail
      refine (VB.out _).mono ?_
      rintro e w2 ⟨rfl, b2⟩
      have P2 := Lib.hid (below_up P1.out b2)
      obtain ⟨⟨ca2, cb2, cc2, cd2⟩, ⟨ce2, cf2, cg2, ch2⟩, ⟨ci2, cj2, ck2, cl2⟩⟩ := HC.out _ P2.out
      clear b2 P1 ca1 cb1 cc1 cd1 ce1 cf1 cg1 ch1 ci1 cj1 ck1 cl1 
      go_wp2_with fail
      refine bodyPost_ret (v := .tuple #[.agg #[.string ⟨#[]⟩, .string ⟨#[]⟩], .int .i64 40]) (by simp [results, Tryz.results19, go_sem, ci2, cj2]) rfl ⟨rfl, rat_done B0.out (by omega) P2.out _ _⟩
    | true =>
      obtain ⟨u1, u2, _, _⟩ := validQ_parts e1
      obtain ⟨u3, u4, _, _⟩ := validQ_parts e2
      have n1 := den_ne e1
      have n2 := den_ne e2
      have hval := div_val an ad bn bd
      have hb : divB an ad bn bd = ((fitB (numB an * numB bd) && fitB (numB ad * numB bn)) && decide (numB bn ≠ 0)) := by unfold divB bothB; rw [e1, e2]; rfl
      rw [hb]
      rw [e1] at va
      rw [e2] at vb
      have c1 := fun W => mulR_any an bd h1 h4 W
      have c2 := fun W => mulR_any ad bn h2 h3 W
      rw [(op_valid _ u1 u4).1, (op_valid _ u1 u4).2] at c1
      rw [(op_valid _ u2 u3).1, (op_valid _ u2 u3).2] at c2
      have hr0 : numB ad * numB bn = 0 ↔ numB bn = 0 := by rw [Int.mul_eq_zero]; exact ⟨fun h => h.resolve_left n1, Or.inr⟩
      obtain ⟨nz, hnz⟩ : ∃ k, decide (numB bn ≠ 0) = k := ⟨_, rfl⟩
      rw [hnz]
      have hr1 : nz = true ↔ numB ad * numB bn ≠ 0 := by rw [← hnz, decide_eq_true_iff, ne_eq, ne_eq, hr0]
      obtain ⟨x, hx⟩ : ∃ x, valQ an ad / valQ bn bd = x := ⟨_, rfl⟩
      obtain ⟨p, hp⟩ : ∃ x, numB an * numB bd = x := ⟨_, rfl⟩
      obtain ⟨q, hq⟩ : ∃ x, numB ad * numB bn = x := ⟨_, rfl⟩
      rw [hx, hp, hq] at hval
      rw [hp] at c1 ⊢
      rw [hq] at c2 hr1 ⊢
      rw [hx]
      clear hp hq hx e1 e2 n1 n2 hb u1 u2 u3 u4
      clear hr0 hnz
      cases f1 : fitB p with
      | false =>
        rw [(res_no f1).1, (res_no f1).2] at c1
        generalize resZ q = z2 at *
        generalize resT q = T2 at *
        simp only [Bool.false_and]
        clear f1 hval hr1
        have VA := Lib.hid va; have VB := Lib.hid vb; have C1 := Lib.hid c1; have C2 := Lib.hid c2
        clear va vb c1 c2
        go_enter Tryz.func19, Tryz.ntmps19
        obtain ⟨⟨ca0, cb0, cc0, cd0⟩, ⟨ce0, cf0, cg0, ch0⟩, ⟨ci0, cj0, ck0, cl0⟩⟩ := HC.out _ (Below.refl _ _)
        go_wp2_with (rw [HW.out])
        refine (VA.out _).mono ?_
        rintro e w1 ⟨rfl, b1⟩
        have P1 := Lib.hid (below_up P0.out b1)
        obtain ⟨⟨ca1, cb1, cc1, cd1⟩, ⟨ce1, cf1, cg1, ch1⟩, ⟨ci1, cj1, ck1, cl1⟩⟩ := HC.out _ P1.out
        clear b1 P0 ca0 cb0 cc0 cd0 ce0 cf0 cg0 ch0 ci0 cj0 ck0 cl0 
        go_wp2_with fail
        refine (VB.out _).mono ?_
        rintro e w2 ⟨rfl, b2⟩
        have P2 := Lib.hid (below_up P1.out b2)
        obtain ⟨⟨ca2, cb2, cc2, cd2⟩, ⟨ce2, cf2, cg2, ch2⟩, ⟨ci2, cj2, ck2, cl2⟩⟩ := HC.out _ P2.out
        clear b2 P1 ca1 cb1 cc1 cd1 ce1 cf1 cg1 ch1 ci1 cj1 ck1 cl1 
        go_wp2_with fail
        refine (C1.out _).mono ?_
        rintro e w3 ⟨rfl, b3⟩
        have P3 := Lib.hid (below_up P2.out b3)
        obtain ⟨⟨ca3, cb3, cc3, cd3⟩, ⟨ce3, cf3, cg3, ch3⟩, ⟨ci3, cj3, ck3, cl3⟩⟩ := HC.out _ P3.out
        clear b3 P2 ca2 cb2 cc2 cd2 ce2 cf2 cg2 ch2 ci2 cj2 ck2 cl2 
        go_wp2_with fail
        refine (C2.out _).mono ?_
        rintro e w4 ⟨rfl, b4⟩
        have P4 := Lib.hid (below_up P3.out b4)
        obtain ⟨⟨ca4, cb4, cc4, cd4⟩, ⟨ce4, cf4, cg4, ch4⟩, ⟨ci4, cj4, ck4, cl4⟩⟩ := HC.out _ P4.out
        clear b4 P3 ca3 cb3 cc3 cd3 ce3 cf3 cg3 ch3 ci3 cj3 ck3 cl3 
        go_wp2_with fail
        refine bodyPost_ret (v := .tuple #[.agg #[.string ⟨#[]⟩, .string ⟨#[]⟩], .int .i64 40]) (by simp [results, Tryz.results19, go_sem, ci4, cj4]) rfl ⟨rfl, rat_done B0.out (by omega) P4.out _ _⟩
      | true =>
        rw [(res_yes f1).1, (res_yes f1).2] at c1
        cases f2 : fitB q with
        | false =>
          rw [(res_no f2).1, (res_no f2).2] at c2
          rw [Bool.and_false, Bool.false_and]
          generalize textI p = T1 at *
          clear f1 f2 hval hr1
          have VA := Lib.hid va; have VB := Lib.hid vb; have C1 := Lib.hid c1; have C2 := Lib.hid c2
          clear va vb c1 c2
          go_enter Tryz.func19, Tryz.ntmps19
          obtain ⟨⟨ca0, cb0, cc0, cd0⟩, ⟨ce0, cf0, cg0, ch0⟩, ⟨ci0, cj0, ck0, cl0⟩⟩ := HC.out _ (Below.refl _ _)
          go_wp2_with (rw [HW.out])
          refine (VA.out _).mono ?_
          rintro e w1 ⟨rfl, b1⟩
          have P1 := Lib.hid (below_up P0.out b1)
          obtain ⟨⟨ca1, cb1, cc1, cd1⟩, ⟨ce1, cf1, cg1, ch1⟩, ⟨ci1, cj1, ck1, cl1⟩⟩ := HC.out _ P1.out
          clear b1 P0 ca0 cb0 cc0 cd0 ce0 cf0 cg0 ch0 ci0 cj0 ck0 cl0 
          go_wp2_with fail
          refine (VB.out _).mono ?_
          rintro e w2 ⟨rfl, b2⟩
          have P2 := Lib.hid (below_up P1.out b2)
          obtain ⟨⟨ca2, cb2, cc2, cd2⟩, ⟨ce2, cf2, cg2, ch2⟩, ⟨ci2, cj2, ck2, cl2⟩⟩ := HC.out _ P2.out
          clear b2 P1 ca1 cb1 cc1 cd1 ce1 cf1 cg1 ch1 ci1 cj1 ck1 cl1 
          go_wp2_with fail
          refine (C1.out _).mono ?_
          rintro e w3 ⟨rfl, b3⟩
          have P3 := Lib.hid (below_up P2.out b3)
          obtain ⟨⟨ca3, cb3, cc3, cd3⟩, ⟨ce3, cf3, cg3, ch3⟩, ⟨ci3, cj3, ck3, cl3⟩⟩ := HC.out _ P3.out
          clear b3 P2 ca2 cb2 cc2 cd2 ce2 cf2 cg2 ch2 ci2 cj2 ck2 cl2 
          go_wp2_with fail
          refine (C2.out _).mono ?_
          rintro e w4 ⟨rfl, b4⟩
          have P4 := Lib.hid (below_up P3.out b4)
          obtain ⟨⟨ca4, cb4, cc4, cd4⟩, ⟨ce4, cf4, cg4, ch4⟩, ⟨ci4, cj4, ck4, cl4⟩⟩ := HC.out _ P4.out
          clear b4 P3 ca3 cb3 cc3 cd3 ce3 cf3 cg3 ch3 ci3 cj3 ck3 cl3 
          go_wp2_with fail
          refine bodyPost_ret (v := .tuple #[.agg #[.string ⟨#[]⟩, .string ⟨#[]⟩], .int .i64 40]) (by simp [results, Tryz.results19, go_sem, ci4, cj4]) rfl ⟨rfl, rat_done B0.out (by omega) P4.out _ _⟩
        | true =>
          rw [(res_yes f2).1, (res_yes f2).2] at c2
          rw [fitB_iff] at f1 f2
          have cm := fun W => makeR4_any (textI p) (textI q) (le_of_fits f1) (le_of_fits f2) W
          simp only [Bool.true_and]
          have hmk : makeB (textI p) (textI q) = nz := by
            unfold makeB
            rw [(valid_text f1).1, (valid_text f2).1, (valid_text f2).2, Bool.true_and, Bool.true_and]
            cases nz with
            | true => rw [decide_eq_true (hr1.1 rfl)]
            | false => rw [decide_eq_false (fun h => by have := hr1.2 h; cases this)]
          have hvq : valQ (textI p) (textI q) = x := by
            unfold valQ
            rw [(valid_text f1).2, (valid_text f2).2, hval]
          rw [hmk, hvq] at cm
          obtain ⟨XN, hXN⟩ : ∃ t, outN nz x = t := ⟨_, rfl⟩
          obtain ⟨XD, hXD⟩ : ∃ t, outD nz x = t := ⟨_, rfl⟩
          obtain ⟨XE, hXE⟩ : ∃ t, outE nz = t := ⟨_, rfl⟩
          rw [hXN, hXD, hXE] at cm ⊢
          clear hmk hvq
          generalize textI p = T1 at *
          generalize textI q = T2 at *
          have CM := Lib.hid cm
          clear cm f1 f2 hval hr1 hXN hXD hXE
          have VA := Lib.hid va; have VB := Lib.hid vb; have C1 := Lib.hid c1; have C2 := Lib.hid c2
          clear va vb c1 c2
          go_enter Tryz.func19, Tryz.ntmps19
          obtain ⟨⟨ca0, cb0, cc0, cd0⟩, ⟨ce0, cf0, cg0, ch0⟩, ⟨ci0, cj0, ck0, cl0⟩⟩ := HC.out _ (Below.refl _ _)
          go_wp2_with (rw [HW.out])
          refine (VA.out _).mono ?_
          rintro e w1 ⟨rfl, b1⟩
          have P1 := Lib.hid (below_up P0.out b1)
          obtain ⟨⟨ca1, cb1, cc1, cd1⟩, ⟨ce1, cf1, cg1, ch1⟩, ⟨ci1, cj1, ck1, cl1⟩⟩ := HC.out _ P1.out
          clear b1 P0 ca0 cb0 cc0 cd0 ce0 cf0 cg0 ch0 ci0 cj0 ck0 cl0 
          go_wp2_with fail
          refine (VB.out _).mono ?_
          rintro e w2 ⟨rfl, b2⟩
          have P2 := Lib.hid (below_up P1.out b2)
          obtain ⟨⟨ca2, cb2, cc2, cd2⟩, ⟨ce2, cf2, cg2, ch2⟩, ⟨ci2, cj2, ck2, cl2⟩⟩ := HC.out _ P2.out
          clear b2 P1 ca1 cb1 cc1 cd1 ce1 cf1 cg1 ch1 ci1 cj1 ck1 cl1 
          go_wp2_with fail
          refine (C1.out _).mono ?_
          rintro e w3 ⟨rfl, b3⟩
          have P3 := Lib.hid (below_up P2.out b3)
          obtain ⟨⟨ca3, cb3, cc3, cd3⟩, ⟨ce3, cf3, cg3, ch3⟩, ⟨ci3, cj3, ck3, cl3⟩⟩ := HC.out _ P3.out
          clear b3 P2 ca2 cb2 cc2 cd2 ce2 cf2 cg2 ch2 ci2 cj2 ck2 cl2 
          go_wp2_with fail
          refine (C2.out _).mono ?_
          rintro e w4 ⟨rfl, b4⟩
          have P4 := Lib.hid (below_up P3.out b4)
          obtain ⟨⟨ca4, cb4, cc4, cd4⟩, ⟨ce4, cf4, cg4, ch4⟩, ⟨ci4, cj4, ck4, cl4⟩⟩ := HC.out _ P4.out
          clear b4 P3 ca3 cb3 cc3 cd3 ce3 cf3 cg3 ch3 ci3 cj3 ck3 cl3 
          go_wp2_with fail
          refine (CM.out _).mono ?_
          rintro e w5 ⟨rfl, b5⟩
          have P5 := Lib.hid (below_up P4.out b5)
          obtain ⟨⟨ca5, cb5, cc5, cd5⟩, ⟨ce5, cf5, cg5, ch5⟩, ⟨ci5, cj5, ck5, cl5⟩⟩ := HC.out _ P5.out
          clear b5 P4 ca4 cb4 cc4 cd4 ce4 cf4 cg4 ch4 ci4 cj4 ck4 cl4 
          go_wp2_with fail
          refine bodyPost_ret (v := .tuple #[.agg #[.string XN, .string XD], .int .i64 XE]) (by simp [results, Tryz.results19, go_sem, ci5, cj5]) rfl ⟨rfl, rat_done B0.out (by omega) P5.out _ _⟩
set_option maxRecDepth 100000 in
set_option maxHeartbeats 4000000 in
theorem ofR4_any (n d : Int) (h1 : -9223372036854775808 ≤ n) (h2 : n ≤ 9223372036854775807) (h3 : -9223372036854775808 ≤ d) (h4 : d ≤ 9223372036854775807) (w : World) :
    Calls Tryz.prog 32 #[.int .i64 n, .int .i64 d] w fun e w' => e = .returned (.tuple #[.agg #[.string (outN (decide (d ≠ 0)) (Rat.divInt n d)), .string (outD (decide (d ≠ 0)) (Rat.divInt n d))], .int .i64 (outE (decide (d ≠ 0)))]) ∧ Below w.heap.size w w' := by
  obtain ⟨W0, hW0, b0, hcc⟩ := box_one w ⟨#[]⟩ ⟨#[]⟩
  have HW := Lib.hid hW0; have HC := Lib.hid hcc; have B0 := Lib.hid b0
  have P0 := Lib.hid (Below.refl W0.heap.size W0)
  clear hW0 hcc b0
  have fn : Fits n := Nat.lt_of_lt_of_le (show n.natAbs < 10 ^ 19 by omega) (Nat.pow_le_pow_right (by decide) (by decide))
  have fd : Fits d := Nat.lt_of_lt_of_le (show d.natAbs < 10 ^ 19 by omega) (Nat.pow_le_pow_right (by decide) (by decide))
  have ca := fun W => fromR_any n h1 h2 W
  have cb := fun W => fromR_any d h3 h4 W
  have cm := fun W => makeR4_any (textI n) (textI d) (le_of_fits fn) (le_of_fits fd) W
  have hmk : makeB (textI n) (textI d) = decide (d ≠ 0) := by
    unfold makeB
    rw [(valid_text fn).1, (valid_text fd).1, (valid_text fd).2, Bool.true_and, Bool.true_and]
  have hvq : valQ (textI n) (textI d) = Rat.divInt n d := by
    unfold valQ
    rw [(valid_text fn).2, (valid_text fd).2]
  rw [hmk, hvq] at cm
  obtain ⟨XN, hXN⟩ : ∃ t, outN (decide (d ≠ 0)) (Rat.divInt n d) = t := ⟨_, rfl⟩
  obtain ⟨XD, hXD⟩ : ∃ t, outD (decide (d ≠ 0)) (Rat.divInt n d) = t := ⟨_, rfl⟩
  obtain ⟨XE, hXE⟩ : ∃ t, outE (decide (d ≠ 0)) = t := ⟨_, rfl⟩
  rw [hXN, hXD, hXE] at cm ⊢
  generalize textI n = T1 at *
  generalize textI d = T2 at *
  have CA := Lib.hid ca; have CB := Lib.hid cb; have CM := Lib.hid cm
  clear ca cb cm hmk hvq hXN hXD hXE fn fd
  go_enter Tryz.func32, Tryz.ntmps32
  obtain ⟨ca0, cb0, cc0, cd0⟩ := HC.out _ (Below.refl _ _)
  go_wp2_with (rw [HW.out])
  refine (CA.out _).mono ?_
  rintro e w1 ⟨rfl, b1⟩
  have P1 := Lib.hid (below_up P0.out b1)
  obtain ⟨ca1, cb1, cc1, cd1⟩ := HC.out _ P1.out
  clear b1 P0 ca0 cb0 cc0 cd0 
  go_wp2_with fail
  refine (CB.out _).mono ?_
  rintro e w2 ⟨rfl, b2⟩
  have P2 := Lib.hid (below_up P1.out b2)
  obtain ⟨ca2, cb2, cc2, cd2⟩ := HC.out _ P2.out
  clear b2 P1 ca1 cb1 cc1 cd1 
  go_wp2_with fail
  refine (CM.out _).mono ?_
  rintro e w3 ⟨rfl, b3⟩
  have P3 := Lib.hid (below_up P2.out b3)
  obtain ⟨ca3, cb3, cc3, cd3⟩ := HC.out _ P3.out
  clear b3 P2 ca2 cb2 cc2 cd2 
  go_wp2_with fail
  refine bodyPost_ret (v := .tuple #[.agg #[.string XN, .string XD], .int .i64 XE]) (by simp [results, Tryz.results32, go_sem, ca3, cb3]) rfl ⟨rfl, rat_done B0.out (Nat.le_refl _) P3.out _ _⟩
end Go.Proofs.YtlcibnmcannapaaGreatDoor
