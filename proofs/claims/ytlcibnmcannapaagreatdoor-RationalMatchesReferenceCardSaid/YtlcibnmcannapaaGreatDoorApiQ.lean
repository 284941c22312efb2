/-
  The contracts of the program's Valid, Make, Of and combine.
-/
import Derived.Test.YtlcibnmcannapaaGreatDoorStepQ
import Derived.Test.YtlcibnmcannapaaGreatDoorProdQ
namespace Go.Proofs.YtlcibnmcannapaaGreatDoor
open Go Go.Proofs Go.RowKit Go.Lib

set_option maxRecDepth 100000 in
set_option maxHeartbeats 8000000 in
theorem valid_q (n d : ByteArray) (hn : n.size ≤ 1099511627776) (hd : d.size ≤ 1099511627776) (w : World) (hR : Ready w) :
    Calls Tryz.prog 29 #[.agg #[.string n, .string d]] w fun e w' => e = .returned (.bool (validQ n d)) ∧ Below w.heap.size w w' := by
  obtain ⟨W0, hW0, b0, hcc⟩ := box_one w n d
  have HW := Lib.hid hW0; have HC := Lib.hid hcc; have B0 := Lib.hid b0
  have HR := Lib.hid (hR.below b0)
  have P0 := Lib.hid (Below.refl W0.heap.size W0)
  clear hW0 hcc b0
  clear hR
  have cg := fun W (h : Ready W) => gcd_i n d hn hd W h
  have cm := fun W (h : Ready W) => cmp_i d ⟨#[48]⟩ hd (by decide) W h
  rcases opZ_cases gcdI n d with hz | hz
  · obtain ⟨v1, v2, _⟩ := (opZ_iff gcdI n d).1 hz
    have hgt := (gcd_one v1 v2).2
    rw [hz] at cg
    rw [cmp_zero v2] at cm
    have hge : ((opT gcdI n d).toList == (⟨#[49]⟩ : ByteArray).toList) = decide (opT gcdI n d = ⟨#[49]⟩) := by rw [str_eq_iff]
    rw [list49] at hge
    by_cases hg : opT gcdI n d = ⟨#[49]⟩
    · rw [decide_eq_true hg] at hge
      have hv : validQ n d = decide (0 < numB d) := by
        unfold validQ
        rw [v1, v2, decide_eq_true (hgt.1 hg), Bool.and_true, Bool.true_and, Bool.true_and]
      rw [hv]
      generalize opT gcdI n d = G at *
      clear hv hgt v1 v2 hg hz
      rcases Int.lt_trichotomy (numB d) 0 with h3 | h3 | h3
      · rw [sgZ_lt h3] at cm
        rw [decide_eq_false (by omega)]
        have CG := Lib.hid cg; have CM := Lib.hid cm
        clear cg cm h3
        go_enter Tryz.func29, Tryz.ntmps29
        obtain ⟨ca0, cb0, cc0, cd0⟩ := HC.out _ (Below.refl _ _)
        go_wp2_with (rw [HW.out])
        refine (CG.out _ (HR.out.below P0.out)).mono ?_
        rintro e w1 ⟨rfl, b1⟩
        have P1 := Lib.hid (below_up P0.out b1)
        obtain ⟨ca1, cb1, cc1, cd1⟩ := HC.out _ P1.out
        clear b1 P0 ca0 cb0 cc0 cd0 
        go_wp2_with fail
        refine (CM.out _ (HR.out.below P1.out)).mono ?_
        rintro e w2 ⟨rfl, b2⟩
        have P2 := Lib.hid (below_up P1.out b2)
        obtain ⟨ca2, cb2, cc2, cd2⟩ := HC.out _ P2.out
        clear b2 P1 ca1 cb1 cc1 cd1 
        go_wp2
        go_ret
        exact ⟨rfl, below_up B0.out P2.out⟩
      · rw [show sgZ (numB d) 0 = 0 by rw [h3]; rfl] at cm
        rw [decide_eq_false (by omega)]
        have CG := Lib.hid cg; have CM := Lib.hid cm
        clear cg cm h3
        go_enter Tryz.func29, Tryz.ntmps29
        obtain ⟨ca0, cb0, cc0, cd0⟩ := HC.out _ (Below.refl _ _)
        go_wp2_with (rw [HW.out])
        refine (CG.out _ (HR.out.below P0.out)).mono ?_
        rintro e w1 ⟨rfl, b1⟩
        have P1 := Lib.hid (below_up P0.out b1)
        obtain ⟨ca1, cb1, cc1, cd1⟩ := HC.out _ P1.out
        clear b1 P0 ca0 cb0 cc0 cd0 
        go_wp2_with fail
        refine (CM.out _ (HR.out.below P1.out)).mono ?_
        rintro e w2 ⟨rfl, b2⟩
        have P2 := Lib.hid (below_up P1.out b2)
        obtain ⟨ca2, cb2, cc2, cd2⟩ := HC.out _ P2.out
        clear b2 P1 ca1 cb1 cc1 cd1 
        go_wp2
        go_ret
        exact ⟨rfl, below_up B0.out P2.out⟩
      · rw [sgZ_gt h3] at cm
        rw [decide_eq_true (by omega)]
        have CG := Lib.hid cg; have CM := Lib.hid cm
        clear cg cm h3
        go_enter Tryz.func29, Tryz.ntmps29
        obtain ⟨ca0, cb0, cc0, cd0⟩ := HC.out _ (Below.refl _ _)
        go_wp2_with (rw [HW.out])
        refine (CG.out _ (HR.out.below P0.out)).mono ?_
        rintro e w1 ⟨rfl, b1⟩
        have P1 := Lib.hid (below_up P0.out b1)
        obtain ⟨ca1, cb1, cc1, cd1⟩ := HC.out _ P1.out
        clear b1 P0 ca0 cb0 cc0 cd0 
        go_wp2_with fail
        refine (CM.out _ (HR.out.below P1.out)).mono ?_
        rintro e w2 ⟨rfl, b2⟩
        have P2 := Lib.hid (below_up P1.out b2)
        obtain ⟨ca2, cb2, cc2, cd2⟩ := HC.out _ P2.out
        clear b2 P1 ca1 cb1 cc1 cd1 
        go_wp2
        go_ret
        exact ⟨rfl, below_up B0.out P2.out⟩
    · rw [decide_eq_false hg] at hge
      have hv : validQ n d = false := by
        unfold validQ
        rw [decide_eq_false (fun h => hg (hgt.2 h)), Bool.and_false, Bool.and_false, Bool.and_false]
      rw [hv]
      generalize opT gcdI n d = G at *
      clear hv hgt v1 v2 hg hz cm
      have CG := Lib.hid cg
      clear cg
      go_enter Tryz.func29, Tryz.ntmps29
      obtain ⟨ca0, cb0, cc0, cd0⟩ := HC.out _ (Below.refl _ _)
      go_wp2_with (rw [HW.out])
      refine (CG.out _ (HR.out.below P0.out)).mono ?_
      rintro e w1 ⟨rfl, b1⟩
      have P1 := Lib.hid (below_up P0.out b1)
      obtain ⟨ca1, cb1, cc1, cd1⟩ := HC.out _ P1.out
      clear b1 P0 ca0 cb0 cc0 cd0 
      go_wp2
      go_ret
      exact ⟨rfl, below_up B0.out P1.out⟩
  · have hv : validQ n d = false := by
      rw [Bool.eq_false_iff]
      intro h
      have h2 := validQ_parts h
      have := (gcd_one h2.1 h2.2.1).1
      omega
    rw [hv]
    rw [hz] at cg
    generalize opT gcdI n d = G at *
    clear hv hz cm
    have CG := Lib.hid cg
    clear cg
    go_enter Tryz.func29, Tryz.ntmps29
    obtain ⟨ca0, cb0, cc0, cd0⟩ := HC.out _ (Below.refl _ _)
    go_wp2_with (rw [HW.out])
    refine (CG.out _ (HR.out.below P0.out)).mono ?_
    rintro e w1 ⟨rfl, b1⟩
    have P1 := Lib.hid (below_up P0.out b1)
    obtain ⟨ca1, cb1, cc1, cd1⟩ := HC.out _ P1.out
    clear b1 P0 ca0 cb0 cc0 cd0 
    go_wp2
    go_ret
    exact ⟨rfl, below_up B0.out P1.out⟩
theorem buildQ_any (s t : ByteArray) (hs : s.size ≤ 1099511627776) (ht : t.size ≤ 1099511627776) (v : Value) (vals : List Value) (fs : List StepF) (hl : vals.length ≤ 1000) (O : Option (ByteArray × ByteArray)) (hO : chain (fs ++ [unsF, lowF]) s t = O) (w : World) (hR : Ready w) (hv : StepsAt w v vals) (hf : StepsIs w vals fs) :
    Calls Tryz.prog 59 #[.string s, .string t, v] w fun e w' => e = .returned (.tuple #[.agg #[.string (pairN O), .string (pairD O)], .int .i64 (pairE O)]) ∧ Below w.heap.size w w' := by
  have := build_any s t hs ht v vals fs w hv hf hl (unsigned_is w hR) (lowest_is w hR)
  rw [hO] at this
  exact this
set_option maxRecDepth 100000 in
set_option maxHeartbeats 8000000 in
theorem make_q (s t : ByteArray) (hs : s.size ≤ 1099511627776) (ht : t.size ≤ 1099511627776) (w : World) (hR : Ready w) :
    Calls Tryz.prog 27 #[.string s, .string t] w fun e w' => e = .returned (.tuple #[.agg #[.string (outN (makeB s t) (valQ s t)), .string (outD (makeB s t) (valQ s t))], .int .i64 (outE (makeB s t))]) ∧ Below w.heap.size w w' := by
  obtain ⟨W0, hW0, b0, hcc⟩ := box_one w ⟨#[]⟩ ⟨#[]⟩
  have HW := Lib.hid hW0; have HC := Lib.hid hcc; have B0 := Lib.hid b0
  have HR := Lib.hid (hR.below b0)
  have P0 := Lib.hid (Below.refl W0.heap.size W0)
  clear hW0 hcc b0
  clear hR
  have cb := fun W (h : Ready W) => buildQ_any s t hs ht (.slice none 0 0) [] [] (by decide) _ (chain_make s t) W h (.inl ⟨rfl, rfl⟩) trivial
  obtain ⟨p1, p2, p3⟩ := pair_out (makeB s t) (valQ s t)
  rw [p1, p2, p3] at cb
  clear p1 p2 p3
  generalize outN (makeB s t) (valQ s t) = XN at *
  generalize outD (makeB s t) (valQ s t) = XD at *
  generalize outE (makeB s t) = XE at *
  have CB := Lib.hid cb
  clear cb hs ht
  go_enter Tryz.func27, Tryz.ntmps27
  obtain ⟨ca0, cb0, cc0, cd0⟩ := HC.out _ (Below.refl _ _)
  go_wp2_with (rw [HW.out])
  refine (CB.out _ (HR.out.below P0.out)).mono ?_
  rintro e w1 ⟨rfl, b1⟩
  have P1 := Lib.hid (below_up P0.out b1)
  obtain ⟨ca1, cb1, cc1, cd1⟩ := HC.out _ P1.out
  clear b1 P0 ca0 cb0 cc0 cd0 
  go_wp2_with fail
  exact bodyPost_ret (v := .tuple #[.agg #[.string XN, .string XD], .int .i64 XE]) (by simp [results, Tryz.results27, go_sem, ca1, cb1]) rfl ⟨rfl, rat_done B0.out (Nat.le_refl _) P1.out _ _⟩
set_option maxRecDepth 100000 in
set_option maxHeartbeats 8000000 in
theorem of_q (n d : Int) (h1 : -9223372036854775808 ≤ n) (h2 : n ≤ 9223372036854775807) (h3 : -9223372036854775808 ≤ d) (h4 : d ≤ 9223372036854775807) (w : World) (hR : Ready w) :
    Calls Tryz.prog 31 #[.int .i64 n, .int .i64 d] w fun e w' => e = .returned (.tuple #[.agg #[.string (outN (decide (d ≠ 0)) (Rat.divInt n d)), .string (outD (decide (d ≠ 0)) (Rat.divInt n d))], .int .i64 (outE (decide (d ≠ 0)))]) ∧ Below w.heap.size w w' := by
  obtain ⟨W0, hW0, b0, hcc⟩ := box_one w ⟨#[]⟩ ⟨#[]⟩
  have HW := Lib.hid hW0; have HC := Lib.hid hcc; have B0 := Lib.hid b0
  have HR := Lib.hid (hR.below b0)
  have P0 := Lib.hid (Below.refl W0.heap.size W0)
  clear hW0 hcc b0
  clear hR
  have fn : Fits n := Nat.lt_of_lt_of_le (show n.natAbs < 10 ^ 19 by omega) (Nat.pow_le_pow_right (by decide) (by decide))
  have fd : Fits d := Nat.lt_of_lt_of_le (show d.natAbs < 10 ^ 19 by omega) (Nat.pow_le_pow_right (by decide) (by decide))
  have ca := fun W (h : Ready W) => from_i n h1 h2 W h
  have cb := fun W (h : Ready W) => from_i d h3 h4 W h
  have cm := fun W (h : Ready W) => make_q (textI n) (textI d) (le_of_fits fn) (le_of_fits fd) W h
  have hmk : makeB (textI n) (textI d) = decide (d ≠ 0) := by
    unfold makeB
    rw [(valid_text fn).1, (valid_text fd).1, (valid_text fd).2, Bool.true_and, Bool.true_and]
  have hvq : valQ (textI n) (textI d) = Rat.divInt n d := by
    unfold valQ
    rw [(valid_text fn).2, (valid_text fd).2]
  rw [hmk, hvq] at cm
  obtain ⟨XN, hXN⟩ : ∃ t, outN (decide (d ≠ 0)) (Rat.divInt n d) = t := ⟨_, rfl⟩
  obtain ⟨XD, hXD⟩ : ∃ t, outD (decide (d ≠ 0)) (Rat.divInt n d) = t := ⟨_, rfl⟩
  obtain ⟨XE, hXE⟩ : ∃ t, outE (decide (d ≠ 0)) = t := ⟨_, rfl⟩
  rw [hXN, hXD, hXE] at cm ⊢
  generalize textI n = T1 at *
  generalize textI d = T2 at *
  have CA := Lib.hid ca; have CB := Lib.hid cb; have CM := Lib.hid cm
  clear ca cb cm hmk hvq hXN hXD hXE fn fd
  go_enter Tryz.func31, Tryz.ntmps31
  obtain ⟨ca0, cb0, cc0, cd0⟩ := HC.out _ (Below.refl _ _)
  go_wp2_with (rw [HW.out])
  refine (CA.out _ (HR.out.below P0.out)).mono ?_
  rintro e w1 ⟨rfl, b1⟩
  have P1 := Lib.hid (below_up P0.out b1)
  obtain ⟨ca1, cb1, cc1, cd1⟩ := HC.out _ P1.out
  clear b1 P0 ca0 cb0 cc0 cd0 
  go_wp2_with fail
  refine (CB.out _ (HR.out.below P1.out)).mono ?_
  rintro e w2 ⟨rfl, b2⟩
  have P2 := Lib.hid (below_up P1.out b2)
  obtain ⟨ca2, cb2, cc2, cd2⟩ := HC.out _ P2.out
  clear b2 P1 ca1 cb1 cc1 cd1 
  go_wp2_with fail
  refine (CM.out _ (HR.out.below P2.out)).mono ?_
  rintro e w3 ⟨rfl, b3⟩
  have P3 := Lib.hid (below_up P2.out b3)
  obtain ⟨ca3, cb3, cc3, cd3⟩ := HC.out _ P3.out
  clear b3 P2 ca2 cb2 cc2 cd2 
  go_wp2_with fail
  exact bodyPost_ret (v := .tuple #[.agg #[.string XN, .string XD], .int .i64 XE]) (by simp [results, Tryz.results31, go_sem, ca3, cb3]) rfl ⟨rfl, rat_done B0.out (Nat.le_refl _) P3.out _ _⟩
set_option maxRecDepth 100000 in
set_option maxHeartbeats 8000000 in
theorem combine_any (an ad bn bd : ByteArray) (h1 : an.size ≤ 1099511627776) (h2 : ad.size ≤ 1099511627776) (h3 : bn.size ≤ 1099511627776) (h4 : bd.size ≤ 1099511627776) (v : Value) (vals : List Value) (fs : List StepF) (hl : vals.length ≤ 1000) (O : Option (ByteArray × ByteArray)) (hO : (if bothB an ad bn bd then chain (fs ++ [unsF, lowF]) an ad else none) = O) (w : World) (hR : Ready w) (hv : StepsAt w v vals) (hf : StepsIs w vals fs) :
    Calls Tryz.prog 66 #[.agg #[.string an, .string ad], .agg #[.string bn, .string bd], v] w fun e w' => e = .returned (.tuple #[.agg #[.string (pairN O), .string (pairD O)], .int .i64 (pairE O)]) ∧ Below w.heap.size w w' := by
  obtain ⟨W0, hW0, b0, hcc⟩ := box_three w an ad bn bd ⟨#[]⟩ ⟨#[]⟩
  have HW := Lib.hid hW0; have HC := Lib.hid hcc; have B0 := Lib.hid b0
  have HR := Lib.hid (hR.below b0)
  have P0 := Lib.hid (Below.refl W0.heap.size W0)
  clear hW0 hcc b0
  clear hR
  have va := fun W (h : Ready W) => valid_q an ad h1 h2 W h
  have vb := fun W (h : Ready W) => valid_q bn bd h3 h4 W h
  have HVV := Lib.hid (fun W (b : Below W0.heap.size W0 W) => hv.below (below_up B0.out b))
  have HFF := Lib.hid (fun W (b : Below W0.heap.size W0 W) => hf.below (below_up B0.out b))
  clear hv hf
  unfold bothB at hO
  cases e1 : validQ an ad with
  | false =>
    rw [e1] at hO va
    subst hO
    have VA := Lib.hid va; have VB := Lib.hid vb
    clear va vb e1
    go_enter Tryz.func66, Tryz.ntmps66
    obtain ⟨⟨ca0, cb0, cc0, cd0⟩, ⟨ce0, cf0, cg0, ch0⟩, ⟨ci0, cj0, ck0, cl0⟩⟩ := HC.out _ (Below.refl _ _)
    go_wp2_with (rw [HW.out])
    refine (VA.out _ (HR.out.below P0.out)).mono ?_
    rintro e w1 ⟨rfl, b1⟩
    have P1 := Lib.hid (below_up P0.out b1)
    obtain ⟨⟨ca1, cb1, cc1, cd1⟩, ⟨ce1, cf1, cg1, ch1⟩, ⟨ci1, cj1, ck1, cl1⟩⟩ := HC.out _ P1.out
    clear b1 P0 ca0 cb0 cc0 cd0 ce0 cf0 cg0 ch0 ci0 cj0 ck0 cl0 
    go_wp2_with fail
    exact bodyPost_ret (v := .tuple #[.agg #[.string ⟨#[]⟩, .string ⟨#[]⟩], .int .i64 40]) (by simp [results, Tryz.results66, go_sem, ci1, cj1]) rfl ⟨rfl, rat_done B0.out (by omega) P1.out _ _⟩
  | true =>
    rw [e1, Bool.true_and] at hO
    rw [e1] at va
    cases e2 : validQ bn bd with
    | false =>
      rw [e2] at hO vb
      subst hO
      have VA := Lib.hid va; have VB := Lib.hid vb
      clear va vb e1 e2
      go_enter Tryz.func66, Tryz.ntmps66
      obtain ⟨⟨ca0, cb0, cc0, cd0⟩, ⟨ce0, cf0, cg0, ch0⟩, ⟨ci0, cj0, ck0, cl0⟩⟩ := HC.out _ (Below.refl _ _)
      go_wp2_with (rw [HW.out])
      refine (VA.out _ (HR.out.below P0.out)).mono ?_
      rintro e w1 ⟨rfl, b1⟩
      have P1 := Lib.hid (below_up P0.out b1)
      obtain ⟨⟨ca1, cb1, cc1, cd1⟩, ⟨ce1, cf1, cg1, ch1⟩, ⟨ci1, cj1, ck1, cl1⟩⟩ := HC.out _ P1.out
      clear b1 P0 ca0 cb0 cc0 cd0 ce0 cf0 cg0 ch0 ci0 cj0 ck0 cl0 
      go_wp2_with fail
      refine (VB.out _ (HR.out.below P1.out)).mono ?_
      rintro e w2 ⟨rfl, b2⟩
      have P2 := Lib.hid (below_up P1.out b2)
      obtain ⟨⟨ca2, cb2, cc2, cd2⟩, ⟨ce2, cf2, cg2, ch2⟩, ⟨ci2, cj2, ck2, cl2⟩⟩ := HC.out _ P2.out
      clear b2 P1 ca1 cb1 cc1 cd1 ce1 cf1 cg1 ch1 ci1 cj1 ck1 cl1 
      go_wp2_with fail
      exact bodyPost_ret (v := .tuple #[.agg #[.string ⟨#[]⟩, .string ⟨#[]⟩], .int .i64 40]) (by simp [results, Tryz.results66, go_sem, ci2, cj2]) rfl ⟨rfl, rat_done B0.out (by omega) P2.out _ _⟩
    | true =>
      rw [e2, if_pos rfl] at hO
      rw [e2] at vb
      have cb := fun W (h : Ready W) (b : Below W0.heap.size W0 W) => buildQ_any an ad h1 h2 v vals fs hl O hO W h (HVV.out W b) (HFF.out W b)
      generalize pairN O = XN at *
      generalize pairD O = XD at *
      generalize pairE O = XE at *
      have VA := Lib.hid va; have VB := Lib.hid vb; have CB := Lib.hid cb
      clear va vb cb e1 e2 hO hl
      go_enter Tryz.func66, Tryz.ntmps66
      obtain ⟨⟨ca0, cb0, cc0, cd0⟩, ⟨ce0, cf0, cg0, ch0⟩, ⟨ci0, cj0, ck0, cl0⟩⟩ := HC.out _ (Below.refl _ _)
      go_wp2_with (rw [HW.out])
      refine (VA.out _ (HR.out.below P0.out)).mono ?_
      rintro e w1 ⟨rfl, b1⟩
      have P1 := Lib.hid (below_up P0.out b1)
      obtain ⟨⟨ca1, cb1, cc1, cd1⟩, ⟨ce1, cf1, cg1, ch1⟩, ⟨ci1, cj1, ck1, cl1⟩⟩ := HC.out _ P1.out
      clear b1 P0 ca0 cb0 cc0 cd0 ce0 cf0 cg0 ch0 ci0 cj0 ck0 cl0 
      go_wp2_with fail
      refine (VB.out _ (HR.out.below P1.out)).mono ?_
      rintro e w2 ⟨rfl, b2⟩
      have P2 := Lib.hid (below_up P1.out b2)
      obtain ⟨⟨ca2, cb2, cc2, cd2⟩, ⟨ce2, cf2, cg2, ch2⟩, ⟨ci2, cj2, ck2, cl2⟩⟩ := HC.out _ P2.out
      clear b2 P1 ca1 cb1 cc1 cd1 ce1 cf1 cg1 ch1 ci1 cj1 ck1 cl1 
      go_wp2_with fail
      refine (CB.out _ (HR.out.below P2.out) P2.out).mono ?_
      rintro e w3 ⟨rfl, b3⟩
      have P3 := Lib.hid (below_up P2.out b3)
      obtain ⟨⟨ca3, cb3, cc3, cd3⟩, ⟨ce3, cf3, cg3, ch3⟩, ⟨ci3, cj3, ck3, cl3⟩⟩ := HC.out _ P3.out
      clear b3 P2 ca2 cb2 cc2 cd2 ce2 cf2 cg2 ch2 ci2 cj2 ck2 cl2 
      go_wp2_with fail
      exact bodyPost_ret (v := .tuple #[.agg #[.string XN, .string XD], .int .i64 XE]) (by simp [results, Tryz.results66, go_sem, ci3, cj3]) rfl ⟨rfl, rat_done B0.out (by omega) P3.out _ _⟩
end Go.Proofs.YtlcibnmcannapaaGreatDoor
