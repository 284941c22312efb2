/-
  The contracts of the reference's Make and Of.
-/
import Derived.Test.YtlcibnmcannapaaGreatDoorValidQ
import Derived.Test.YtlcibnmcannapaaGreatDoorRdiv
namespace Go.Proofs.YtlcibnmcannapaaGreatDoor
open Go Go.Proofs Go.RowKit Go.Lib

theorem text0Q : textI 0 = ⟨#[48]⟩ := by decide +kernel
theorem zero_eqQ {t : ByteArray} (h : validB t = true) : numB t = 0 ↔ t = ⟨#[48]⟩ := by
  constructor
  · intro e
    have := (text_valid h).2
    rw [e] at this
    exact this
  · rintro rfl
    decide +kernel
theorem reduce_num {n d : Int} (hd : 0 < d) : (Rat.divInt n d).num = n / gcdI n d ∧ ((Rat.divInt n d).den : Int) = d / gcdI n d := by
  have e : ((d.gcd n : Nat) : Int) = gcdI n d := by unfold gcdI; rw [Int.gcd, Nat.gcd_comm]
  constructor
  · rw [Rat.num_divInt, Int.sign_eq_one_of_pos hd, Int.one_mul, e]
  · rw [Rat.den_divInt, if_neg (by omega), ← e, Int.natCast_ediv]
    rw [show ((d.natAbs : Nat) : Int) = d by omega]
theorem gcd_posQ {n d : Int} (hd : 0 < d) : 0 < gcdI n d := by
  unfold gcdI
  have := Nat.gcd_pos_of_pos_right n.natAbs (show 0 < d.natAbs by omega)
  omega
theorem quot_fitsQ {x y : Int} (hx : Fits x) : (x / y).natAbs < 10 ^ 200 := Nat.lt_of_le_of_lt (Int.natAbs_ediv_le_natAbs x y) hx
/-- What the reference's Gcd and Div answer at texts of numbers that fit. -/
theorem gcd_texts {n d : Int} (hn : Fits n) (hd : Fits d) (hp : 0 < d) : opT gcdI (textI n) (textI d) = textI (gcdI n d) ∧ opZ gcdI (textI n) (textI d) = 0 ∧ Fits (gcdI n d) := by
  have hg : Fits (gcdI n d) := by
    unfold Fits gcdI at *
    have := Nat.le_of_dvd (by omega) (Nat.gcd_dvd_right n.natAbs d.natAbs)
    omega
  have hg' : (gcdI n d).natAbs < 10 ^ 200 := hg
  unfold opT opZ resT resZ
  rw [(valid_text hn).1, (valid_text hd).1, (valid_text hn).2, (valid_text hd).2, Bool.true_and, if_pos rfl, if_pos rfl, if_pos hg', if_pos hg']
  exact ⟨rfl, rfl, hg⟩
theorem div_texts {n g : Int} (hn : Fits n) (hg : Fits g) (h0 : g ≠ 0) : divQ (textI n) (textI g) = textI (n / g) ∧ divZ (textI n) (textI g) = 0 := by
  unfold divQ divZ resT resZ
  rw [(valid_text hn).1, (valid_text hg).1, (valid_text hn).2, (valid_text hg).2, decide_eq_true h0, Bool.true_and, Bool.true_and, if_pos rfl, if_pos rfl, if_pos (quot_fitsQ hn), if_pos (quot_fitsQ hn)]
  exact ⟨rfl, rfl⟩
theorem sub_zero_text {s : ByteArray} (h : validB s = true) : opT (· - ·) ⟨#[48]⟩ s = textI (-numB s) ∧ opZ (· - ·) ⟨#[48]⟩ s = 0 ∧ Fits (-numB s) := by
  have e : validB (⟨#[48]⟩ : ByteArray) = true ∧ numB ⟨#[48]⟩ = 0 := by decide +kernel
  have hf : Fits (-numB s) := by have := (text_valid h).1; unfold Fits at *; omega
  have hf' : (0 - numB s).natAbs < 10 ^ 200 := by rw [show 0 - numB s = -numB s by omega]; exact hf
  unfold opT opZ resT resZ
  rw [e.1, e.2, h, Bool.true_and, if_pos rfl, if_pos rfl]
  show (if (0 - numB s).natAbs < 10 ^ 200 then textI (0 - numB s) else ByteArray.empty) = _ ∧ _
  rw [if_pos hf', show 0 - numB s = -numB s by omega]
  refine ⟨rfl, ?_, hf⟩
  show (if (0 - numB s).natAbs < 10 ^ 200 then (0 : Int) else 30) = 0
  rw [if_pos hf']
theorem le_of_fits {x : Int} (h : Fits x) : (textI x).size ≤ 1099511627776 := by have := fits_size h; omega

set_option maxRecDepth 100000 in
set_option maxHeartbeats 4000000 in
theorem makeR4_any (s t : ByteArray) (hs : s.size ≤ 1099511627776) (ht : t.size ≤ 1099511627776) (w : World) :
    Calls Tryz.prog 28 #[.string s, .string t] w fun e w' => e = .returned (.tuple #[.agg #[.string (outN (makeB s t) (valQ s t)), .string (outD (makeB s t) (valQ s t))], .int .i64 (outE (makeB s t))]) ∧ Below w.heap.size w w' := by
  obtain ⟨W0, hW0, b0, hcc⟩ := box_one w ⟨#[]⟩ ⟨#[]⟩
  have va := fun W => valid_any s hs W
  have vb := fun W => valid_any t ht W
  have cm := fun W => cmpR_any t ⟨#[48]⟩ ht (by decide) W
  have cs := fun W => subR_any ⟨#[48]⟩ s (by decide) hs W
  have ct := fun W => subR_any ⟨#[48]⟩ t (by decide) ht W
  have HW := Lib.hid hW0; have HC := Lib.hid hcc; have B0 := Lib.hid b0
  have P0 := Lib.hid (Below.refl W0.heap.size W0)
  clear hW0 hcc b0
  cases h1 : validB s with
  | false =>
    have hv : makeB s t = false := by unfold makeB; rw [h1]; rfl
    rw [h1] at va
    rw [hv]
    have VA := Lib.hid va; have VB := Lib.hid vb
    clear va vb cm cs ct h1 hv
    go_enter Tryz.func28, Tryz.ntmps28
    obtain ⟨ca0, cb0, cc0, cd0⟩ := HC.out _ (Below.refl _ _)
    go_wp2_with (rw [HW.out])
    refine (VA.out _).mono ?_
    rintro e wq107 ⟨rfl, rfl⟩
    go_wp2_with fail
    refine (VB.out _).mono ?_
    rintro e wq110 ⟨rfl, rfl⟩
    go_wp2_with fail
    refine bodyPost_ret (v := .tuple #[.agg #[.string ⟨#[]⟩, .string ⟨#[]⟩], .int .i64 40]) (by simp [results, Tryz.results28, go_sem, ca0, cb0]) rfl ⟨rfl, rat_done B0.out (Nat.le_refl _) P0.out _ _⟩
  | true =>
    cases h2 : validB t with
    | false =>
      have hv : makeB s t = false := by unfold makeB; rw [h1, h2]; rfl
      rw [h1] at va
      rw [h2] at vb
      rw [hv]
      have VA := Lib.hid va; have VB := Lib.hid vb
      clear va vb cm cs ct h1 h2 hv
      go_enter Tryz.func28, Tryz.ntmps28
      obtain ⟨ca0, cb0, cc0, cd0⟩ := HC.out _ (Below.refl _ _)
      go_wp2_with (rw [HW.out])
      refine (VA.out _).mono ?_
      rintro e wq107 ⟨rfl, rfl⟩
      go_wp2_with fail
      refine (VB.out _).mono ?_
      rintro e wq110 ⟨rfl, rfl⟩
      go_wp2_with fail
      refine bodyPost_ret (v := .tuple #[.agg #[.string ⟨#[]⟩, .string ⟨#[]⟩], .int .i64 40]) (by simp [results, Tryz.results28, go_sem, ca0, cb0]) rfl ⟨rfl, rat_done B0.out (Nat.le_refl _) P0.out _ _⟩
    | true =>
      rw [h1] at va
      rw [h2] at vb
      have he1 : (t.toList == (⟨#[48]⟩ : ByteArray).toList) = decide (numB t = 0) := by rw [str_eq_iff]; exact decide_eq_decide.2 (zero_eqQ h2).symm
      have he2 : (t.toList == [48]) = decide (numB t = 0) := by rw [← list48]; exact he1
      by_cases h3 : numB t = 0
      · have hv : makeB s t = false := by unfold makeB; rw [h1, h2, decide_eq_false (by omega)]; rfl
        rw [decide_eq_true h3] at he1 he2
        rw [hv]
        have VA := Lib.hid va; have VB := Lib.hid vb
        clear va vb cm cs ct h1 h2 h3 hv
        go_enter Tryz.func28, Tryz.ntmps28
        obtain ⟨ca0, cb0, cc0, cd0⟩ := HC.out _ (Below.refl _ _)
        go_wp2_with (rw [HW.out])
        refine (VA.out _).mono ?_
        rintro e wq107 ⟨rfl, rfl⟩
        go_wp2_with fail
        refine (VB.out _).mono ?_
        rintro e wq110 ⟨rfl, rfl⟩
        go_wp2_with fail
        refine bodyPost_ret (v := .tuple #[.agg #[.string ⟨#[]⟩, .string ⟨#[]⟩], .int .i64 40]) (by simp [results, Tryz.results28, go_sem, ca0, cb0]) rfl ⟨rfl, rat_done B0.out (Nat.le_refl _) P0.out _ _⟩
      · have hv : makeB s t = true := by unfold makeB; rw [h1, h2, decide_eq_true h3]; rfl
        rw [decide_eq_false h3] at he1 he2
        rw [hv, cmp_zero h2] at *
        by_cases h4 : numB t < 0
        · obtain ⟨s1, s2, s3⟩ := sub_zero_text h1
          obtain ⟨t1, t2, t3⟩ := sub_zero_text h2
          rw [s1, s2] at cs
          rw [t1, t2] at ct
          have hval : valQ s t = Rat.divInt (-numB s) (-numB t) := by unfold valQ; rw [Rat.neg_divInt_neg]
          have hsg : decide (sgZ (numB t) 0 < 0) = true := by unfold sgZ; rw [if_pos h4]; rfl
          have hp : 0 < -numB t := by omega
          obtain ⟨n, hn⟩ : ∃ n, -numB s = n := ⟨_, rfl⟩
          obtain ⟨d, hd⟩ : ∃ n, -numB t = n := ⟨_, rfl⟩
          rw [hn] at s3 hval cs
          rw [hd] at t3 hval ct hp
          obtain ⟨g1, g2, g3⟩ := gcd_texts s3 t3 hp
          have gp := gcd_posQ (n := n) hp
          obtain ⟨q1, q2⟩ := div_texts s3 g3 (by omega)
          obtain ⟨q3, q4⟩ := div_texts t3 g3 (by omega)
          obtain ⟨e1, e2⟩ := reduce_num (n := n) hp
          have cg := fun W => gcdR_any (textI n) (textI d) (le_of_fits s3) (le_of_fits t3) W
          have dn := fun W => divR_any (textI n) (textI (gcdI n d)) (le_of_fits s3) (le_of_fits g3) W
          have dd := fun W => divR_any (textI d) (textI (gcdI n d)) (le_of_fits t3) (le_of_fits g3) W
          rw [g1, g2] at cg
          rw [q1, q2, ← e1] at dn
          rw [q3, q4, ← e2] at dd
          rw [hval]
          show Calls _ _ _ _ fun e w' => e = .returned (.tuple #[.agg #[.string (textI (Rat.divInt n d).num), .string (textI ((Rat.divInt n d).den : Int))], .int .i64 0]) ∧ _
          obtain ⟨TN, hTN⟩ : ∃ x, textI (Rat.divInt n d).num = x := ⟨_, rfl⟩
          obtain ⟨TD, hTD⟩ : ∃ x, textI ((Rat.divInt n d).den : Int) = x := ⟨_, rfl⟩
          obtain ⟨G, hG⟩ : ∃ x, textI (gcdI n d) = x := ⟨_, rfl⟩
          obtain ⟨R1, hR1⟩ : ∃ x, divR (textI n) (textI (gcdI n d)) = x := ⟨_, rfl⟩
          obtain ⟨R2, hR2⟩ : ∃ x, divR (textI d) (textI (gcdI n d)) = x := ⟨_, rfl⟩
          rw [hR1, hTN] at dn
          rw [hR2, hTD] at dd
          rw [hG] at cg dn dd
          rw [hTN, hTD]
          clear g1 g2 g3 gp q1 q2 q3 q4 e1 e2 hTN hTD hG hR1 hR2
          have CG := Lib.hid cg; have DN := Lib.hid dn; have DD := Lib.hid dd
          clear cg dn dd
          generalize sgZ (numB t) 0 = z at *
          have VA := Lib.hid va; have VB := Lib.hid vb; have CM := Lib.hid cm; have CS := Lib.hid cs; have CT := Lib.hid ct
          clear va vb cm cs ct h1 h2 h3 h4 hv s1 s2 t1 t2 hn hd hval hs ht s3 t3 hp
          go_enter Tryz.func28, Tryz.ntmps28
          obtain ⟨ca0, cb0, cc0, cd0⟩ := HC.out _ (Below.refl _ _)
          go_wp2_with (rw [HW.out])
          refine (VA.out _).mono ?_
          rintro e wq104 ⟨rfl, rfl⟩
          go_wp2_with fail
          refine (VB.out _).mono ?_
          rintro e wq107 ⟨rfl, rfl⟩
          go_wp2_with fail
          refine (CM.out _).mono ?_
          rintro e w1 ⟨rfl, b1⟩
          have P1 := Lib.hid (below_up P0.out b1)
          obtain ⟨ca1, cb1, cc1, cd1⟩ := HC.out _ P1.out
          clear b1 P0 ca0 cb0 cc0 cd0 
          go_wp2_with fail
          refine (CS.out _).mono ?_
          rintro e w2 ⟨rfl, b2⟩
          have P2 := Lib.hid (below_up P1.out b2)
          obtain ⟨ca2, cb2, cc2, cd2⟩ := HC.out _ P2.out
          clear b2 P1 ca1 cb1 cc1 cd1 
          go_wp2_with fail
          refine (CT.out _).mono ?_
          rintro e w3 ⟨rfl, b3⟩
          have P3 := Lib.hid (below_up P2.out b3)
          obtain ⟨ca3, cb3, cc3, cd3⟩ := HC.out _ P3.out
          clear b3 P2 ca2 cb2 cc2 cd2 
          go_wp2_with fail
          refine (CG.out _).mono ?_
          rintro e w4 ⟨rfl, b4⟩
          have P4 := Lib.hid (below_up P3.out b4)
          obtain ⟨ca4, cb4, cc4, cd4⟩ := HC.out _ P4.out
          clear b4 P3 ca3 cb3 cc3 cd3 
          go_wp2_with fail
          refine (DN.out _).mono ?_
          rintro e w5 ⟨rfl, b5⟩
          have P5 := Lib.hid (below_up P4.out b5)
          obtain ⟨ca5, cb5, cc5, cd5⟩ := HC.out _ P5.out
          clear b5 P4 ca4 cb4 cc4 cd4 
          go_wp2_with fail
          refine (DD.out _).mono ?_
          rintro e w6 ⟨rfl, b6⟩
          have P6 := Lib.hid (below_up P5.out b6)
          obtain ⟨ca6, cb6, cc6, cd6⟩ := HC.out _ P6.out
          clear b6 P5 ca5 cb5 cc5 cd5 
          go_wp2_with fail
          refine bodyPost_ret (v := .tuple #[.agg #[.string TN, .string TD], .int .i64 0]) (by simp [results, Tryz.results28, go_sem, ca6, cb6]) rfl ⟨rfl, rat_done B0.out (Nat.le_refl _) P6.out _ _⟩
        · have hval : valQ s t = Rat.divInt (numB s) (numB t) := rfl
          have hsg : decide (sgZ (numB t) 0 < 0) = false := by unfold sgZ; rw [if_neg h4, if_pos (by omega)]; rfl
          have hp : 0 < numB t := by omega
          obtain ⟨s3, s4⟩ := text_valid h1
          obtain ⟨t3, t4⟩ := text_valid h2
          obtain ⟨n, hn⟩ : ∃ n, numB s = n := ⟨_, rfl⟩
          obtain ⟨d, hd⟩ : ∃ n, numB t = n := ⟨_, rfl⟩
          rw [hn] at s3 s4 hval
          rw [hd] at t3 t4 hval hp
          obtain ⟨g1, g2, g3⟩ := gcd_texts s3 t3 hp
          have gp := gcd_posQ (n := n) hp
          obtain ⟨q1, q2⟩ := div_texts s3 g3 (by omega)
          obtain ⟨q3, q4⟩ := div_texts t3 g3 (by omega)
          obtain ⟨e1, e2⟩ := reduce_num (n := n) hp
          have cg := fun W => gcdR_any (textI n) (textI d) (le_of_fits s3) (le_of_fits t3) W
          have dn := fun W => divR_any (textI n) (textI (gcdI n d)) (le_of_fits s3) (le_of_fits g3) W
          have dd := fun W => divR_any (textI d) (textI (gcdI n d)) (le_of_fits t3) (le_of_fits g3) W
          rw [g1, g2] at cg
          rw [q1, q2, ← e1] at dn
          rw [q3, q4, ← e2] at dd
          rw [hval]
          show Calls _ _ _ _ fun e w' => e = .returned (.tuple #[.agg #[.string (textI (Rat.divInt n d).num), .string (textI ((Rat.divInt n d).den : Int))], .int .i64 0]) ∧ _
          obtain ⟨TN, hTN⟩ : ∃ x, textI (Rat.divInt n d).num = x := ⟨_, rfl⟩
          obtain ⟨TD, hTD⟩ : ∃ x, textI ((Rat.divInt n d).den : Int) = x := ⟨_, rfl⟩
          obtain ⟨G, hG⟩ : ∃ x, textI (gcdI n d) = x := ⟨_, rfl⟩
          obtain ⟨R1, hR1⟩ : ∃ x, divR (textI n) (textI (gcdI n d)) = x := ⟨_, rfl⟩
          obtain ⟨R2, hR2⟩ : ∃ x, divR (textI d) (textI (gcdI n d)) = x := ⟨_, rfl⟩
          rw [hR1, hTN] at dn
          rw [hR2, hTD] at dd
          rw [hG] at cg dn dd
          rw [hTN, hTD]
          clear g1 g2 g3 gp q1 q2 q3 q4 e1 e2 hTN hTD hG hR1 hR2
          rw [hd] at cm hsg
          rw [← s4] at cg dn
          rw [← t4] at cg dd
          have CG := Lib.hid cg; have DN := Lib.hid dn; have DD := Lib.hid dd
          clear cg dn dd
          generalize sgZ d 0 = z at *
          have VA := Lib.hid va; have VB := Lib.hid vb; have CM := Lib.hid cm
          clear va vb cm cs ct h1 h2 h3 h4 hv hn hd hval hs ht s3 t3 hp s4 t4
          go_enter Tryz.func28, Tryz.ntmps28
          obtain ⟨ca0, cb0, cc0, cd0⟩ := HC.out _ (Below.refl _ _)
          go_wp2_with (rw [HW.out])
          refine (VA.out _).mono ?_
          rintro e wq104 ⟨rfl, rfl⟩
          go_wp2_with fail
          refine (VB.out _).mono ?_
          rintro e wq107 ⟨rfl, rfl⟩
          go_wp2_with fail
          refine (CM.out _).mono ?_
          rintro e w1 ⟨rfl, b1⟩
          have P1 := Lib.hid (below_up P0.out b1)
          obtain ⟨ca1, cb1, cc1, cd1⟩ := HC.out _ P1.out
          clear b1 P0 ca0 cb0 cc0 cd0 
          go_wp2_with fail
          refine (CG.out _).mono ?_
          rintro e w2 ⟨rfl, b2⟩
          have P2 := Lib.hid (below_up P1.out b2)
          obtain ⟨ca2, cb2, cc2, cd2⟩ := HC.out _ P2.out
          clear b2 P1 ca1 cb1 cc1 cd1 
          go_wp2_with fail
          refine (DN.out _).mono ?_
          rintro e w3 ⟨rfl, b3⟩
          have P3 := Lib.hid (below_up P2.out b3)
          obtain ⟨ca3, cb3, cc3, cd3⟩ := HC.out _ P3.out
          clear b3 P2 ca2 cb2 cc2 cd2 
          go_wp2_with fail
          refine (DD.out _).mono ?_
          rintro e w4 ⟨rfl, b4⟩
          have P4 := Lib.hid (below_up P3.out b4)
          obtain ⟨ca4, cb4, cc4, cd4⟩ := HC.out _ P4.out
          clear b4 P3 ca3 cb3 cc3 cd3 
          go_wp2_with fail
          refine bodyPost_ret (v := .tuple #[.agg #[.string TN, .string TD], .int .i64 0]) (by simp [results, Tryz.results28, go_sem, ca4, cb4]) rfl ⟨rfl, rat_done B0.out (Nat.le_refl _) P4.out _ _⟩
end Go.Proofs.YtlcibnmcannapaaGreatDoor
