/-
  IntegerLimits returns true for all arguments: the walk.
-/
import Derived.Test.YtildgpahacaglaaDoorLimA
namespace Go.Proofs.YtildgpahacaglaaDoor
open Go Go.Proofs Go.RowKit Go.Lib

theorem one_fit {m : Nat} (h1 : 1 ≤ m) (h2 : m < 200) (w : World) (hR : Ready w) :
    Calls Tryd.prog 14 #[.string (ninesT m), .string ⟨#[49]⟩] w fun e w' => e = .returned (.tuple #[.string (textI ((10 ^ m : Nat) : Int)), .int .i64 0]) ∧ Below w.heap.size w w' := by
  have hp := pow10 h1
  have hlt : 10 ^ m < 10 ^ 200 := Nat.pow_lt_pow_right (by decide) h2
  have f1 : Fits ((10 ^ m - 1 : Nat) : Int) := by unfold Fits; rw [Int.natAbs_natCast]; omega
  have f2 : Fits ((10 ^ m : Nat) : Int) := by unfold Fits; rw [Int.natAbs_natCast]; exact hlt
  have e : ((10 ^ m - 1 : Nat) : Int) + 1 = ((10 ^ m : Nat) : Int) := by omega
  have c := add_fit f1 fits1 (by rw [e]; exact f2) w hR
  rw [e, text1, ← nines_text h1] at c
  exact c
theorem one_zero (w : World) (hR : Ready w) :
    Calls Tryd.prog 14 #[.string ⟨#[48]⟩, .string ⟨#[49]⟩] w fun e w' => e = .returned (.tuple #[.string (textI ((10 ^ 0 : Nat) : Int)), .int .i64 0]) ∧ Below w.heap.size w w' := by
  have c := add_fit fits0 fits1 fits1 w hR
  rw [text0, text1] at c
  have e : textI ((0 : Int) + 1) = textI ((10 ^ 0 : Nat) : Int) := rfl
  rw [e] at c
  exact c
theorem fits_pow {m : Nat} (h : m < 200) : Fits ((10 ^ m : Nat) : Int) := by
  unfold Fits; rw [Int.natAbs_natCast]; exact Nat.pow_lt_pow_right (by decide) h
theorem fits_two {n : Nat} (h : n < 200) : Fits ((2 * 10 ^ n - 1 : Nat) : Int) := by
  have h1 : 10 ^ n * 10 ≤ 10 ^ 200 := by rw [← Nat.pow_succ]; exact Nat.pow_le_pow_right (by decide) (by omega)
  have := pow1 n
  unfold Fits; rw [Int.natAbs_natCast]; omega
theorem mul_small {m n : Nat} (hm : m < 200) (hn : n < 200) (h : m + n < 200) (w : World) (hR : Ready w) :
    Calls Tryd.prog 16 #[.string (textI ((10 ^ m : Nat) : Int)), .string (⟨#[49]⟩ ++ ninesT n)] w fun e w' => e = .returned (.tuple #[.string (textI (prodN m n : Int)), .int .i64 0]) ∧ Below w.heap.size w w' := by
  have c := mul_fit (fits_pow hm) (fits_two hn) (by rw [prod_cast]; exact prod_fits h) w hR
  rw [prod_cast, ← one_nines] at c
  exact c
theorem mul_big {m n : Nat} (hm : m < 200) (hn : n < 200) (h : ¬ m + n < 200) (w : World) (hR : Ready w) :
    Calls Tryd.prog 16 #[.string (textI ((10 ^ m : Nat) : Int)), .string (⟨#[49]⟩ ++ ninesT n)] w fun e w' => e = .returned (.tuple #[.string ByteArray.empty, .int .i64 30]) ∧ Below w.heap.size w w' := by
  have c := mul_i _ _ (fit_le (fits_pow hm)) (fit_le (fits_two hn)) w hR
  have hf : ¬ Fits (((10 ^ m : Nat) : Int) * ((2 * 10 ^ n - 1 : Nat) : Int)) := by rw [prod_cast]; exact prod_over h
  have e := op_over (· * ·) (fits_pow hm) (fits_two hn) hf
  rw [e.1, e.2, ← one_nines] at c
  exact c

set_option maxRecDepth 100000 in
set_option maxHeartbeats 8000000 in
theorem integerLimits_walk (a : ByteArray) (m n : Int) (ha : a.size ≤ maxLen) (hm0 : -9223372036854775808 ≤ m) (hm1 : m ≤ 9223372036854775807) (hn0 : -9223372036854775808 ≤ n) (hn1 : n ≤ 9223372036854775807) (w : World) (hR : Ready w) :
    Calls Tryd.prog 10 #[.string a, .int .i64 m, .int .i64 n] w fun e w' => e = .returned (.bool true) ∧ Below w.heap.size w w' := by
  have B0 := Lib.hid (Below.refl w.heap.size w)
  have HR0 := Lib.hid hR
  clear hR
  have PM := Lib.hid (fun W => pick_any m hm0 hm1 W)
  have PN := Lib.hid (fun W => pick_any n hn0 hn1 W)
  clear hm0 hm1 hn0 hn1
  obtain ⟨t, ht⟩ : ∃ t, 10 ^ 200 - 1 = t := ⟨_, rfl⟩
  have ht1 : t + 1 = 10 ^ 200 := by have := pow1 200; omega
  have eM := nines_text (n := 200) (by decide)
  have eN := nines_neg (n := 200) (by decide)
  rw [ht] at eM eN
  have fM : Fits (t : Int) := by unfold Fits; rw [Int.natAbs_natCast]; omega
  have fN : Fits (-(t : Int)) := by unfold Fits; rw [Int.natAbs_neg, Int.natAbs_natCast]; omega
  have h5 : (10 : Nat) ^ 5 ≤ 10 ^ 200 := Nat.pow_le_pow_right (by decide) (by decide)
  have cn := fun W => nines_any 200 (by decide) W
  have cv := fun W hW => valid_i (ninesT 201) (by rw [ninesT_size]; decide) W hW
  have cw := fun W hW => valid_fit fN W hW
  rw [most9] at cv
  rw [← eN] at cw
  have e9 := ninesT_succ 200
  have hsz := ninesT_size 200
  have CN := Lib.hid cn; have CV := Lib.hid cv; have CW := Lib.hid cw
  have HB := Lib.hid ha
  clear cn cv cw
  go_enter Tryd.func10, Tryd.ntmps10
  have HT1 := Lib.hid ht1
  clear ht ht1 h5
  go_wp2_with fail
  refine (sane_any _ (HR0.out.below B0.out)).mono ?_
  rintro e w1 ⟨rfl, b1⟩
  have B1 := Lib.hid (B0.out.trans (b1.mono B0.out.size))
  clear b1 B0
  go_wp2_with fail
  refine (made_any a HB.out 5 (by decide) _).mono ?_
  rintro e w2 ⟨x, hx, rfl, b2⟩
  have B2 := Lib.hid (B1.out.trans (b2.mono B1.out.size))
  clear b2 B1
  have fx := fits_of hx (by decide)
  go_wp2_with fail
  refine (CN.out _).mono ?_
  rintro e w3 ⟨rfl, rfl⟩
  have h5 : (10 : Nat) ^ 5 ≤ 10 ^ 200 := Nat.pow_le_pow_right (by decide) (by decide)
  have ht1 : t + 1 = 10 ^ 200 := HT1.out
  have c3 := fun W hW => cmp_fit fx fits0 W hW
  rw [text0] at c3
  by_cases hg : 0 < x
  · skip
    have v1 : ¬ Fits ((t : Int) + x) := by unfold Fits; omega
    have v2 : ¬ Fits (-(t : Int) - x) := by unfold Fits; omega
    have c1 := fun W hW => add_i _ _ (fit_le fM) (fit_le fx) W hW
    have c2 := fun W hW => sub_i _ _ (fit_le fN) (fit_le fx) W hW
    rw [(op_over (· + ·) fM fx v1).1, (op_over (· + ·) fM fx v1).2, ← eM] at c1
    rw [(op_over (· - ·) fN fx v2).1, (op_over (· - ·) fN fx v2).2, ← eN] at c2
    rw [sgn_gt hg] at c3
    generalize textI x = X at *
    clear eM eN
    generalize ninesT 200 = TM at *
    generalize ninesT 201 = TM9 at *
    have C1 := Lib.hid c1; have C2 := Lib.hid c2; have C3 := Lib.hid c3
    clear c1 c2 c3 v1 v2 hg fx fM fN ht1 h5 HT1 hx
    go_wp2_with fail
    refine (C1.out _ (HR0.out.below B2.out)).mono ?_
    rintro e w3 ⟨rfl, b3⟩
    have B3 := Lib.hid (B2.out.trans (b3.mono B2.out.size))
    clear b3 B2 C1
    go_wp2_with fail
    refine (C2.out _ (HR0.out.below B3.out)).mono ?_
    rintro e w4 ⟨rfl, b4⟩
    have B4 := Lib.hid (B3.out.trans (b4.mono B3.out.size))
    clear b4 B3 C2
    go_wp2_with fail
    refine (PM.out _).mono ?_
    rintro e w5 ⟨r, hr, rfl, rfl⟩
    clear PM
    go_wp2_with fail
    refine (PN.out _).mono ?_
    rintro e w6 ⟨s, hs, rfl, rfl⟩
    clear PN
    by_cases hsm : r + s < 200
    · by_cases hr0 : r = 0
      · subst hr0
        have cm := fun W hW => mul_small hr hs hsm W hW
        have cnn := fun W => nines_any s (by omega) W
        have hps := size_text (prod_ge 0 s) (prod_lt 0 s)
        generalize textI (prodN 0 s : Int) = P at *
        have hsi : (s : Int) < 200 := by omega
        have hsd : decide ((s : Int) < 200) = true := decide_eq_true hsi
        have hpz : (P.size : Int) = (s : Int) + 1 := by omega
        have cr := fun W => nines_any 0 (by decide) W
        have ca := fun W hW => add_i (ninesT 0) ⟨#[49]⟩ (by decide) (by decide) W hW
        generalize opT (· + ·) (ninesT 0) ⟨#[49]⟩ = S0 at *
        generalize opZ (· + ·) (ninesT 0) ⟨#[49]⟩ = z0 at *
        have cb := one_zero
        generalize textI ((10 ^ 0 : Nat) : Int) = O at *
        generalize ninesT 0 = R0 at *
        have hsz2 := ninesT_size s
        generalize ninesT s = S1 at *
        have CR := Lib.hid cr
        have CA := Lib.hid ca
        have CB := Lib.hid cb
        have CM := Lib.hid cm
        have CNN := Lib.hid cnn
        clear cr ca cb cm cnn hsm
        go_wp2_with fail
        refine (CR.out _).mono ?_
        rintro e w5 ⟨rfl, rfl⟩
        clear CR
        go_wp2_with fail
        refine (CA.out _ (HR0.out.below B4.out)).mono ?_
        rintro e w5 ⟨rfl, b5⟩
        have B5 := Lib.hid (B4.out.trans (b5.mono B4.out.size))
        clear b5 B4 CA
        go_wp2_with fail
        refine (CB.out _ (HR0.out.below B5.out)).mono ?_
        rintro e w6 ⟨rfl, b6⟩
        have B6 := Lib.hid (B5.out.trans (b6.mono B5.out.size))
        clear b6 B5 CB
        go_wp2_with fail
        refine (CNN.out _).mono ?_
        rintro e w7 ⟨rfl, rfl⟩
        clear CNN
        go_wp2_with fail
        refine (CM.out _ (HR0.out.below B6.out)).mono ?_
        rintro e w7 ⟨rfl, b7⟩
        have B7 := Lib.hid (B6.out.trans (b7.mono B6.out.size))
        clear b7 B6 CM
        go_wp2_with fail
        refine (C3.out _ (HR0.out.below B7.out)).mono ?_
        rintro e w8 ⟨rfl, b8⟩
        have B8 := Lib.hid (B7.out.trans (b8.mono B7.out.size))
        clear b8 B7 C3
        go_wp2_with fail
        refine (CV.out _ (HR0.out.below B8.out)).mono ?_
        rintro e w9 ⟨rfl, b9⟩
        have B9 := Lib.hid (B8.out.trans (b9.mono B8.out.size))
        clear b9 B8 CV
        go_wp2_with fail
        refine (CW.out _ (HR0.out.below B9.out)).mono ?_
        rintro e w10 ⟨rfl, b10⟩
        have B10 := Lib.hid (B9.out.trans (b10.mono B9.out.size))
        clear b10 B9 CW
        go_wp2
        go_ret
        exact ⟨rfl, B10.out⟩
      · skip
        have cm := fun W hW => mul_small hr hs hsm W hW
        have cnn := fun W => nines_any s (by omega) W
        have hps := size_text (prod_ge r s) (prod_lt r s)
        generalize textI (prodN r s : Int) = P at *
        have hsi : (r : Int) + (s : Int) < 200 := by omega
        have hpz : (P.size : Int) = (r : Int) + (s : Int) + 1 := by omega
        have cr := fun W => nines_any r (by omega) W
        have ca := fun W hW => one_fit (show 1 ≤ r by omega) hr W hW
        have hr1 : ¬ (r : Int) = 0 := by omega
        have hr2 : ((r : Int) == 0) = false := by rw [beq_eq_false_iff_ne]; exact hr1
        generalize textI ((10 ^ r : Nat) : Int) = O at *
        have hrz := ninesT_size r
        generalize ninesT r = R0 at *
        have hsz2 := ninesT_size s
        generalize ninesT s = S1 at *
        have CR := Lib.hid cr
        have CA := Lib.hid ca
        have CM := Lib.hid cm
        have CNN := Lib.hid cnn
        clear cr ca cm cnn hsm
        go_wp2_with fail
        refine (CR.out _).mono ?_
        rintro e w5 ⟨rfl, rfl⟩
        clear CR
        go_wp2_with fail
        refine (CA.out _ (HR0.out.below B4.out)).mono ?_
        rintro e w5 ⟨rfl, b5⟩
        have B5 := Lib.hid (B4.out.trans (b5.mono B4.out.size))
        clear b5 B4 CA
        go_wp2_with fail
        refine (CNN.out _).mono ?_
        rintro e w6 ⟨rfl, rfl⟩
        clear CNN
        go_wp2_with fail
        refine (CM.out _ (HR0.out.below B5.out)).mono ?_
        rintro e w6 ⟨rfl, b6⟩
        have B6 := Lib.hid (B5.out.trans (b6.mono B5.out.size))
        clear b6 B5 CM
        go_wp2_with fail
        refine (C3.out _ (HR0.out.below B6.out)).mono ?_
        rintro e w7 ⟨rfl, b7⟩
        have B7 := Lib.hid (B6.out.trans (b7.mono B6.out.size))
        clear b7 B6 C3
        go_wp2_with fail
        refine (CV.out _ (HR0.out.below B7.out)).mono ?_
        rintro e w8 ⟨rfl, b8⟩
        have B8 := Lib.hid (B7.out.trans (b8.mono B7.out.size))
        clear b8 B7 CV
        go_wp2_with fail
        refine (CW.out _ (HR0.out.below B8.out)).mono ?_
        rintro e w9 ⟨rfl, b9⟩
        have B9 := Lib.hid (B8.out.trans (b9.mono B8.out.size))
        clear b9 B8 CW
        go_wp2
        go_ret
        exact ⟨rfl, B9.out⟩
    · by_cases hr0 : r = 0
      · exact absurd hs (by omega)
      · skip
        have cm := fun W hW => mul_big hr hs hsm W hW
        have cnn := fun W => nines_any s (by omega) W
        have hsi : ¬ (r : Int) + (s : Int) < 200 := by omega
        have cr := fun W => nines_any r (by omega) W
        have ca := fun W hW => one_fit (show 1 ≤ r by omega) hr W hW
        have hr1 : ¬ (r : Int) = 0 := by omega
        have hr2 : ((r : Int) == 0) = false := by rw [beq_eq_false_iff_ne]; exact hr1
        generalize textI ((10 ^ r : Nat) : Int) = O at *
        have hrz := ninesT_size r
        generalize ninesT r = R0 at *
        have hsz2 := ninesT_size s
        generalize ninesT s = S1 at *
        have CR := Lib.hid cr
        have CA := Lib.hid ca
        have CM := Lib.hid cm
        have CNN := Lib.hid cnn
        clear cr ca cm cnn hsm
        go_wp2_with fail
        refine (CR.out _).mono ?_
        rintro e w5 ⟨rfl, rfl⟩
        clear CR
        go_wp2_with fail
        refine (CA.out _ (HR0.out.below B4.out)).mono ?_
        rintro e w5 ⟨rfl, b5⟩
        have B5 := Lib.hid (B4.out.trans (b5.mono B4.out.size))
        clear b5 B4 CA
        go_wp2_with fail
        refine (CNN.out _).mono ?_
        rintro e w6 ⟨rfl, rfl⟩
        clear CNN
        go_wp2_with fail
        refine (CM.out _ (HR0.out.below B5.out)).mono ?_
        rintro e w6 ⟨rfl, b6⟩
        have B6 := Lib.hid (B5.out.trans (b6.mono B5.out.size))
        clear b6 B5 CM
        go_wp2_with fail
        refine (C3.out _ (HR0.out.below B6.out)).mono ?_
        rintro e w7 ⟨rfl, b7⟩
        have B7 := Lib.hid (B6.out.trans (b7.mono B6.out.size))
        clear b7 B6 C3
        go_wp2_with fail
        refine (CV.out _ (HR0.out.below B7.out)).mono ?_
        rintro e w8 ⟨rfl, b8⟩
        have B8 := Lib.hid (B7.out.trans (b8.mono B7.out.size))
        clear b8 B7 CV
        go_wp2_with fail
        refine (CW.out _ (HR0.out.below B8.out)).mono ?_
        rintro e w9 ⟨rfl, b9⟩
        have B9 := Lib.hid (B8.out.trans (b9.mono B8.out.size))
        clear b9 B8 CW
        go_wp2
        go_ret
        exact ⟨rfl, B9.out⟩
  · skip
    have v1 : Fits ((t : Int) + x) := by unfold Fits at fx ⊢; omega
    have v2 : Fits (-(t : Int) - x) := by unfold Fits at fx ⊢; omega
    have c1 := fun W hW => add_fit fM fx v1 W hW
    have c2 := fun W hW => sub_fit fN fx v2 W hW
    rw [← eM] at c1
    rw [← eN] at c2
    have hv := sgn_le (x := x) (y := 0) (by omega)
    generalize sgnI x 0 = v at *
    have hv2 : ¬ 0 < v := by omega
    have hv3 : decide (0 < v) = false := decide_eq_false hv2
    generalize textI ((t : Int) + x) = U1 at *
    generalize textI (-(t : Int) - x) = U2 at *
    generalize textI x = X at *
    clear eM eN
    generalize ninesT 200 = TM at *
    generalize ninesT 201 = TM9 at *
    have C1 := Lib.hid c1; have C2 := Lib.hid c2; have C3 := Lib.hid c3
    clear c1 c2 c3 v1 v2 hg fx fM fN ht1 h5 HT1 hx
    go_wp2_with fail
    refine (C1.out _ (HR0.out.below B2.out)).mono ?_
    rintro e w3 ⟨rfl, b3⟩
    have B3 := Lib.hid (B2.out.trans (b3.mono B2.out.size))
    clear b3 B2 C1
    go_wp2_with fail
    refine (C2.out _ (HR0.out.below B3.out)).mono ?_
    rintro e w4 ⟨rfl, b4⟩
    have B4 := Lib.hid (B3.out.trans (b4.mono B3.out.size))
    clear b4 B3 C2
    go_wp2_with fail
    refine (PM.out _).mono ?_
    rintro e w5 ⟨r, hr, rfl, rfl⟩
    clear PM
    go_wp2_with fail
    refine (PN.out _).mono ?_
    rintro e w6 ⟨s, hs, rfl, rfl⟩
    clear PN
    by_cases hsm : r + s < 200
    · by_cases hr0 : r = 0
      · subst hr0
        have cm := fun W hW => mul_small hr hs hsm W hW
        have cnn := fun W => nines_any s (by omega) W
        have hps := size_text (prod_ge 0 s) (prod_lt 0 s)
        generalize textI (prodN 0 s : Int) = P at *
        have hsi : (s : Int) < 200 := by omega
        have hsd : decide ((s : Int) < 200) = true := decide_eq_true hsi
        have hpz : (P.size : Int) = (s : Int) + 1 := by omega
        have cr := fun W => nines_any 0 (by decide) W
        have ca := fun W hW => add_i (ninesT 0) ⟨#[49]⟩ (by decide) (by decide) W hW
        generalize opT (· + ·) (ninesT 0) ⟨#[49]⟩ = S0 at *
        generalize opZ (· + ·) (ninesT 0) ⟨#[49]⟩ = z0 at *
        have cb := one_zero
        generalize textI ((10 ^ 0 : Nat) : Int) = O at *
        generalize ninesT 0 = R0 at *
        have hsz2 := ninesT_size s
        generalize ninesT s = S1 at *
        have CR := Lib.hid cr
        have CA := Lib.hid ca
        have CB := Lib.hid cb
        have CM := Lib.hid cm
        have CNN := Lib.hid cnn
        clear cr ca cb cm cnn hsm
        go_wp2_with fail
        refine (CR.out _).mono ?_
        rintro e w5 ⟨rfl, rfl⟩
        clear CR
        go_wp2_with fail
        refine (CA.out _ (HR0.out.below B4.out)).mono ?_
        rintro e w5 ⟨rfl, b5⟩
        have B5 := Lib.hid (B4.out.trans (b5.mono B4.out.size))
        clear b5 B4 CA
        go_wp2_with fail
        refine (CB.out _ (HR0.out.below B5.out)).mono ?_
        rintro e w6 ⟨rfl, b6⟩
        have B6 := Lib.hid (B5.out.trans (b6.mono B5.out.size))
        clear b6 B5 CB
        go_wp2_with fail
        refine (CNN.out _).mono ?_
        rintro e w7 ⟨rfl, rfl⟩
        clear CNN
        go_wp2_with fail
        refine (CM.out _ (HR0.out.below B6.out)).mono ?_
        rintro e w7 ⟨rfl, b7⟩
        have B7 := Lib.hid (B6.out.trans (b7.mono B6.out.size))
        clear b7 B6 CM
        go_wp2_with fail
        refine (C3.out _ (HR0.out.below B7.out)).mono ?_
        rintro e w8 ⟨rfl, b8⟩
        have B8 := Lib.hid (B7.out.trans (b8.mono B7.out.size))
        clear b8 B7 C3
        go_wp2_with fail
        refine (CV.out _ (HR0.out.below B8.out)).mono ?_
        rintro e w9 ⟨rfl, b9⟩
        have B9 := Lib.hid (B8.out.trans (b9.mono B8.out.size))
        clear b9 B8 CV
        go_wp2_with fail
        refine (CW.out _ (HR0.out.below B9.out)).mono ?_
        rintro e w10 ⟨rfl, b10⟩
        have B10 := Lib.hid (B9.out.trans (b10.mono B9.out.size))
        clear b10 B9 CW
        go_wp2
        go_ret
        exact ⟨rfl, B10.out⟩
      · skip
        have cm := fun W hW => mul_small hr hs hsm W hW
        have cnn := fun W => nines_any s (by omega) W
        have hps := size_text (prod_ge r s) (prod_lt r s)
        generalize textI (prodN r s : Int) = P at *
        have hsi : (r : Int) + (s : Int) < 200 := by omega
        have hpz : (P.size : Int) = (r : Int) + (s : Int) + 1 := by omega
        have cr := fun W => nines_any r (by omega) W
        have ca := fun W hW => one_fit (show 1 ≤ r by omega) hr W hW
        have hr1 : ¬ (r : Int) = 0 := by omega
        have hr2 : ((r : Int) == 0) = false := by rw [beq_eq_false_iff_ne]; exact hr1
        generalize textI ((10 ^ r : Nat) : Int) = O at *
        have hrz := ninesT_size r
        generalize ninesT r = R0 at *
        have hsz2 := ninesT_size s
        generalize ninesT s = S1 at *
        have CR := Lib.hid cr
        have CA := Lib.hid ca
        have CM := Lib.hid cm
        have CNN := Lib.hid cnn
        clear cr ca cm cnn hsm
        go_wp2_with fail
        refine (CR.out _).mono ?_
        rintro e w5 ⟨rfl, rfl⟩
        clear CR
        go_wp2_with fail
        refine (CA.out _ (HR0.out.below B4.out)).mono ?_
        rintro e w5 ⟨rfl, b5⟩
        have B5 := Lib.hid (B4.out.trans (b5.mono B4.out.size))
        clear b5 B4 CA
        go_wp2_with fail
        refine (CNN.out _).mono ?_
        rintro e w6 ⟨rfl, rfl⟩
        clear CNN
        go_wp2_with fail
        refine (CM.out _ (HR0.out.below B5.out)).mono ?_
        rintro e w6 ⟨rfl, b6⟩
        have B6 := Lib.hid (B5.out.trans (b6.mono B5.out.size))
        clear b6 B5 CM
        go_wp2_with fail
        refine (C3.out _ (HR0.out.below B6.out)).mono ?_
        rintro e w7 ⟨rfl, b7⟩
        have B7 := Lib.hid (B6.out.trans (b7.mono B6.out.size))
        clear b7 B6 C3
        go_wp2_with fail
        refine (CV.out _ (HR0.out.below B7.out)).mono ?_
        rintro e w8 ⟨rfl, b8⟩
        have B8 := Lib.hid (B7.out.trans (b8.mono B7.out.size))
        clear b8 B7 CV
        go_wp2_with fail
        refine (CW.out _ (HR0.out.below B8.out)).mono ?_
        rintro e w9 ⟨rfl, b9⟩
        have B9 := Lib.hid (B8.out.trans (b9.mono B8.out.size))
        clear b9 B8 CW
        go_wp2
        go_ret
        exact ⟨rfl, B9.out⟩
    · by_cases hr0 : r = 0
      · exact absurd hs (by omega)
      · skip
        have cm := fun W hW => mul_big hr hs hsm W hW
        have cnn := fun W => nines_any s (by omega) W
        have hsi : ¬ (r : Int) + (s : Int) < 200 := by omega
        have cr := fun W => nines_any r (by omega) W
        have ca := fun W hW => one_fit (show 1 ≤ r by omega) hr W hW
        have hr1 : ¬ (r : Int) = 0 := by omega
        have hr2 : ((r : Int) == 0) = false := by rw [beq_eq_false_iff_ne]; exact hr1
        generalize textI ((10 ^ r : Nat) : Int) = O at *
        have hrz := ninesT_size r
        generalize ninesT r = R0 at *
        have hsz2 := ninesT_size s
        generalize ninesT s = S1 at *
        have CR := Lib.hid cr
        have CA := Lib.hid ca
        have CM := Lib.hid cm
        have CNN := Lib.hid cnn
        clear cr ca cm cnn hsm
        go_wp2_with fail
        refine (CR.out _).mono ?_
        rintro e w5 ⟨rfl, rfl⟩
        clear CR
        go_wp2_with fail
        refine (CA.out _ (HR0.out.below B4.out)).mono ?_
        rintro e w5 ⟨rfl, b5⟩
        have B5 := Lib.hid (B4.out.trans (b5.mono B4.out.size))
        clear b5 B4 CA
        go_wp2_with fail
        refine (CNN.out _).mono ?_
        rintro e w6 ⟨rfl, rfl⟩
        clear CNN
        go_wp2_with fail
        refine (CM.out _ (HR0.out.below B5.out)).mono ?_
        rintro e w6 ⟨rfl, b6⟩
        have B6 := Lib.hid (B5.out.trans (b6.mono B5.out.size))
        clear b6 B5 CM
        go_wp2_with fail
        refine (C3.out _ (HR0.out.below B6.out)).mono ?_
        rintro e w7 ⟨rfl, b7⟩
        have B7 := Lib.hid (B6.out.trans (b7.mono B6.out.size))
        clear b7 B6 C3
        go_wp2_with fail
        refine (CV.out _ (HR0.out.below B7.out)).mono ?_
        rintro e w8 ⟨rfl, b8⟩
        have B8 := Lib.hid (B7.out.trans (b8.mono B7.out.size))
        clear b8 B7 CV
        go_wp2_with fail
        refine (CW.out _ (HR0.out.below B8.out)).mono ?_
        rintro e w9 ⟨rfl, b9⟩
        have B9 := Lib.hid (B8.out.trans (b9.mono B8.out.size))
        clear b9 B8 CW
        go_wp2
        go_ret
        exact ⟨rfl, B9.out⟩
end Go.Proofs.YtildgpahacaglaaDoor
