/-
  IntegerMachine returns true for all arguments: the walk.
-/
import Derived.Test.YtildgpahacaglaaDoorLawText
namespace Go.Proofs.YtildgpahacaglaaDoor
open Go Go.Proofs Go.RowKit Go.Lib

set_option maxRecDepth 100000 in
set_option maxHeartbeats 8000000 in
theorem integerMachine_walk (a b : Int) (ha0 : -2147483648 ≤ a) (ha1 : a ≤ 2147483647) (hb0 : -2147483648 ≤ b) (hb1 : b ≤ 2147483647) (w : World) (hR : Ready w) (hE : ErrR w) :
    Calls Tryd.prog 3 #[.int .i32 a, .int .i32 b] w fun e w' => e = .returned (.bool true) ∧ Below w.heap.size w w' := by
  have B0 := Lib.hid (Below.refl w.heap.size w)
  have HR0 := Lib.hid hR; have HE0 := Lib.hid hE
  clear hR hE
  have hp : (a * b).natAbs ≤ 2147483648 * 2147483648 := by rw [Int.natAbs_mul]; exact Nat.mul_le_mul (by omega) (by omega)
  have wa : IntKind.i64.wrap a = a := IntWalk.i64_in _ (by omega)
  have wb : IntKind.i64.wrap b = b := IntWalk.i64_in _ (by omega)
  have ws : IntKind.i64.wrap (a + b) = a + b := IntWalk.i64_in _ (by omega)
  have wd : IntKind.i64.wrap (a - b) = a - b := IntWalk.i64_in _ (by omega)
  have wp : IntKind.i64.wrap (a * b) = a * b := IntWalk.i64_in _ (by omega)
  have fa := fits_word (n := a) (by omega) (by omega)
  have fb := fits_word (n := b) (by omega) (by omega)
  have fs := fits_word (n := a + b) (by omega) (by omega)
  have fd := fits_word (n := a - b) (by omega) (by omega)
  have fp := fits_word (n := a * b) (by omega) (by omega)
  have c1 := fun W hW => from_i a (by omega) (by omega) W hW
  have c2 := fun W hW => from_i b (by omega) (by omega) W hW
  have c3 := fun W hW => to_fit (n := a) (by omega) (by omega) W hW
  have c4 := fun W hW => add_fit fa fb fs W hW
  have c5 := fun W hW => sub_fit fa fb fd W hW
  have c6 := fun W hW => mul_fit fa fb fp W hW
  have c7 := fun W hW => from_i (a + b) (by omega) (by omega) W hW
  have c8 := fun W hW => from_i (a - b) (by omega) (by omega) W hW
  have c9 := fun W hW => from_i (a * b) (by omega) (by omega) W hW
  have c10 := fun W hW => cmp_fit fa fb W hW
  generalize textI (a + b) = T1 at *
  generalize textI (a - b) = T2 at *
  generalize textI (a * b) = T3 at *
  by_cases h0 : b = 0
  · subst h0
    have c11 := fun W hW => div_zero fa W hW
    simp only [Int.add_zero, Int.sub_zero, Int.mul_zero] at c7 c8 c9 ws wd wp
    rcases Int.lt_trichotomy a 0 with hlt | heq | hgt
    · rw [sgn_lt hlt] at c10
      have g1 : ¬ 0 < a := by omega
      generalize textI 0 = Y at *
      generalize textI a = X at *
      have C1 := Lib.hid c1
      have C2 := Lib.hid c2
      have C3 := Lib.hid c3
      have C4 := Lib.hid c4
      have C5 := Lib.hid c5
      have C6 := Lib.hid c6
      have C7 := Lib.hid c7
      have C8 := Lib.hid c8
      have C9 := Lib.hid c9
      have C10 := Lib.hid c10
      have C11 := Lib.hid c11
      clear c1 c2 c3 c4 c5 c6 c7 c8 c9 c10 c11 fa fb fs fd fp hp
      go_enter Tryd.func3, Tryd.ntmps3
      go_wp2_with fail
      refine (sane_any _ (HR0.out.below B0.out)).mono ?_
      rintro e w1 ⟨rfl, b1⟩
      have B1 := Lib.hid (B0.out.trans (b1.mono B0.out.size))
      clear b1 B0
      go_wp2_with fail
      refine (C1.out _ (HR0.out.below B1.out)).mono ?_
      rintro e w2 ⟨rfl, b2⟩
      have B2 := Lib.hid (B1.out.trans (b2.mono B1.out.size))
      clear b2 B1 C1
      go_wp2_with fail
      refine (C2.out _ (HR0.out.below B2.out)).mono ?_
      rintro e w3 ⟨rfl, b3⟩
      have B3 := Lib.hid (B2.out.trans (b3.mono B2.out.size))
      clear b3 B2 C2
      go_wp2_with fail
      refine (C3.out _ (HE0.out.below B3.out)).mono ?_
      rintro e w4 ⟨rfl, b4⟩
      have B4 := Lib.hid (B3.out.trans (b4.mono B3.out.size))
      clear b4 B3 C3
      go_wp2_with fail
      refine (C4.out _ (HR0.out.below B4.out)).mono ?_
      rintro e w5 ⟨rfl, b5⟩
      have B5 := Lib.hid (B4.out.trans (b5.mono B4.out.size))
      clear b5 B4 C4
      go_wp2_with fail
      refine (C5.out _ (HR0.out.below B5.out)).mono ?_
      rintro e w6 ⟨rfl, b6⟩
      have B6 := Lib.hid (B5.out.trans (b6.mono B5.out.size))
      clear b6 B5 C5
      go_wp2_with fail
      refine (C6.out _ (HR0.out.below B6.out)).mono ?_
      rintro e w7 ⟨rfl, b7⟩
      have B7 := Lib.hid (B6.out.trans (b7.mono B6.out.size))
      clear b7 B6 C6
      go_wp2_with fail
      refine (C7.out _ (HR0.out.below B7.out)).mono ?_
      rintro e w8 ⟨rfl, b8⟩
      have B8 := Lib.hid (B7.out.trans (b8.mono B7.out.size))
      clear b8 B7 C7
      go_wp2_with fail
      refine (C8.out _ (HR0.out.below B8.out)).mono ?_
      rintro e w9 ⟨rfl, b9⟩
      have B9 := Lib.hid (B8.out.trans (b9.mono B8.out.size))
      clear b9 B8 C8
      go_wp2_with fail
      refine (C9.out _ (HR0.out.below B9.out)).mono ?_
      rintro e w10 ⟨rfl, b10⟩
      have B10 := Lib.hid (B9.out.trans (b10.mono B9.out.size))
      clear b10 B9 C9
      go_wp2_with fail
      refine (C10.out _ (HR0.out.below B10.out)).mono ?_
      rintro e w11 ⟨rfl, b11⟩
      have B11 := Lib.hid (B10.out.trans (b11.mono B10.out.size))
      clear b11 B10 C10
      go_wp2_with fail
      refine (C11.out _ (HR0.out.below B11.out)).mono ?_
      rintro e w12 ⟨rfl, b12⟩
      have B12 := Lib.hid (B11.out.trans (b12.mono B11.out.size))
      clear b12 B11 C11
      go_wp2
      go_ret
      exact ⟨rfl, B12.out⟩
    · have hsg : sgnI a 0 = 0 := by rw [heq]; exact sgn_eq _
      rw [hsg] at c10
      have g1 : ¬ a < 0 := by omega
      have g2 : ¬ 0 < a := by omega
      clear heq hsg
      generalize textI 0 = Y at *
      generalize textI a = X at *
      have C1 := Lib.hid c1
      have C2 := Lib.hid c2
      have C3 := Lib.hid c3
      have C4 := Lib.hid c4
      have C5 := Lib.hid c5
      have C6 := Lib.hid c6
      have C7 := Lib.hid c7
      have C8 := Lib.hid c8
      have C9 := Lib.hid c9
      have C10 := Lib.hid c10
      have C11 := Lib.hid c11
      clear c1 c2 c3 c4 c5 c6 c7 c8 c9 c10 c11 fa fb fs fd fp hp
      go_enter Tryd.func3, Tryd.ntmps3
      go_wp2_with fail
      refine (sane_any _ (HR0.out.below B0.out)).mono ?_
      rintro e w1 ⟨rfl, b1⟩
      have B1 := Lib.hid (B0.out.trans (b1.mono B0.out.size))
      clear b1 B0
      go_wp2_with fail
      refine (C1.out _ (HR0.out.below B1.out)).mono ?_
      rintro e w2 ⟨rfl, b2⟩
      have B2 := Lib.hid (B1.out.trans (b2.mono B1.out.size))
      clear b2 B1 C1
      go_wp2_with fail
      refine (C2.out _ (HR0.out.below B2.out)).mono ?_
      rintro e w3 ⟨rfl, b3⟩
      have B3 := Lib.hid (B2.out.trans (b3.mono B2.out.size))
      clear b3 B2 C2
      go_wp2_with fail
      refine (C3.out _ (HE0.out.below B3.out)).mono ?_
      rintro e w4 ⟨rfl, b4⟩
      have B4 := Lib.hid (B3.out.trans (b4.mono B3.out.size))
      clear b4 B3 C3
      go_wp2_with fail
      refine (C4.out _ (HR0.out.below B4.out)).mono ?_
      rintro e w5 ⟨rfl, b5⟩
      have B5 := Lib.hid (B4.out.trans (b5.mono B4.out.size))
      clear b5 B4 C4
      go_wp2_with fail
      refine (C5.out _ (HR0.out.below B5.out)).mono ?_
      rintro e w6 ⟨rfl, b6⟩
      have B6 := Lib.hid (B5.out.trans (b6.mono B5.out.size))
      clear b6 B5 C5
      go_wp2_with fail
      refine (C6.out _ (HR0.out.below B6.out)).mono ?_
      rintro e w7 ⟨rfl, b7⟩
      have B7 := Lib.hid (B6.out.trans (b7.mono B6.out.size))
      clear b7 B6 C6
      go_wp2_with fail
      refine (C7.out _ (HR0.out.below B7.out)).mono ?_
      rintro e w8 ⟨rfl, b8⟩
      have B8 := Lib.hid (B7.out.trans (b8.mono B7.out.size))
      clear b8 B7 C7
      go_wp2_with fail
      refine (C8.out _ (HR0.out.below B8.out)).mono ?_
      rintro e w9 ⟨rfl, b9⟩
      have B9 := Lib.hid (B8.out.trans (b9.mono B8.out.size))
      clear b9 B8 C8
      go_wp2_with fail
      refine (C9.out _ (HR0.out.below B9.out)).mono ?_
      rintro e w10 ⟨rfl, b10⟩
      have B10 := Lib.hid (B9.out.trans (b10.mono B9.out.size))
      clear b10 B9 C9
      go_wp2_with fail
      refine (C10.out _ (HR0.out.below B10.out)).mono ?_
      rintro e w11 ⟨rfl, b11⟩
      have B11 := Lib.hid (B10.out.trans (b11.mono B10.out.size))
      clear b11 B10 C10
      go_wp2_with fail
      refine (C11.out _ (HR0.out.below B11.out)).mono ?_
      rintro e w12 ⟨rfl, b12⟩
      have B12 := Lib.hid (B11.out.trans (b12.mono B11.out.size))
      clear b12 B11 C11
      go_wp2
      go_ret
      exact ⟨rfl, B12.out⟩
    · rw [sgn_gt hgt] at c10
      have g1 : ¬ a < 0 := by omega
      generalize textI 0 = Y at *
      generalize textI a = X at *
      have C1 := Lib.hid c1
      have C2 := Lib.hid c2
      have C3 := Lib.hid c3
      have C4 := Lib.hid c4
      have C5 := Lib.hid c5
      have C6 := Lib.hid c6
      have C7 := Lib.hid c7
      have C8 := Lib.hid c8
      have C9 := Lib.hid c9
      have C10 := Lib.hid c10
      have C11 := Lib.hid c11
      clear c1 c2 c3 c4 c5 c6 c7 c8 c9 c10 c11 fa fb fs fd fp hp
      go_enter Tryd.func3, Tryd.ntmps3
      go_wp2_with fail
      refine (sane_any _ (HR0.out.below B0.out)).mono ?_
      rintro e w1 ⟨rfl, b1⟩
      have B1 := Lib.hid (B0.out.trans (b1.mono B0.out.size))
      clear b1 B0
      go_wp2_with fail
      refine (C1.out _ (HR0.out.below B1.out)).mono ?_
      rintro e w2 ⟨rfl, b2⟩
      have B2 := Lib.hid (B1.out.trans (b2.mono B1.out.size))
      clear b2 B1 C1
      go_wp2_with fail
      refine (C2.out _ (HR0.out.below B2.out)).mono ?_
      rintro e w3 ⟨rfl, b3⟩
      have B3 := Lib.hid (B2.out.trans (b3.mono B2.out.size))
      clear b3 B2 C2
      go_wp2_with fail
      refine (C3.out _ (HE0.out.below B3.out)).mono ?_
      rintro e w4 ⟨rfl, b4⟩
      have B4 := Lib.hid (B3.out.trans (b4.mono B3.out.size))
      clear b4 B3 C3
      go_wp2_with fail
      refine (C4.out _ (HR0.out.below B4.out)).mono ?_
      rintro e w5 ⟨rfl, b5⟩
      have B5 := Lib.hid (B4.out.trans (b5.mono B4.out.size))
      clear b5 B4 C4
      go_wp2_with fail
      refine (C5.out _ (HR0.out.below B5.out)).mono ?_
      rintro e w6 ⟨rfl, b6⟩
      have B6 := Lib.hid (B5.out.trans (b6.mono B5.out.size))
      clear b6 B5 C5
      go_wp2_with fail
      refine (C6.out _ (HR0.out.below B6.out)).mono ?_
      rintro e w7 ⟨rfl, b7⟩
      have B7 := Lib.hid (B6.out.trans (b7.mono B6.out.size))
      clear b7 B6 C6
      go_wp2_with fail
      refine (C7.out _ (HR0.out.below B7.out)).mono ?_
      rintro e w8 ⟨rfl, b8⟩
      have B8 := Lib.hid (B7.out.trans (b8.mono B7.out.size))
      clear b8 B7 C7
      go_wp2_with fail
      refine (C8.out _ (HR0.out.below B8.out)).mono ?_
      rintro e w9 ⟨rfl, b9⟩
      have B9 := Lib.hid (B8.out.trans (b9.mono B8.out.size))
      clear b9 B8 C8
      go_wp2_with fail
      refine (C9.out _ (HR0.out.below B9.out)).mono ?_
      rintro e w10 ⟨rfl, b10⟩
      have B10 := Lib.hid (B9.out.trans (b10.mono B9.out.size))
      clear b10 B9 C9
      go_wp2_with fail
      refine (C10.out _ (HR0.out.below B10.out)).mono ?_
      rintro e w11 ⟨rfl, b11⟩
      have B11 := Lib.hid (B10.out.trans (b11.mono B10.out.size))
      clear b11 B10 C10
      go_wp2_with fail
      refine (C11.out _ (HR0.out.below B11.out)).mono ?_
      rintro e w12 ⟨rfl, b12⟩
      have B12 := Lib.hid (B11.out.trans (b12.mono B11.out.size))
      clear b12 B11 C11
      go_wp2
      go_ret
      exact ⟨rfl, B12.out⟩
  · obtain ⟨T, hT⟩ : ∃ T, Int.tdiv a b = T := ⟨_, rfl⟩
    obtain ⟨R, hR⟩ : ∃ T, Int.tmod a b = T := ⟨_, rfl⟩
    have hTR : b * T + R = a := by rw [← hT, ← hR]; exact Int.mul_tdiv_add_tmod a b
    have hTb : T.natAbs ≤ 2147483648 := by
      rw [← hT, Int.natAbs_tdiv]
      exact Nat.le_trans (Nat.div_le_self _ _) (by omega)
    have hRb : R.natAbs < b.natAbs := by
      rw [← hR, Int.natAbs_tmod]
      exact Nat.mod_lt _ (by omega)
    have huniq : ∀ q r : Int, b * q + r = a → 0 ≤ r → r < (b.natAbs : Int) → a / b = q ∧ a % b = r := fun q r h1 h2 h3 => by
      have := ediv_of (x := a) (y := b) (q := q) (r := r) h0 (by rw [← h1]; simp [Int.mul_comm, Int.add_comm]) h2 (by omega)
      exact this
    have hq : (a / b).natAbs ≤ 2147483648 := Nat.le_trans (Int.natAbs_ediv_le_natAbs a b) (by omega)
    have fq := fits_word (n := a / b) (by omega) (by omega)
    have c11 := fun W hW => div_fit fa fb h0 fq W hW
    by_cases hR0 : R < 0
    · by_cases hbp : 0 < b
      · have hu := huniq (T - 1) (R + b) (by rw [Int.mul_sub, ← hTR]; omega) (by omega) (by omega)
        rw [hu.1, hu.2] at c11
        have w1 : IntKind.i64.wrap (R + b) = R + b := IntWalk.i64_in _ (by omega)
        have w2 : IntKind.i64.wrap (T - 1) = T - 1 := IntWalk.i64_in _ (by omega)
        have g0 : ¬ R + b < 0 := by omega
        have c12 := fun W hW => from_i (T - 1) (by omega) (by omega) W hW
        have c13 := fun W hW => from_i (R + b) (by omega) (by omega) W hW
        generalize textI (T - 1) = TQ at *
        generalize textI (R + b) = TR at *
        have w3 : wrap64 T = T := by unfold wrap64; omega
        have w4 : wrap64 (T - 1) = T - 1 := by unfold wrap64; omega
        have w5 : wrap64 (T + 1) = T + 1 := by unfold wrap64; omega
        clear huniq hTR hTb hq fq hu
        rcases Int.lt_trichotomy a b with hlt | heq | hgt
        · rw [sgn_lt hlt] at c10
          have g1 : ¬ b < a := by omega
          generalize textI a = X at *
          generalize textI b = Y at *
          have C1 := Lib.hid c1
          have C2 := Lib.hid c2
          have C3 := Lib.hid c3
          have C4 := Lib.hid c4
          have C5 := Lib.hid c5
          have C6 := Lib.hid c6
          have C7 := Lib.hid c7
          have C8 := Lib.hid c8
          have C9 := Lib.hid c9
          have C10 := Lib.hid c10
          have C11 := Lib.hid c11
          have C12 := Lib.hid c12
          have C13 := Lib.hid c13
          clear c1 c2 c3 c4 c5 c6 c7 c8 c9 c10 c11 c12 c13 fa fb fs fd fp hp
          go_enter Tryd.func3, Tryd.ntmps3
          go_wp2_with fail
          refine (sane_any _ (HR0.out.below B0.out)).mono ?_
          rintro e w1 ⟨rfl, b1⟩
          have B1 := Lib.hid (B0.out.trans (b1.mono B0.out.size))
          clear b1 B0
          go_wp2_with fail
          refine (C1.out _ (HR0.out.below B1.out)).mono ?_
          rintro e w2 ⟨rfl, b2⟩
          have B2 := Lib.hid (B1.out.trans (b2.mono B1.out.size))
          clear b2 B1 C1
          go_wp2_with fail
          refine (C2.out _ (HR0.out.below B2.out)).mono ?_
          rintro e w3 ⟨rfl, b3⟩
          have B3 := Lib.hid (B2.out.trans (b3.mono B2.out.size))
          clear b3 B2 C2
          go_wp2_with fail
          refine (C3.out _ (HE0.out.below B3.out)).mono ?_
          rintro e w4 ⟨rfl, b4⟩
          have B4 := Lib.hid (B3.out.trans (b4.mono B3.out.size))
          clear b4 B3 C3
          go_wp2_with fail
          refine (C4.out _ (HR0.out.below B4.out)).mono ?_
          rintro e w5 ⟨rfl, b5⟩
          have B5 := Lib.hid (B4.out.trans (b5.mono B4.out.size))
          clear b5 B4 C4
          go_wp2_with fail
          refine (C5.out _ (HR0.out.below B5.out)).mono ?_
          rintro e w6 ⟨rfl, b6⟩
          have B6 := Lib.hid (B5.out.trans (b6.mono B5.out.size))
          clear b6 B5 C5
          go_wp2_with fail
          refine (C6.out _ (HR0.out.below B6.out)).mono ?_
          rintro e w7 ⟨rfl, b7⟩
          have B7 := Lib.hid (B6.out.trans (b7.mono B6.out.size))
          clear b7 B6 C6
          go_wp2_with fail
          refine (C7.out _ (HR0.out.below B7.out)).mono ?_
          rintro e w8 ⟨rfl, b8⟩
          have B8 := Lib.hid (B7.out.trans (b8.mono B7.out.size))
          clear b8 B7 C7
          go_wp2_with fail
          refine (C8.out _ (HR0.out.below B8.out)).mono ?_
          rintro e w9 ⟨rfl, b9⟩
          have B9 := Lib.hid (B8.out.trans (b9.mono B8.out.size))
          clear b9 B8 C8
          go_wp2_with fail
          refine (C9.out _ (HR0.out.below B9.out)).mono ?_
          rintro e w10 ⟨rfl, b10⟩
          have B10 := Lib.hid (B9.out.trans (b10.mono B9.out.size))
          clear b10 B9 C9
          go_wp2_with fail
          refine (C10.out _ (HR0.out.below B10.out)).mono ?_
          rintro e w11 ⟨rfl, b11⟩
          have B11 := Lib.hid (B10.out.trans (b11.mono B10.out.size))
          clear b11 B10 C10
          go_wp2_with fail
          refine (C11.out _ (HR0.out.below B11.out)).mono ?_
          rintro e w12 ⟨rfl, b12⟩
          have B12 := Lib.hid (B11.out.trans (b12.mono B11.out.size))
          clear b12 B11 C11
          go_wp2_with fail
          refine (C12.out _ (HR0.out.below B12.out)).mono ?_
          rintro e w13 ⟨rfl, b13⟩
          have B13 := Lib.hid (B12.out.trans (b13.mono B12.out.size))
          clear b13 B12 C12
          go_wp2_with fail
          refine (C13.out _ (HR0.out.below B13.out)).mono ?_
          rintro e w14 ⟨rfl, b14⟩
          have B14 := Lib.hid (B13.out.trans (b14.mono B13.out.size))
          clear b14 B13 C13
          go_wp2
          go_ret
          exact ⟨rfl, B14.out⟩
        · have hsg : sgnI a b = 0 := by rw [heq]; exact sgn_eq _
          rw [hsg] at c10
          have g1 : ¬ a < b := by omega
          have g2 : ¬ b < a := by omega
          clear heq hsg
          generalize textI a = X at *
          generalize textI b = Y at *
          have C1 := Lib.hid c1
          have C2 := Lib.hid c2
          have C3 := Lib.hid c3
          have C4 := Lib.hid c4
          have C5 := Lib.hid c5
          have C6 := Lib.hid c6
          have C7 := Lib.hid c7
          have C8 := Lib.hid c8
          have C9 := Lib.hid c9
          have C10 := Lib.hid c10
          have C11 := Lib.hid c11
          have C12 := Lib.hid c12
          have C13 := Lib.hid c13
          clear c1 c2 c3 c4 c5 c6 c7 c8 c9 c10 c11 c12 c13 fa fb fs fd fp hp
          go_enter Tryd.func3, Tryd.ntmps3
          go_wp2_with fail
          refine (sane_any _ (HR0.out.below B0.out)).mono ?_
          rintro e w1 ⟨rfl, b1⟩
          have B1 := Lib.hid (B0.out.trans (b1.mono B0.out.size))
          clear b1 B0
          go_wp2_with fail
          refine (C1.out _ (HR0.out.below B1.out)).mono ?_
          rintro e w2 ⟨rfl, b2⟩
          have B2 := Lib.hid (B1.out.trans (b2.mono B1.out.size))
          clear b2 B1 C1
          go_wp2_with fail
          refine (C2.out _ (HR0.out.below B2.out)).mono ?_
          rintro e w3 ⟨rfl, b3⟩
          have B3 := Lib.hid (B2.out.trans (b3.mono B2.out.size))
          clear b3 B2 C2
          go_wp2_with fail
          refine (C3.out _ (HE0.out.below B3.out)).mono ?_
          rintro e w4 ⟨rfl, b4⟩
          have B4 := Lib.hid (B3.out.trans (b4.mono B3.out.size))
          clear b4 B3 C3
          go_wp2_with fail
          refine (C4.out _ (HR0.out.below B4.out)).mono ?_
          rintro e w5 ⟨rfl, b5⟩
          have B5 := Lib.hid (B4.out.trans (b5.mono B4.out.size))
          clear b5 B4 C4
          go_wp2_with fail
          refine (C5.out _ (HR0.out.below B5.out)).mono ?_
          rintro e w6 ⟨rfl, b6⟩
          have B6 := Lib.hid (B5.out.trans (b6.mono B5.out.size))
          clear b6 B5 C5
          go_wp2_with fail
          refine (C6.out _ (HR0.out.below B6.out)).mono ?_
          rintro e w7 ⟨rfl, b7⟩
          have B7 := Lib.hid (B6.out.trans (b7.mono B6.out.size))
          clear b7 B6 C6
          go_wp2_with fail
          refine (C7.out _ (HR0.out.below B7.out)).mono ?_
          rintro e w8 ⟨rfl, b8⟩
          have B8 := Lib.hid (B7.out.trans (b8.mono B7.out.size))
          clear b8 B7 C7
          go_wp2_with fail
          refine (C8.out _ (HR0.out.below B8.out)).mono ?_
          rintro e w9 ⟨rfl, b9⟩
          have B9 := Lib.hid (B8.out.trans (b9.mono B8.out.size))
          clear b9 B8 C8
          go_wp2_with fail
          refine (C9.out _ (HR0.out.below B9.out)).mono ?_
          rintro e w10 ⟨rfl, b10⟩
          have B10 := Lib.hid (B9.out.trans (b10.mono B9.out.size))
          clear b10 B9 C9
          go_wp2_with fail
          refine (C10.out _ (HR0.out.below B10.out)).mono ?_
          rintro e w11 ⟨rfl, b11⟩
          have B11 := Lib.hid (B10.out.trans (b11.mono B10.out.size))
          clear b11 B10 C10
          go_wp2_with fail
          refine (C11.out _ (HR0.out.below B11.out)).mono ?_
          rintro e w12 ⟨rfl, b12⟩
          have B12 := Lib.hid (B11.out.trans (b12.mono B11.out.size))
          clear b12 B11 C11
          go_wp2_with fail
          refine (C12.out _ (HR0.out.below B12.out)).mono ?_
          rintro e w13 ⟨rfl, b13⟩
          have B13 := Lib.hid (B12.out.trans (b13.mono B12.out.size))
          clear b13 B12 C12
          go_wp2_with fail
          refine (C13.out _ (HR0.out.below B13.out)).mono ?_
          rintro e w14 ⟨rfl, b14⟩
          have B14 := Lib.hid (B13.out.trans (b14.mono B13.out.size))
          clear b14 B13 C13
          go_wp2
          go_ret
          exact ⟨rfl, B14.out⟩
        · rw [sgn_gt hgt] at c10
          have g1 : ¬ a < b := by omega
          generalize textI a = X at *
          generalize textI b = Y at *
          have C1 := Lib.hid c1
          have C2 := Lib.hid c2
          have C3 := Lib.hid c3
          have C4 := Lib.hid c4
          have C5 := Lib.hid c5
          have C6 := Lib.hid c6
          have C7 := Lib.hid c7
          have C8 := Lib.hid c8
          have C9 := Lib.hid c9
          have C10 := Lib.hid c10
          have C11 := Lib.hid c11
          have C12 := Lib.hid c12
          have C13 := Lib.hid c13
          clear c1 c2 c3 c4 c5 c6 c7 c8 c9 c10 c11 c12 c13 fa fb fs fd fp hp
          go_enter Tryd.func3, Tryd.ntmps3
          go_wp2_with fail
          refine (sane_any _ (HR0.out.below B0.out)).mono ?_
          rintro e w1 ⟨rfl, b1⟩
          have B1 := Lib.hid (B0.out.trans (b1.mono B0.out.size))
          clear b1 B0
          go_wp2_with fail
          refine (C1.out _ (HR0.out.below B1.out)).mono ?_
          rintro e w2 ⟨rfl, b2⟩
          have B2 := Lib.hid (B1.out.trans (b2.mono B1.out.size))
          clear b2 B1 C1
          go_wp2_with fail
          refine (C2.out _ (HR0.out.below B2.out)).mono ?_
          rintro e w3 ⟨rfl, b3⟩
          have B3 := Lib.hid (B2.out.trans (b3.mono B2.out.size))
          clear b3 B2 C2
          go_wp2_with fail
          refine (C3.out _ (HE0.out.below B3.out)).mono ?_
          rintro e w4 ⟨rfl, b4⟩
          have B4 := Lib.hid (B3.out.trans (b4.mono B3.out.size))
          clear b4 B3 C3
          go_wp2_with fail
          refine (C4.out _ (HR0.out.below B4.out)).mono ?_
          rintro e w5 ⟨rfl, b5⟩
          have B5 := Lib.hid (B4.out.trans (b5.mono B4.out.size))
          clear b5 B4 C4
          go_wp2_with fail
          refine (C5.out _ (HR0.out.below B5.out)).mono ?_
          rintro e w6 ⟨rfl, b6⟩
          have B6 := Lib.hid (B5.out.trans (b6.mono B5.out.size))
          clear b6 B5 C5
          go_wp2_with fail
          refine (C6.out _ (HR0.out.below B6.out)).mono ?_
          rintro e w7 ⟨rfl, b7⟩
          have B7 := Lib.hid (B6.out.trans (b7.mono B6.out.size))
          clear b7 B6 C6
          go_wp2_with fail
          refine (C7.out _ (HR0.out.below B7.out)).mono ?_
          rintro e w8 ⟨rfl, b8⟩
          have B8 := Lib.hid (B7.out.trans (b8.mono B7.out.size))
          clear b8 B7 C7
          go_wp2_with fail
          refine (C8.out _ (HR0.out.below B8.out)).mono ?_
          rintro e w9 ⟨rfl, b9⟩
          have B9 := Lib.hid (B8.out.trans (b9.mono B8.out.size))
          clear b9 B8 C8
          go_wp2_with fail
          refine (C9.out _ (HR0.out.below B9.out)).mono ?_
          rintro e w10 ⟨rfl, b10⟩
          have B10 := Lib.hid (B9.out.trans (b10.mono B9.out.size))
          clear b10 B9 C9
          go_wp2_with fail
          refine (C10.out _ (HR0.out.below B10.out)).mono ?_
          rintro e w11 ⟨rfl, b11⟩
          have B11 := Lib.hid (B10.out.trans (b11.mono B10.out.size))
          clear b11 B10 C10
          go_wp2_with fail
          refine (C11.out _ (HR0.out.below B11.out)).mono ?_
          rintro e w12 ⟨rfl, b12⟩
          have B12 := Lib.hid (B11.out.trans (b12.mono B11.out.size))
          clear b12 B11 C11
          go_wp2_with fail
          refine (C12.out _ (HR0.out.below B12.out)).mono ?_
          rintro e w13 ⟨rfl, b13⟩
          have B13 := Lib.hid (B12.out.trans (b13.mono B12.out.size))
          clear b13 B12 C12
          go_wp2_with fail
          refine (C13.out _ (HR0.out.below B13.out)).mono ?_
          rintro e w14 ⟨rfl, b14⟩
          have B14 := Lib.hid (B13.out.trans (b14.mono B13.out.size))
          clear b14 B13 C13
          go_wp2
          go_ret
          exact ⟨rfl, B14.out⟩
      · have hu := huniq (T + 1) (R - b) (by rw [Int.mul_add, ← hTR]; omega) (by omega) (by omega)
        rw [hu.1, hu.2] at c11
        have w1 : IntKind.i64.wrap (R - b) = R - b := IntWalk.i64_in _ (by omega)
        have w2 : IntKind.i64.wrap (T + 1) = T + 1 := IntWalk.i64_in _ (by omega)
        have c12 := fun W hW => from_i (T + 1) (by omega) (by omega) W hW
        have c13 := fun W hW => from_i (R - b) (by omega) (by omega) W hW
        generalize textI (T + 1) = TQ at *
        generalize textI (R - b) = TR at *
        have w3 : wrap64 T = T := by unfold wrap64; omega
        have w4 : wrap64 (T - 1) = T - 1 := by unfold wrap64; omega
        have w5 : wrap64 (T + 1) = T + 1 := by unfold wrap64; omega
        clear huniq hTR hTb hq fq hu
        rcases Int.lt_trichotomy a b with hlt | heq | hgt
        · rw [sgn_lt hlt] at c10
          have g1 : ¬ b < a := by omega
          generalize textI a = X at *
          generalize textI b = Y at *
          have C1 := Lib.hid c1
          have C2 := Lib.hid c2
          have C3 := Lib.hid c3
          have C4 := Lib.hid c4
          have C5 := Lib.hid c5
          have C6 := Lib.hid c6
          have C7 := Lib.hid c7
          have C8 := Lib.hid c8
          have C9 := Lib.hid c9
          have C10 := Lib.hid c10
          have C11 := Lib.hid c11
          have C12 := Lib.hid c12
          have C13 := Lib.hid c13
          clear c1 c2 c3 c4 c5 c6 c7 c8 c9 c10 c11 c12 c13 fa fb fs fd fp hp
          go_enter Tryd.func3, Tryd.ntmps3
          go_wp2_with fail
          refine (sane_any _ (HR0.out.below B0.out)).mono ?_
          rintro e w1 ⟨rfl, b1⟩
          have B1 := Lib.hid (B0.out.trans (b1.mono B0.out.size))
          clear b1 B0
          go_wp2_with fail
          refine (C1.out _ (HR0.out.below B1.out)).mono ?_
          rintro e w2 ⟨rfl, b2⟩
          have B2 := Lib.hid (B1.out.trans (b2.mono B1.out.size))
          clear b2 B1 C1
          go_wp2_with fail
          refine (C2.out _ (HR0.out.below B2.out)).mono ?_
          rintro e w3 ⟨rfl, b3⟩
          have B3 := Lib.hid (B2.out.trans (b3.mono B2.out.size))
          clear b3 B2 C2
          go_wp2_with fail
          refine (C3.out _ (HE0.out.below B3.out)).mono ?_
          rintro e w4 ⟨rfl, b4⟩
          have B4 := Lib.hid (B3.out.trans (b4.mono B3.out.size))
          clear b4 B3 C3
          go_wp2_with fail
          refine (C4.out _ (HR0.out.below B4.out)).mono ?_
          rintro e w5 ⟨rfl, b5⟩
          have B5 := Lib.hid (B4.out.trans (b5.mono B4.out.size))
          clear b5 B4 C4
          go_wp2_with fail
          refine (C5.out _ (HR0.out.below B5.out)).mono ?_
          rintro e w6 ⟨rfl, b6⟩
          have B6 := Lib.hid (B5.out.trans (b6.mono B5.out.size))
          clear b6 B5 C5
          go_wp2_with fail
          refine (C6.out _ (HR0.out.below B6.out)).mono ?_
          rintro e w7 ⟨rfl, b7⟩
          have B7 := Lib.hid (B6.out.trans (b7.mono B6.out.size))
          clear b7 B6 C6
          go_wp2_with fail
          refine (C7.out _ (HR0.out.below B7.out)).mono ?_
          rintro e w8 ⟨rfl, b8⟩
          have B8 := Lib.hid (B7.out.trans (b8.mono B7.out.size))
          clear b8 B7 C7
          go_wp2_with fail
          refine (C8.out _ (HR0.out.below B8.out)).mono ?_
          rintro e w9 ⟨rfl, b9⟩
          have B9 := Lib.hid (B8.out.trans (b9.mono B8.out.size))
          clear b9 B8 C8
          go_wp2_with fail
          refine (C9.out _ (HR0.out.below B9.out)).mono ?_
          rintro e w10 ⟨rfl, b10⟩
          have B10 := Lib.hid (B9.out.trans (b10.mono B9.out.size))
          clear b10 B9 C9
          go_wp2_with fail
          refine (C10.out _ (HR0.out.below B10.out)).mono ?_
          rintro e w11 ⟨rfl, b11⟩
          have B11 := Lib.hid (B10.out.trans (b11.mono B10.out.size))
          clear b11 B10 C10
          go_wp2_with fail
          refine (C11.out _ (HR0.out.below B11.out)).mono ?_
          rintro e w12 ⟨rfl, b12⟩
          have B12 := Lib.hid (B11.out.trans (b12.mono B11.out.size))
          clear b12 B11 C11
          go_wp2_with fail
          refine (C12.out _ (HR0.out.below B12.out)).mono ?_
          rintro e w13 ⟨rfl, b13⟩
          have B13 := Lib.hid (B12.out.trans (b13.mono B12.out.size))
          clear b13 B12 C12
          go_wp2_with fail
          refine (C13.out _ (HR0.out.below B13.out)).mono ?_
          rintro e w14 ⟨rfl, b14⟩
          have B14 := Lib.hid (B13.out.trans (b14.mono B13.out.size))
          clear b14 B13 C13
          go_wp2
          go_ret
          exact ⟨rfl, B14.out⟩
        · have hsg : sgnI a b = 0 := by rw [heq]; exact sgn_eq _
          rw [hsg] at c10
          have g1 : ¬ a < b := by omega
          have g2 : ¬ b < a := by omega
          clear heq hsg
          generalize textI a = X at *
          generalize textI b = Y at *
          have C1 := Lib.hid c1
          have C2 := Lib.hid c2
          have C3 := Lib.hid c3
          have C4 := Lib.hid c4
          have C5 := Lib.hid c5
          have C6 := Lib.hid c6
          have C7 := Lib.hid c7
          have C8 := Lib.hid c8
          have C9 := Lib.hid c9
          have C10 := Lib.hid c10
          have C11 := Lib.hid c11
          have C12 := Lib.hid c12
          have C13 := Lib.hid c13
          clear c1 c2 c3 c4 c5 c6 c7 c8 c9 c10 c11 c12 c13 fa fb fs fd fp hp
          go_enter Tryd.func3, Tryd.ntmps3
          go_wp2_with fail
          refine (sane_any _ (HR0.out.below B0.out)).mono ?_
          rintro e w1 ⟨rfl, b1⟩
          have B1 := Lib.hid (B0.out.trans (b1.mono B0.out.size))
          clear b1 B0
          go_wp2_with fail
          refine (C1.out _ (HR0.out.below B1.out)).mono ?_
          rintro e w2 ⟨rfl, b2⟩
          have B2 := Lib.hid (B1.out.trans (b2.mono B1.out.size))
          clear b2 B1 C1
          go_wp2_with fail
          refine (C2.out _ (HR0.out.below B2.out)).mono ?_
          rintro e w3 ⟨rfl, b3⟩
          have B3 := Lib.hid (B2.out.trans (b3.mono B2.out.size))
          clear b3 B2 C2
          go_wp2_with fail
          refine (C3.out _ (HE0.out.below B3.out)).mono ?_
          rintro e w4 ⟨rfl, b4⟩
          have B4 := Lib.hid (B3.out.trans (b4.mono B3.out.size))
          clear b4 B3 C3
          go_wp2_with fail
          refine (C4.out _ (HR0.out.below B4.out)).mono ?_
          rintro e w5 ⟨rfl, b5⟩
          have B5 := Lib.hid (B4.out.trans (b5.mono B4.out.size))
          clear b5 B4 C4
          go_wp2_with fail
          refine (C5.out _ (HR0.out.below B5.out)).mono ?_
          rintro e w6 ⟨rfl, b6⟩
          have B6 := Lib.hid (B5.out.trans (b6.mono B5.out.size))
          clear b6 B5 C5
          go_wp2_with fail
          refine (C6.out _ (HR0.out.below B6.out)).mono ?_
          rintro e w7 ⟨rfl, b7⟩
          have B7 := Lib.hid (B6.out.trans (b7.mono B6.out.size))
          clear b7 B6 C6
          go_wp2_with fail
          refine (C7.out _ (HR0.out.below B7.out)).mono ?_
          rintro e w8 ⟨rfl, b8⟩
          have B8 := Lib.hid (B7.out.trans (b8.mono B7.out.size))
          clear b8 B7 C7
          go_wp2_with fail
          refine (C8.out _ (HR0.out.below B8.out)).mono ?_
          rintro e w9 ⟨rfl, b9⟩
          have B9 := Lib.hid (B8.out.trans (b9.mono B8.out.size))
          clear b9 B8 C8
          go_wp2_with fail
          refine (C9.out _ (HR0.out.below B9.out)).mono ?_
          rintro e w10 ⟨rfl, b10⟩
          have B10 := Lib.hid (B9.out.trans (b10.mono B9.out.size))
          clear b10 B9 C9
          go_wp2_with fail
          refine (C10.out _ (HR0.out.below B10.out)).mono ?_
          rintro e w11 ⟨rfl, b11⟩
          have B11 := Lib.hid (B10.out.trans (b11.mono B10.out.size))
          clear b11 B10 C10
          go_wp2_with fail
          refine (C11.out _ (HR0.out.below B11.out)).mono ?_
          rintro e w12 ⟨rfl, b12⟩
          have B12 := Lib.hid (B11.out.trans (b12.mono B11.out.size))
          clear b12 B11 C11
          go_wp2_with fail
          refine (C12.out _ (HR0.out.below B12.out)).mono ?_
          rintro e w13 ⟨rfl, b13⟩
          have B13 := Lib.hid (B12.out.trans (b13.mono B12.out.size))
          clear b13 B12 C12
          go_wp2_with fail
          refine (C13.out _ (HR0.out.below B13.out)).mono ?_
          rintro e w14 ⟨rfl, b14⟩
          have B14 := Lib.hid (B13.out.trans (b14.mono B13.out.size))
          clear b14 B13 C13
          go_wp2
          go_ret
          exact ⟨rfl, B14.out⟩
        · rw [sgn_gt hgt] at c10
          have g1 : ¬ a < b := by omega
          generalize textI a = X at *
          generalize textI b = Y at *
          have C1 := Lib.hid c1
          have C2 := Lib.hid c2
          have C3 := Lib.hid c3
          have C4 := Lib.hid c4
          have C5 := Lib.hid c5
          have C6 := Lib.hid c6
          have C7 := Lib.hid c7
          have C8 := Lib.hid c8
          have C9 := Lib.hid c9
          have C10 := Lib.hid c10
          have C11 := Lib.hid c11
          have C12 := Lib.hid c12
          have C13 := Lib.hid c13
          clear c1 c2 c3 c4 c5 c6 c7 c8 c9 c10 c11 c12 c13 fa fb fs fd fp hp
          go_enter Tryd.func3, Tryd.ntmps3
          go_wp2_with fail
          refine (sane_any _ (HR0.out.below B0.out)).mono ?_
          rintro e w1 ⟨rfl, b1⟩
          have B1 := Lib.hid (B0.out.trans (b1.mono B0.out.size))
          clear b1 B0
          go_wp2_with fail
          refine (C1.out _ (HR0.out.below B1.out)).mono ?_
          rintro e w2 ⟨rfl, b2⟩
          have B2 := Lib.hid (B1.out.trans (b2.mono B1.out.size))
          clear b2 B1 C1
          go_wp2_with fail
          refine (C2.out _ (HR0.out.below B2.out)).mono ?_
          rintro e w3 ⟨rfl, b3⟩
          have B3 := Lib.hid (B2.out.trans (b3.mono B2.out.size))
          clear b3 B2 C2
          go_wp2_with fail
          refine (C3.out _ (HE0.out.below B3.out)).mono ?_
          rintro e w4 ⟨rfl, b4⟩
          have B4 := Lib.hid (B3.out.trans (b4.mono B3.out.size))
          clear b4 B3 C3
          go_wp2_with fail
          refine (C4.out _ (HR0.out.below B4.out)).mono ?_
          rintro e w5 ⟨rfl, b5⟩
          have B5 := Lib.hid (B4.out.trans (b5.mono B4.out.size))
          clear b5 B4 C4
          go_wp2_with fail
          refine (C5.out _ (HR0.out.below B5.out)).mono ?_
          rintro e w6 ⟨rfl, b6⟩
          have B6 := Lib.hid (B5.out.trans (b6.mono B5.out.size))
          clear b6 B5 C5
          go_wp2_with fail
          refine (C6.out _ (HR0.out.below B6.out)).mono ?_
          rintro e w7 ⟨rfl, b7⟩
          have B7 := Lib.hid (B6.out.trans (b7.mono B6.out.size))
          clear b7 B6 C6
          go_wp2_with fail
          refine (C7.out _ (HR0.out.below B7.out)).mono ?_
          rintro e w8 ⟨rfl, b8⟩
          have B8 := Lib.hid (B7.out.trans (b8.mono B7.out.size))
          clear b8 B7 C7
          go_wp2_with fail
          refine (C8.out _ (HR0.out.below B8.out)).mono ?_
          rintro e w9 ⟨rfl, b9⟩
          have B9 := Lib.hid (B8.out.trans (b9.mono B8.out.size))
          clear b9 B8 C8
          go_wp2_with fail
          refine (C9.out _ (HR0.out.below B9.out)).mono ?_
          rintro e w10 ⟨rfl, b10⟩
          have B10 := Lib.hid (B9.out.trans (b10.mono B9.out.size))
          clear b10 B9 C9
          go_wp2_with fail
          refine (C10.out _ (HR0.out.below B10.out)).mono ?_
          rintro e w11 ⟨rfl, b11⟩
          have B11 := Lib.hid (B10.out.trans (b11.mono B10.out.size))
          clear b11 B10 C10
          go_wp2_with fail
          refine (C11.out _ (HR0.out.below B11.out)).mono ?_
          rintro e w12 ⟨rfl, b12⟩
          have B12 := Lib.hid (B11.out.trans (b12.mono B11.out.size))
          clear b12 B11 C11
          go_wp2_with fail
          refine (C12.out _ (HR0.out.below B12.out)).mono ?_
          rintro e w13 ⟨rfl, b13⟩
          have B13 := Lib.hid (B12.out.trans (b13.mono B12.out.size))
          clear b13 B12 C12
          go_wp2_with fail
          refine (C13.out _ (HR0.out.below B13.out)).mono ?_
          rintro e w14 ⟨rfl, b14⟩
          have B14 := Lib.hid (B13.out.trans (b14.mono B13.out.size))
          clear b14 B13 C13
          go_wp2
          go_ret
          exact ⟨rfl, B14.out⟩
    · have hu := huniq T R hTR (by omega) (by omega)
      rw [hu.1, hu.2] at c11
      have c12 := fun W hW => from_i T (by omega) (by omega) W hW
      have c13 := fun W hW => from_i R (by omega) (by omega) W hW
      generalize textI T = TQ at *
      generalize textI R = TR at *
      have w3 : wrap64 T = T := by unfold wrap64; omega
      clear huniq hTR hTb hq fq hu
      rcases Int.lt_trichotomy a b with hlt | heq | hgt
      · rw [sgn_lt hlt] at c10
        have g1 : ¬ b < a := by omega
        generalize textI a = X at *
        generalize textI b = Y at *
        have C1 := Lib.hid c1
        have C2 := Lib.hid c2
        have C3 := Lib.hid c3
        have C4 := Lib.hid c4
        have C5 := Lib.hid c5
        have C6 := Lib.hid c6
        have C7 := Lib.hid c7
        have C8 := Lib.hid c8
        have C9 := Lib.hid c9
        have C10 := Lib.hid c10
        have C11 := Lib.hid c11
        have C12 := Lib.hid c12
        have C13 := Lib.hid c13
        clear c1 c2 c3 c4 c5 c6 c7 c8 c9 c10 c11 c12 c13 fa fb fs fd fp hp
        go_enter Tryd.func3, Tryd.ntmps3
        go_wp2_with fail
        refine (sane_any _ (HR0.out.below B0.out)).mono ?_
        rintro e w1 ⟨rfl, b1⟩
        have B1 := Lib.hid (B0.out.trans (b1.mono B0.out.size))
        clear b1 B0
        go_wp2_with fail
        refine (C1.out _ (HR0.out.below B1.out)).mono ?_
        rintro e w2 ⟨rfl, b2⟩
        have B2 := Lib.hid (B1.out.trans (b2.mono B1.out.size))
        clear b2 B1 C1
        go_wp2_with fail
        refine (C2.out _ (HR0.out.below B2.out)).mono ?_
        rintro e w3 ⟨rfl, b3⟩
        have B3 := Lib.hid (B2.out.trans (b3.mono B2.out.size))
        clear b3 B2 C2
        go_wp2_with fail
        refine (C3.out _ (HE0.out.below B3.out)).mono ?_
        rintro e w4 ⟨rfl, b4⟩
        have B4 := Lib.hid (B3.out.trans (b4.mono B3.out.size))
        clear b4 B3 C3
        go_wp2_with fail
        refine (C4.out _ (HR0.out.below B4.out)).mono ?_
        rintro e w5 ⟨rfl, b5⟩
        have B5 := Lib.hid (B4.out.trans (b5.mono B4.out.size))
        clear b5 B4 C4
        go_wp2_with fail
        refine (C5.out _ (HR0.out.below B5.out)).mono ?_
        rintro e w6 ⟨rfl, b6⟩
        have B6 := Lib.hid (B5.out.trans (b6.mono B5.out.size))
        clear b6 B5 C5
        go_wp2_with fail
        refine (C6.out _ (HR0.out.below B6.out)).mono ?_
        rintro e w7 ⟨rfl, b7⟩
        have B7 := Lib.hid (B6.out.trans (b7.mono B6.out.size))
        clear b7 B6 C6
        go_wp2_with fail
        refine (C7.out _ (HR0.out.below B7.out)).mono ?_
        rintro e w8 ⟨rfl, b8⟩
        have B8 := Lib.hid (B7.out.trans (b8.mono B7.out.size))
        clear b8 B7 C7
        go_wp2_with fail
        refine (C8.out _ (HR0.out.below B8.out)).mono ?_
        rintro e w9 ⟨rfl, b9⟩
        have B9 := Lib.hid (B8.out.trans (b9.mono B8.out.size))
        clear b9 B8 C8
        go_wp2_with fail
        refine (C9.out _ (HR0.out.below B9.out)).mono ?_
        rintro e w10 ⟨rfl, b10⟩
        have B10 := Lib.hid (B9.out.trans (b10.mono B9.out.size))
        clear b10 B9 C9
        go_wp2_with fail
        refine (C10.out _ (HR0.out.below B10.out)).mono ?_
        rintro e w11 ⟨rfl, b11⟩
        have B11 := Lib.hid (B10.out.trans (b11.mono B10.out.size))
        clear b11 B10 C10
        go_wp2_with fail
        refine (C11.out _ (HR0.out.below B11.out)).mono ?_
        rintro e w12 ⟨rfl, b12⟩
        have B12 := Lib.hid (B11.out.trans (b12.mono B11.out.size))
        clear b12 B11 C11
        go_wp2_with fail
        refine (C12.out _ (HR0.out.below B12.out)).mono ?_
        rintro e w13 ⟨rfl, b13⟩
        have B13 := Lib.hid (B12.out.trans (b13.mono B12.out.size))
        clear b13 B12 C12
        go_wp2_with fail
        refine (C13.out _ (HR0.out.below B13.out)).mono ?_
        rintro e w14 ⟨rfl, b14⟩
        have B14 := Lib.hid (B13.out.trans (b14.mono B13.out.size))
        clear b14 B13 C13
        go_wp2
        go_ret
        exact ⟨rfl, B14.out⟩
      · have hsg : sgnI a b = 0 := by rw [heq]; exact sgn_eq _
        rw [hsg] at c10
        have g1 : ¬ a < b := by omega
        have g2 : ¬ b < a := by omega
        clear heq hsg
        generalize textI a = X at *
        generalize textI b = Y at *
        have C1 := Lib.hid c1
        have C2 := Lib.hid c2
        have C3 := Lib.hid c3
        have C4 := Lib.hid c4
        have C5 := Lib.hid c5
        have C6 := Lib.hid c6
        have C7 := Lib.hid c7
        have C8 := Lib.hid c8
        have C9 := Lib.hid c9
        have C10 := Lib.hid c10
        have C11 := Lib.hid c11
        have C12 := Lib.hid c12
        have C13 := Lib.hid c13
        clear c1 c2 c3 c4 c5 c6 c7 c8 c9 c10 c11 c12 c13 fa fb fs fd fp hp
        go_enter Tryd.func3, Tryd.ntmps3
        go_wp2_with fail
        refine (sane_any _ (HR0.out.below B0.out)).mono ?_
        rintro e w1 ⟨rfl, b1⟩
        have B1 := Lib.hid (B0.out.trans (b1.mono B0.out.size))
        clear b1 B0
        go_wp2_with fail
        refine (C1.out _ (HR0.out.below B1.out)).mono ?_
        rintro e w2 ⟨rfl, b2⟩
        have B2 := Lib.hid (B1.out.trans (b2.mono B1.out.size))
        clear b2 B1 C1
        go_wp2_with fail
        refine (C2.out _ (HR0.out.below B2.out)).mono ?_
        rintro e w3 ⟨rfl, b3⟩
        have B3 := Lib.hid (B2.out.trans (b3.mono B2.out.size))
        clear b3 B2 C2
        go_wp2_with fail
        refine (C3.out _ (HE0.out.below B3.out)).mono ?_
        rintro e w4 ⟨rfl, b4⟩
        have B4 := Lib.hid (B3.out.trans (b4.mono B3.out.size))
        clear b4 B3 C3
        go_wp2_with fail
        refine (C4.out _ (HR0.out.below B4.out)).mono ?_
        rintro e w5 ⟨rfl, b5⟩
        have B5 := Lib.hid (B4.out.trans (b5.mono B4.out.size))
        clear b5 B4 C4
        go_wp2_with fail
        refine (C5.out _ (HR0.out.below B5.out)).mono ?_
        rintro e w6 ⟨rfl, b6⟩
        have B6 := Lib.hid (B5.out.trans (b6.mono B5.out.size))
        clear b6 B5 C5
        go_wp2_with fail
        refine (C6.out _ (HR0.out.below B6.out)).mono ?_
        rintro e w7 ⟨rfl, b7⟩
        have B7 := Lib.hid (B6.out.trans (b7.mono B6.out.size))
        clear b7 B6 C6
        go_wp2_with fail
        refine (C7.out _ (HR0.out.below B7.out)).mono ?_
        rintro e w8 ⟨rfl, b8⟩
        have B8 := Lib.hid (B7.out.trans (b8.mono B7.out.size))
        clear b8 B7 C7
        go_wp2_with fail
        refine (C8.out _ (HR0.out.below B8.out)).mono ?_
        rintro e w9 ⟨rfl, b9⟩
        have B9 := Lib.hid (B8.out.trans (b9.mono B8.out.size))
        clear b9 B8 C8
        go_wp2_with fail
        refine (C9.out _ (HR0.out.below B9.out)).mono ?_
        rintro e w10 ⟨rfl, b10⟩
        have B10 := Lib.hid (B9.out.trans (b10.mono B9.out.size))
        clear b10 B9 C9
        go_wp2_with fail
        refine (C10.out _ (HR0.out.below B10.out)).mono ?_
        rintro e w11 ⟨rfl, b11⟩
        have B11 := Lib.hid (B10.out.trans (b11.mono B10.out.size))
        clear b11 B10 C10
        go_wp2_with fail
        refine (C11.out _ (HR0.out.below B11.out)).mono ?_
        rintro e w12 ⟨rfl, b12⟩
        have B12 := Lib.hid (B11.out.trans (b12.mono B11.out.size))
        clear b12 B11 C11
        go_wp2_with fail
        refine (C12.out _ (HR0.out.below B12.out)).mono ?_
        rintro e w13 ⟨rfl, b13⟩
        have B13 := Lib.hid (B12.out.trans (b13.mono B12.out.size))
        clear b13 B12 C12
        go_wp2_with fail
        refine (C13.out _ (HR0.out.below B13.out)).mono ?_
        rintro e w14 ⟨rfl, b14⟩
        have B14 := Lib.hid (B13.out.trans (b14.mono B13.out.size))
        clear b14 B13 C13
        go_wp2
        go_ret
        exact ⟨rfl, B14.out⟩
      · rw [sgn_gt hgt] at c10
        have g1 : ¬ a < b := by omega
        generalize textI a = X at *
        generalize textI b = Y at *
        have C1 := Lib.hid c1
        have C2 := Lib.hid c2
        have C3 := Lib.hid c3
        have C4 := Lib.hid c4
        have C5 := Lib.hid c5
        have C6 := Lib.hid c6
        have C7 := Lib.hid c7
        have C8 := Lib.hid c8
        have C9 := Lib.hid c9
        have C10 := Lib.hid c10
        have C11 := Lib.hid c11
        have C12 := Lib.hid c12
        have C13 := Lib.hid c13
        clear c1 c2 c3 c4 c5 c6 c7 c8 c9 c10 c11 c12 c13 fa fb fs fd fp hp
        go_enter Tryd.func3, Tryd.ntmps3
        go_wp2_with fail
        refine (sane_any _ (HR0.out.below B0.out)).mono ?_
        rintro e w1 ⟨rfl, b1⟩
        have B1 := Lib.hid (B0.out.trans (b1.mono B0.out.size))
        clear b1 B0
        go_wp2_with fail
        refine (C1.out _ (HR0.out.below B1.out)).mono ?_
        rintro e w2 ⟨rfl, b2⟩
        have B2 := Lib.hid (B1.out.trans (b2.mono B1.out.size))
        clear b2 B1 C1
        go_wp2_with fail
        refine (C2.out _ (HR0.out.below B2.out)).mono ?_
        rintro e w3 ⟨rfl, b3⟩
        have B3 := Lib.hid (B2.out.trans (b3.mono B2.out.size))
        clear b3 B2 C2
        go_wp2_with fail
        refine (C3.out _ (HE0.out.below B3.out)).mono ?_
        rintro e w4 ⟨rfl, b4⟩
        have B4 := Lib.hid (B3.out.trans (b4.mono B3.out.size))
        clear b4 B3 C3
        go_wp2_with fail
        refine (C4.out _ (HR0.out.below B4.out)).mono ?_
        rintro e w5 ⟨rfl, b5⟩
        have B5 := Lib.hid (B4.out.trans (b5.mono B4.out.size))
        clear b5 B4 C4
        go_wp2_with fail
        refine (C5.out _ (HR0.out.below B5.out)).mono ?_
        rintro e w6 ⟨rfl, b6⟩
        have B6 := Lib.hid (B5.out.trans (b6.mono B5.out.size))
        clear b6 B5 C5
        go_wp2_with fail
        refine (C6.out _ (HR0.out.below B6.out)).mono ?_
        rintro e w7 ⟨rfl, b7⟩
        have B7 := Lib.hid (B6.out.trans (b7.mono B6.out.size))
        clear b7 B6 C6
        go_wp2_with fail
        refine (C7.out _ (HR0.out.below B7.out)).mono ?_
        rintro e w8 ⟨rfl, b8⟩
        have B8 := Lib.hid (B7.out.trans (b8.mono B7.out.size))
        clear b8 B7 C7
        go_wp2_with fail
        refine (C8.out _ (HR0.out.below B8.out)).mono ?_
        rintro e w9 ⟨rfl, b9⟩
        have B9 := Lib.hid (B8.out.trans (b9.mono B8.out.size))
        clear b9 B8 C8
        go_wp2_with fail
        refine (C9.out _ (HR0.out.below B9.out)).mono ?_
        rintro e w10 ⟨rfl, b10⟩
        have B10 := Lib.hid (B9.out.trans (b10.mono B9.out.size))
        clear b10 B9 C9
        go_wp2_with fail
        refine (C10.out _ (HR0.out.below B10.out)).mono ?_
        rintro e w11 ⟨rfl, b11⟩
        have B11 := Lib.hid (B10.out.trans (b11.mono B10.out.size))
        clear b11 B10 C10
        go_wp2_with fail
        refine (C11.out _ (HR0.out.below B11.out)).mono ?_
        rintro e w12 ⟨rfl, b12⟩
        have B12 := Lib.hid (B11.out.trans (b12.mono B11.out.size))
        clear b12 B11 C11
        go_wp2_with fail
        refine (C12.out _ (HR0.out.below B12.out)).mono ?_
        rintro e w13 ⟨rfl, b13⟩
        have B13 := Lib.hid (B12.out.trans (b13.mono B12.out.size))
        clear b13 B12 C12
        go_wp2_with fail
        refine (C13.out _ (HR0.out.below B13.out)).mono ?_
        rintro e w14 ⟨rfl, b14⟩
        have B14 := Lib.hid (B13.out.trans (b14.mono B13.out.size))
        clear b14 B13 C13
        go_wp2
        go_ret
        exact ⟨rfl, B14.out⟩
end Go.Proofs.YtildgpahacaglaaDoor
