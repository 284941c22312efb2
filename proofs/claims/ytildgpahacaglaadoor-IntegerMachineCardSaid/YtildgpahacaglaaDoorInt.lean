/-
  The contracts of package integer.
-/
import Derived.Test.YtildgpahacaglaaDoorIntC
namespace Go.Proofs.YtildgpahacaglaaDoor
open Go Go.Proofs Go.RowKit Go.Lib

theorem len_of_le {N A : Nat} {m : Nat} (h : N ≤ A) (hA : (grps A).length ≤ m) : (grps N).length ≤ m :=
  grps_length_le m N (Nat.lt_of_le_of_lt h ((grps_length_iff m A).1 hA))
theorem len_sum {A B : Nat} {m : Nat} (hA : (grps A).length ≤ m) (hB : (grps B).length ≤ m) : (grps (A + B)).length ≤ m + 1 := by
  apply grps_length_le
  have h1 := (grps_length_iff m A).1 hA
  have h2 := (grps_length_iff m B).1 hB
  rw [Nat.pow_succ]
  generalize 10000 ^ m = p at *
  omega
theorem len_prod {A B : Nat} {m n : Nat} (hA : (grps A).length ≤ m) (hB : (grps B).length ≤ n) : (grps (A * B)).length ≤ m + n := by
  apply grps_length_le
  have h1 := (grps_length_iff m A).1 hA
  have h2 := (grps_length_iff n B).1 hB
  rw [Nat.pow_add]
  exact Nat.mul_lt_mul'' h1 h2
theorem intD_decide (x : Int) : intD (decide (x < 0)) x.natAbs = x := intD_self x

theorem valid_i (s : ByteArray) (hs : s.size ≤ 1099511627776) (w : World) (_ : Ready w) :
    Calls Tryd.prog 19 #[.string s] w fun e w' => e = .returned (.bool (validB s)) ∧ Below w.heap.size w w' := by
  refine (valid_w s hs w).mono ?_
  rintro e w' ⟨rfl, rfl⟩
  exact ⟨rfl, Below.refl _ _⟩
theorem add_i (s t : ByteArray) (hs : s.size ≤ 1099511627776) (ht : t.size ≤ 1099511627776) (w : World) (hR : Ready w) :
    Calls Tryd.prog 14 #[.string s, .string t] w fun e w' => e = .returned (.tuple #[.string (opT (· + ·) s t), .int .i64 (opZ (· + ·) s t)]) ∧ Below w.heap.size w w' := by
  have c := combine_plus (· + ·) s t hs ht w hR (fun x y hx hy => Nat.le_trans (len_of_le (Int.natAbs_add_le x y) (len_sum (fits_groups hx) (fits_groups hy))) (by omega)) (fun W a1 m1 c1 a2 m2 c2 _ l1 l2 h1 h2 => by
    have := plusN_any (decide (numB s < 0)) (decide (numB t < 0)) _ _ a1 a2 m1 m2 c1 c2 W h1 h2 (by omega) (by omega)
    rw [intD_decide, intD_decide] at this
    exact this)
  obtain ⟨T, hT⟩ : ∃ T, opT (· + ·) s t = T := ⟨_, rfl⟩
  obtain ⟨Z, hZ⟩ : ∃ T, opZ (· + ·) s t = T := ⟨_, rfl⟩
  rw [hT, hZ] at c ⊢
  have C := Lib.hid c
  clear c hT hZ
  go_enter Tryd.func14, Tryd.ntmps14
  go_wp2_with fail
  refine C.out.mono ?_
  rintro e w1 ⟨rfl, b⟩
  go_wp2_with fail
  go_ret2
  exact ⟨rfl, b⟩
theorem sub_i (s t : ByteArray) (hs : s.size ≤ 1099511627776) (ht : t.size ≤ 1099511627776) (w : World) (hR : Ready w) :
    Calls Tryd.prog 15 #[.string s, .string t] w fun e w' => e = .returned (.tuple #[.string (opT (· - ·) s t), .int .i64 (opZ (· - ·) s t)]) ∧ Below w.heap.size w w' := by
  have c := combine_minus (· - ·) s t hs ht w hR (fun x y hx hy => Nat.le_trans (len_of_le (Int.natAbs_sub_le x y) (len_sum (fits_groups hx) (fits_groups hy))) (by omega)) (fun W a1 m1 c1 a2 m2 c2 _ l1 l2 h1 h2 => by
    have := minusN_any (decide (numB s < 0)) (decide (numB t < 0)) _ _ a1 a2 m1 m2 c1 c2 W h1 h2 (by omega) (by omega)
    rw [intD_decide, intD_decide] at this
    exact this)
  obtain ⟨T, hT⟩ : ∃ T, opT (· - ·) s t = T := ⟨_, rfl⟩
  obtain ⟨Z, hZ⟩ : ∃ T, opZ (· - ·) s t = T := ⟨_, rfl⟩
  rw [hT, hZ] at c ⊢
  have C := Lib.hid c
  clear c hT hZ
  go_enter Tryd.func15, Tryd.ntmps15
  go_wp2_with fail
  refine C.out.mono ?_
  rintro e w1 ⟨rfl, b⟩
  go_wp2_with fail
  go_ret2
  exact ⟨rfl, b⟩
theorem mul_i (s t : ByteArray) (hs : s.size ≤ 1099511627776) (ht : t.size ≤ 1099511627776) (w : World) (hR : Ready w) :
    Calls Tryd.prog 16 #[.string s, .string t] w fun e w' => e = .returned (.tuple #[.string (opT (· * ·) s t), .int .i64 (opZ (· * ·) s t)]) ∧ Below w.heap.size w w' := by
  have c := combine_times (· * ·) s t hs ht w hR (fun x y hx hy => Nat.le_trans (by rw [Int.natAbs_mul]; exact len_prod (fits_groups hx) (fits_groups hy)) (by omega)) (fun W a1 m1 c1 a2 m2 c2 _ l1 l2 h1 h2 => by
    have := timesN_any (decide (numB s < 0)) (decide (numB t < 0)) _ _ a1 a2 m1 m2 c1 c2 W h1 h2 (by omega)
    rw [intD_decide, intD_decide] at this
    exact this)
  obtain ⟨T, hT⟩ : ∃ T, opT (· * ·) s t = T := ⟨_, rfl⟩
  obtain ⟨Z, hZ⟩ : ∃ T, opZ (· * ·) s t = T := ⟨_, rfl⟩
  rw [hT, hZ] at c ⊢
  have C := Lib.hid c
  clear c hT hZ
  go_enter Tryd.func16, Tryd.ntmps16
  go_wp2_with fail
  refine C.out.mono ?_
  rintro e w1 ⟨rfl, b⟩
  go_wp2_with fail
  go_ret2
  exact ⟨rfl, b⟩
theorem gcd_le_sum (m n : Nat) : Nat.gcd m n ≤ m + n := by
  rcases Nat.eq_zero_or_pos m with h | h
  · subst h; rw [Nat.gcd_zero_left]; omega
  · have := Nat.gcd_le_left n h; omega
theorem gcd_i (s t : ByteArray) (hs : s.size ≤ 1099511627776) (ht : t.size ≤ 1099511627776) (w : World) (hR : Ready w) :
    Calls Tryd.prog 21 #[.string s, .string t] w fun e w' => e = .returned (.tuple #[.string (opT gcdI s t), .int .i64 (opZ gcdI s t)]) ∧ Below w.heap.size w w' := by
  have c := combine_gcd gcdI s t hs ht w hR (fun x y hx hy => Nat.le_trans (len_of_le (show (gcdI x y).natAbs ≤ x.natAbs + y.natAbs by unfold gcdI; rw [Int.natAbs_natCast]; exact gcd_le_sum _ _) (len_sum (fits_groups hx) (fits_groups hy))) (by omega)) (fun W a1 m1 c1 a2 m2 c2 hW l1 l2 h1 h2 =>
    gcdN_any (decide (numB s < 0)) (decide (numB t < 0)) _ _ a1 a2 m1 m2 c1 c2 W h1 h2 (by omega) (by omega) hW)
  obtain ⟨T, hT⟩ : ∃ T, opT gcdI s t = T := ⟨_, rfl⟩
  obtain ⟨Z, hZ⟩ : ∃ T, opZ gcdI s t = T := ⟨_, rfl⟩
  rw [hT, hZ] at c ⊢
  have C := Lib.hid c
  clear c hT hZ
  go_enter Tryd.func21, Tryd.ntmps21
  go_wp2_with fail
  refine C.out.mono ?_
  rintro e w1 ⟨rfl, b⟩
  go_wp2_with fail
  go_ret2
  exact ⟨rfl, b⟩
theorem neg_pos {x : Int} (h : decide (x < 0) = true) : x.natAbs ≠ 0 := by
  have := of_decide_eq_true h
  omega
set_option maxRecDepth 100000 in
set_option maxHeartbeats 4000000 in
theorem cmp_i (s t : ByteArray) (hs : s.size ≤ 1099511627776) (ht : t.size ≤ 1099511627776) (w : World) (_ : Ready w) :
    Calls Tryd.prog 17 #[.string s, .string t] w fun e w' => e = .returned (.int .i64 (cmpB s t)) ∧ Below w.heap.size w w' := by
  have cv1 := fun W => valid_w s hs W
  have cv2 := fun W => valid_w t ht W
  unfold cmpB
  cases hv1 : validB s with
  | false =>
    rw [hv1] at cv1
    have CV1 := Lib.hid cv1
    clear cv1 cv2 hv1
    go_enter Tryd.func17, Tryd.ntmps17
    go_wp2_with fail
    refine (CV1.out _).mono ?_
    rintro e w1 ⟨rfl, rfl⟩
    go_wp2_with fail
    go_ret
    exact ⟨rfl, Below.refl _ _⟩
  | true =>
    cases hv2 : validB t with
    | false =>
      rw [hv1] at cv1
      rw [hv2] at cv2
      have CV1 := Lib.hid cv1; have CV2 := Lib.hid cv2
      clear cv1 cv2 hv1 hv2
      go_enter Tryd.func17, Tryd.ntmps17
      go_wp2_with fail
      refine (CV1.out _).mono ?_
      rintro e w1 ⟨rfl, rfl⟩
      go_wp2_with fail
      refine (CV2.out _).mono ?_
      rintro e w1 ⟨rfl, rfl⟩
      go_wp2_with fail
      go_ret
      exact ⟨rfl, Below.refl _ _⟩
    | true =>
      have n1 := fun W => numberOf_any s hv1 W
      have n2 := fun W => numberOf_any t hv2 W
      have cc := fun W a1 m1 c1 a2 m2 c2 h1 h2 => numCmp_any (decide (numB s < 0)) (decide (numB t < 0)) _ _ neg_pos neg_pos a1 a2 m1 m2 c1 c2 W h1 h2
      simp only [intD_decide] at cc
      rw [hv1] at cv1
      rw [hv2] at cv2
      rw [show (true && true) = true from rfl, if_pos rfl]
      rw [show (if numB s < numB t then (-1 : Int) else if numB t < numB s then 1 else 0) = sgnI (numB s) (numB t) from rfl]
      obtain ⟨X, hX⟩ : ∃ X, sgnI (numB s) (numB t) = X := ⟨_, rfl⟩
      rw [hX]
      simp only [hX] at cc
      obtain ⟨N1, hN1⟩ : ∃ N, (numB s).natAbs = N := ⟨_, rfl⟩
      obtain ⟨N2, hN2⟩ : ∃ N, (numB t).natAbs = N := ⟨_, rfl⟩
      obtain ⟨b1, hb1⟩ : ∃ N, decide (numB s < 0) = N := ⟨_, rfl⟩
      obtain ⟨b2, hb2⟩ : ∃ N, decide (numB t < 0) = N := ⟨_, rfl⟩
      rw [hN1, hb1] at n1
      rw [hN2, hb2] at n2
      simp only [hN1, hN2, hb1, hb2] at cc
      have CV1 := Lib.hid cv1; have CV2 := Lib.hid cv2; have C1 := Lib.hid n1; have C2 := Lib.hid n2; have HC := Lib.hid cc
      clear cv1 cv2 cc hv1 hv2 n1 n2 hX hN1 hN2 hb1 hb2
      go_enter Tryd.func17, Tryd.ntmps17
      go_wp2_with fail
      refine (CV1.out _).mono ?_
      rintro e w1 ⟨rfl, rfl⟩
      go_wp2_with fail
      refine (CV2.out _).mono ?_
      rintro e w1 ⟨rfl, rfl⟩
      go_wp2_with fail
      refine (C1.out _).mono ?_
      rintro e w1 ⟨ad1, m1, k1, rfl, h1, hw1⟩
      have H1 := Lib.hid h1; have HW1 := Lib.hid hw1
      clear h1 hw1
      go_wp2_with fail
      refine (C2.out _).mono ?_
      rintro e w2 ⟨ad2, m2, k2, rfl, h2, hw2⟩
      have cf := HC.out w2 ad1 m1 k1 ad2 m2 k2 (H1.out.below hw2 (Nat.le_refl _)) h2
      have CF := Lib.hid cf; have HB12 := Lib.hid (below_of HW1.out hw2)
      clear h2 hw2 cf H1 HW1
      go_wp2_with fail
      refine CF.out.mono ?_
      rintro e w3 ⟨rfl, hw3⟩
      have HB13 := Lib.hid (below_of HB12.out hw3)
      clear hw3 CF
      go_wp2_with fail
      go_ret
      exact ⟨rfl, HB13.out⟩
theorem from_i (n : Int) (hlo : -9223372036854775808 ≤ n) (hhi : n ≤ 9223372036854775807) (w : World) (hR : Ready w) :
    Calls Tryd.prog 12 #[.int .i64 n] w fun e w' => e = .returned (.string (textI n)) ∧ Below w.heap.size w w' := by
  have c := strconv_Itoa n hlo hhi w hR
  rw [itoa_textI] at c
  obtain ⟨T, hT⟩ : ∃ T, textI n = T := ⟨_, rfl⟩
  rw [hT] at c ⊢
  have C := Lib.hid c
  clear c hT
  go_enter Tryd.func12, Tryd.ntmps12
  go_wp2_with fail
  refine C.out.mono ?_
  rintro e w1 ⟨rfl, k, os, rfl⟩
  have hb : Below w.heap.size w («Sort».grow (w.drewN k) os) := below_of (below_drewN (Below.refl _ _) k) (Lib.below_grow _ _ (Nat.le_refl _) 0 os)
  have HB := Lib.hid hb
  clear hb
  go_wp2_with fail
  go_ret
  exact ⟨rfl, HB.out⟩
theorem root_unique {N a b : Nat} (ha : a * a ≤ N) (ha' : N < (a + 1) * (a + 1)) (hb : b * b ≤ N) (hb' : N < (b + 1) * (b + 1)) : a = b := by
  rcases Nat.lt_trichotomy a b with h | h | h
  · have := Nat.mul_le_mul (show a + 1 ≤ b by omega) (show a + 1 ≤ b by omega); omega
  · exact h
  · have := Nat.mul_le_mul (show b + 1 ≤ a by omega) (show b + 1 ≤ a by omega); omega
end Go.Proofs.YtildgpahacaglaaDoor
