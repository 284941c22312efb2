/-
  The contract of the reference's Div.
  The contract of the reference's FromInt.
  The contract of the reference's ToInt.
  Plain mathematics of layer 3: the square root, digit by digit.
  The contracts of the reference's trimmed and Root.
-/
import Derived.Test.YtildgpahacaglaaGreatDoorRmul
import Derived.Test.YtildgpahacaglaaGreatDoorMade
namespace Go.Proofs.YtildgpahacaglaaGreatDoor
open Go Go.Proofs Go.RowKit Go.Lib

theorem hold_one (W : World) : HoldI (W.alloc (.cells #[.int .i64 1] 3)) (some ⟨W.heap.size, 0, none⟩) 1 (digs 1) := by
  refine ⟨by decide, by decide, .inr ⟨W.heap.size, 0, rfl, by simp, new_num1 .i64 W 1 1 rfl _⟩⟩
set_option maxRecDepth 100000 in
set_option maxHeartbeats 8000000 in
theorem divR_any (s t : ByteArray) (hs : s.size ≤ 1099511627776) (ht : t.size ≤ 1099511627776) (w : World) :
    Calls Tryz.prog 14 #[.string s, .string t] w fun e w' => e = .returned (.tuple #[.string (divQ s t), .string (divR s t), .int .i64 (divZ s t)]) ∧ Below w.heap.size w w' := by
  have va := fun W => valid_any s hs W
  have vb := fun W => valid_any t ht W
  unfold divQ divR divZ
  by_cases h1 : validB s = true
  · by_cases h2 : validB t = true
    · rw [h1] at va
      rw [h2] at vb
      obtain ⟨f1, g1⟩ := text_valid h1
      obtain ⟨f2, g2⟩ := text_valid h2
      rw [h1, h2, Bool.true_and, Bool.true_and]
      obtain ⟨x, hx⟩ : ∃ x, numB s = x := ⟨_, rfl⟩
      obtain ⟨y, hy⟩ : ∃ x, numB t = x := ⟨_, rfl⟩
      rw [hx] at f1 g1 ⊢
      rw [hy] at f2 g2 ⊢
      by_cases hy0 : y = 0
      · have ht48 : t = ⟨#[48]⟩ := by rw [g2, hy0]; rfl
        have e1 : (t.toList == (⟨#[48]⟩ : ByteArray).toList) = true := by rw [str_eq_iff, decide_eq_true ht48]
        have e3 : (t.toList == [48]) = true := by rw [← list48]; exact e1
        have hdz : decide (y ≠ 0) = false := by rw [hy0]; rfl
        rw [hdz, if_neg (by simp), if_neg (by simp), if_neg (by simp)]
        have VA := Lib.hid va; have VB := Lib.hid vb
        clear va vb g1 g2 hx hy f1 f2 h1 h2 ht48 hy0 hdz
        go_enter Tryz.func14, Tryz.ntmps14
        go_wp2_with fail
        refine (VA.out _).mono ?_
        rintro e w1 ⟨rfl, rfl⟩
        go_wp2_with fail
        refine (VB.out _).mono ?_
        rintro e w2 ⟨rfl, rfl⟩
        go_wp2
        go_ret3
        exact ⟨rfl, Below.refl _ _⟩
      · have ht48 : ¬ t = ⟨#[48]⟩ := fun e => hy0 (textI_inj (show textI y = textI 0 by rw [← g2, e]; rfl))
        have e1 : (t.toList == (⟨#[48]⟩ : ByteArray).toList) = false := by rw [str_eq_iff, decide_eq_false ht48]
        have e3 : (t.toList == [48]) = false := by rw [← list48]; exact e1
        have hdz : decide (y ≠ 0) = true := decide_eq_true hy0
        rw [hdz, if_pos rfl, if_pos rfl, if_pos rfl]
        have d1 := fun W => digits_any x (fits_size f1) W
        have d2 := fun W => digits_any y (fits_size f2) W
        rw [← g1] at d1
        rw [← g2] at d2
        have l1 := fits_length f1
        have l2 := fits_length f2
        obtain ⟨c, hc⟩ : ∃ b, decide (y < 0) = b := ⟨_, rfl⟩
        have i2 := intD_self y
        rw [hc] at d2 i2
        have i1 := intD_self x
        have hyn : 0 < y.natAbs := by omega
        have cd := fun W a1 k1 a2 k2 (q1 : HoldI W a1 k1 (digs x.natAbs)) (q2 : HoldI W a2 k2 (digs y.natAbs)) => divided_any x.natAbs y.natAbs hyn a1 a2 k1 k2 _ _ W q1 q2 rfl rfl (by omega) (by omega)
        have hql : (digs (x.natAbs / y.natAbs)).length ≤ 200 := by have := digs_length_mono (Nat.div_le_self x.natAbs y.natAbs); omega
        have hmod := Nat.mod_lt x.natAbs hyn
        by_cases hfit : (x / y).natAbs < 10 ^ 200
        · by_cases hx0 : x < 0
          · have DX : decide (x < 0) = true := decide_eq_true hx0
            by_cases hmore : 0 < x.natAbs % y.natAbs
            · rw [DX] at d1 i1
              obtain ⟨hq, hr⟩ := div_more i1 i2 hy0 hmore
              have hbc : (true != c) = (!c) := by cases c <;> rfl
              rw [hbc] at hq
              have ck := fun W a1 k1 (q1 : HoldI W a1 k1 (digs (x.natAbs / y.natAbs + 1))) => checked_any (!c) (x.natAbs / y.natAbs + 1) a1 k1 _ W q1 rfl
              have ct := fun W a1 k1 (q1 : HoldI W a1 k1 (digs (y.natAbs - x.natAbs % y.natAbs))) => text_any false (y.natAbs - x.natAbs % y.natAbs) a1 k1 _ W q1 rfl
              rw [hq] at ck
              have hcast : intD false (y.natAbs - x.natAbs % y.natAbs) = (((y.natAbs - x.natAbs % y.natAbs) : Nat) : Int) := rfl
              rw [hcast, hr] at ct
              have hT : resT (x / y) = textI (x / y) := by unfold resT; rw [if_pos hfit]
              have hZ : resZ (x / y) = 0 := by unfold resZ; rw [if_pos hfit]
              have hR : resR x y = textI (x % y) := by unfold resR; rw [if_pos hfit]
              rw [hT, hZ] at ck
              rw [hT, hZ, hR]
              have cp := fun W a1 k1 (q1 : HoldI W a1 k1 (digs (x.natAbs / y.natAbs))) => plus_any (x.natAbs / y.natAbs) 1 a1 (some ⟨W.heap.size, 0, none⟩) k1 1 _ 1 (W.alloc (.cells #[.int .i64 1] 3)) (q1.below ((Below.refl W.heap.size W).alloc (Nat.le_refl _) _) (Nat.le_refl _)) (hold_one W) rfl rfl (by omega) (by omega)
              have cm := fun W a1 k1 a2 k2 (q1 : HoldI W a1 k1 (digs y.natAbs)) (q2 : HoldI W a2 k2 (digs (x.natAbs % y.natAbs))) => minus_any y.natAbs (x.natAbs % y.natAbs) (by omega) a1 a2 k1 k2 _ _ W q1 q2 rfl rfl
              have hrlen : 0 < (digs (x.natAbs % y.natAbs)).length := by rw [digs_pos (by omega)]; simp
              obtain ⟨TQ, hTQ⟩ : ∃ T, textI (x / y) = T := ⟨_, rfl⟩
              obtain ⟨TR, hTR⟩ : ∃ T, textI (x % y) = T := ⟨_, rfl⟩
              rw [hTQ] at ck
              rw [hTR] at ct
              rw [hTQ, hTR]
              obtain ⟨qn, hqn⟩ : ∃ q, x.natAbs / y.natAbs = q := ⟨_, rfl⟩
              obtain ⟨rn, hrn⟩ : ∃ q, x.natAbs % y.natAbs = q := ⟨_, rfl⟩
              obtain ⟨r2, hr2⟩ : ∃ q, y.natAbs - x.natAbs % y.natAbs = q := ⟨_, rfl⟩
              rw [hr2] at ct
              rw [hrn] at hr2
              rw [hqn, hrn] at cd
              rw [hqn] at ck cp
              rw [hrn] at cm hrlen
              simp only [hr2] at cm
              obtain ⟨m, hm⟩ : ∃ m, (digs x.natAbs).length = m := ⟨_, rfl⟩
              obtain ⟨n, hn⟩ : ∃ m, (digs y.natAbs).length = m := ⟨_, rfl⟩
              rw [hm] at d1 cd
              rw [hn] at d2 cd cm
              obtain ⟨rl, hrl⟩ : ∃ m, (digs rn).length = m := ⟨_, rfl⟩
              rw [hrl] at hrlen
              rw [hrl] at cm
              have HRL := Lib.hid hrl
              have hrp : (0 : Int) < (rl : Int) := by omega
              have VA := Lib.hid va; have VB := Lib.hid vb; have D1 := Lib.hid d1; have D2 := Lib.hid d2; have CD := Lib.hid cd; have CK := Lib.hid ck; have CT := Lib.hid ct; have CP := Lib.hid cp; have CM := Lib.hid cm
              clear va vb d1 d2 cd ck ct i1 i2 hc hm hn h1 h2 g1 g2 hx hy f1 f2 l1 l2 hq hr hT hZ hR hTQ hTR hqn hrn hrl hbc hcast hql hmod hyn hy0 hdz ht48 hfit DX hx0 cp cm hr2 hmore
              go_enter Tryz.func14, Tryz.ntmps14
              go_wp2_with fail
              refine (VA.out _).mono ?_
              rintro e w1 ⟨rfl, rfl⟩
              go_wp2_with fail
              refine (VB.out _).mono ?_
              rintro e w2 ⟨rfl, rfl⟩
              go_wp2_with fail
              refine (D1.out _).mono ?_
              rintro e w3 ⟨a1, k1, rfl, q1, b3⟩
              go_wp2_with fail
              refine (D2.out _).mono ?_
              rintro e w4 ⟨a2, k2, rfl, q2, b4⟩
              have B4 := Lib.hid (b3.trans (b4.mono b3.size))
              have Q2 := Lib.hid q2
              have C := Lib.hid (CD.out w4 a1 k1 a2 k2 (q1.below b4 (Nat.le_refl _)) q2)
              clear q1 q2 b3 b4 CD
              go_wp2_with fail
              refine C.out.mono ?_
              rintro e w5 ⟨a5, k5, a6, k6, rfl, q5, q6, b5⟩
              have B5 := Lib.hid (B4.out.trans (b5.mono B4.out.size))
              have Q5 := Lib.hid q5; have Q6 := Lib.hid q6; have L5 := Lib.hid (Q2.out.below b5 (Nat.le_refl _))
              rw [HRL.out]
              clear q5 q6 b5 Q2 C
              go_wp2_with fail
              refine (CP.out w5 a5 k5 Q5.out).mono ?_
              rintro e w6 ⟨a7, k7, rfl, q7, b7, _⟩
              have b7' : Below w5.heap.size w5 w6 := ((Below.refl w5.heap.size w5).alloc (Nat.le_refl _) _).trans (b7.mono (by simp))
              have B6 := Lib.hid (B5.out.trans (b7'.mono B5.out.size)); have Q7 := Lib.hid q7
              have C := Lib.hid (CM.out w6 a2 k2 a6 k6 (L5.out.below b7' (Nat.le_refl _)) (Q6.out.below b7' (Nat.le_refl _)))
              clear q7 b7 b7' CP CM Q5 Q6 L5
              go_wp2_with fail
              refine C.out.mono ?_
              rintro e w7 ⟨a8, k8, rfl, q8, b8, _⟩
              have B7 := Lib.hid (B6.out.trans (b8.mono B6.out.size)); have Q8 := Lib.hid q8
              have CC := Lib.hid (CK.out w7 a7 k7 (Q7.out.below b8 (Nat.le_refl _)))
              clear q8 b8 CK Q7 C
              go_wp2_with fail
              refine CC.out.mono ?_
              rintro e w8 ⟨rfl, b8⟩
              have B8 := Lib.hid (B7.out.trans (b8.mono B7.out.size))
              have CX := Lib.hid (CT.out w8 a8 k8 (Q8.out.below b8 (Nat.le_refl _)))
              clear b8 CT Q8 CC
              go_wp2_with fail
              refine CX.out.mono ?_
              rintro e w9 ⟨rfl, b9⟩
              go_wp2
              go_ret3
              exact ⟨rfl, B8.out.trans (b9.mono B8.out.size)⟩
            · replace hmore : x.natAbs % y.natAbs = 0 := by omega
              rw [DX] at d1 i1
              obtain ⟨hq, hr⟩ := div_plain i1 i2 hy0 (.inr hmore)
              have hbc : (true != c) = (!c) := by cases c <;> rfl
              rw [hbc] at hq
              have ck := fun W a1 k1 (q1 : HoldI W a1 k1 (digs (x.natAbs / y.natAbs))) => checked_any (!c) (x.natAbs / y.natAbs) a1 k1 _ W q1 rfl
              have ct := fun W a1 k1 (q1 : HoldI W a1 k1 (digs (x.natAbs % y.natAbs))) => text_any false (x.natAbs % y.natAbs) a1 k1 _ W q1 rfl
              rw [hq] at ck
              have hcast : intD false (x.natAbs % y.natAbs) = (((x.natAbs % y.natAbs) : Nat) : Int) := rfl
              rw [hcast, hr] at ct
              have hT : resT (x / y) = textI (x / y) := by unfold resT; rw [if_pos hfit]
              have hZ : resZ (x / y) = 0 := by unfold resZ; rw [if_pos hfit]
              have hR : resR x y = textI (x % y) := by unfold resR; rw [if_pos hfit]
              rw [hT, hZ] at ck
              rw [hT, hZ, hR]
              have hrlen : (digs (x.natAbs % y.natAbs)).length = 0 := by rw [hmore]; rfl
              obtain ⟨TQ, hTQ⟩ : ∃ T, textI (x / y) = T := ⟨_, rfl⟩
              obtain ⟨TR, hTR⟩ : ∃ T, textI (x % y) = T := ⟨_, rfl⟩
              rw [hTQ] at ck
              rw [hTR] at ct
              rw [hTQ, hTR]
              obtain ⟨qn, hqn⟩ : ∃ q, x.natAbs / y.natAbs = q := ⟨_, rfl⟩
              obtain ⟨rn, hrn⟩ : ∃ q, x.natAbs % y.natAbs = q := ⟨_, rfl⟩
              rw [hqn, hrn] at cd
              rw [hqn] at ck
              rw [hrn] at ct hrlen
              obtain ⟨m, hm⟩ : ∃ m, (digs x.natAbs).length = m := ⟨_, rfl⟩
              obtain ⟨n, hn⟩ : ∃ m, (digs y.natAbs).length = m := ⟨_, rfl⟩
              rw [hm] at d1 cd
              rw [hn] at d2 cd
              obtain ⟨rl, hrl⟩ : ∃ m, (digs rn).length = m := ⟨_, rfl⟩
              rw [hrl] at hrlen
              have HRL := Lib.hid hrl
              subst hrlen
              have VA := Lib.hid va; have VB := Lib.hid vb; have D1 := Lib.hid d1; have D2 := Lib.hid d2; have CD := Lib.hid cd; have CK := Lib.hid ck; have CT := Lib.hid ct
              clear va vb d1 d2 cd ck ct i1 i2 hc hm hn h1 h2 g1 g2 hx hy f1 f2 l1 l2 hq hr hT hZ hR hTQ hTR hqn hrn hrl hbc hcast hql hmod hyn hy0 hdz ht48 hfit DX hx0 hmore
              go_enter Tryz.func14, Tryz.ntmps14
              go_wp2_with fail
              refine (VA.out _).mono ?_
              rintro e w1 ⟨rfl, rfl⟩
              go_wp2_with fail
              refine (VB.out _).mono ?_
              rintro e w2 ⟨rfl, rfl⟩
              go_wp2_with fail
              refine (D1.out _).mono ?_
              rintro e w3 ⟨a1, k1, rfl, q1, b3⟩
              go_wp2_with fail
              refine (D2.out _).mono ?_
              rintro e w4 ⟨a2, k2, rfl, q2, b4⟩
              have B4 := Lib.hid (b3.trans (b4.mono b3.size))
              have Q2 := Lib.hid q2
              have C := Lib.hid (CD.out w4 a1 k1 a2 k2 (q1.below b4 (Nat.le_refl _)) q2)
              clear q1 q2 b3 b4 CD
              go_wp2_with fail
              refine C.out.mono ?_
              rintro e w5 ⟨a5, k5, a6, k6, rfl, q5, q6, b5⟩
              have B5 := Lib.hid (B4.out.trans (b5.mono B4.out.size))
              have Q5 := Lib.hid q5; have Q6 := Lib.hid q6; have L5 := Lib.hid (Q2.out.below b5 (Nat.le_refl _))
              rw [HRL.out]
              clear q5 q6 b5 Q2 C
              have CC := Lib.hid (CK.out w5 a5 k5 Q5.out)
              clear CK Q5 L5
              go_wp2_with fail
              refine CC.out.mono ?_
              rintro e w8 ⟨rfl, b8⟩
              have B8 := Lib.hid (B5.out.trans (b8.mono B5.out.size))
              have CX := Lib.hid (CT.out w8 a6 k6 (Q6.out.below b8 (Nat.le_refl _)))
              rw [HRL.out] at CX
              clear b8 CT Q6 CC
              go_wp2_with fail
              refine CX.out.mono ?_
              rintro e w9 ⟨rfl, b9⟩
              go_wp2
              go_ret3
              exact ⟨rfl, B8.out.trans (b9.mono B8.out.size)⟩
          · have DX : decide (x < 0) = false := decide_eq_false hx0
            rw [DX] at d1 i1
            obtain ⟨hq, hr⟩ := div_plain i1 i2 hy0 (.inl rfl)
            have hbc : (false != c) = c := by cases c <;> rfl
            rw [hbc] at hq
            have ck := fun W a1 k1 (q1 : HoldI W a1 k1 (digs (x.natAbs / y.natAbs))) => checked_any c (x.natAbs / y.natAbs) a1 k1 _ W q1 rfl
            have ct := fun W a1 k1 (q1 : HoldI W a1 k1 (digs (x.natAbs % y.natAbs))) => text_any false (x.natAbs % y.natAbs) a1 k1 _ W q1 rfl
            rw [hq] at ck
            have hcast : intD false (x.natAbs % y.natAbs) = (((x.natAbs % y.natAbs) : Nat) : Int) := rfl
            rw [hcast, hr] at ct
            have hT : resT (x / y) = textI (x / y) := by unfold resT; rw [if_pos hfit]
            have hZ : resZ (x / y) = 0 := by unfold resZ; rw [if_pos hfit]
            have hR : resR x y = textI (x % y) := by unfold resR; rw [if_pos hfit]
            rw [hT, hZ] at ck
            rw [hT, hZ, hR]
            have hrlen : (digs (x.natAbs % y.natAbs)).length = (digs (x.natAbs % y.natAbs)).length := rfl
            obtain ⟨TQ, hTQ⟩ : ∃ T, textI (x / y) = T := ⟨_, rfl⟩
            obtain ⟨TR, hTR⟩ : ∃ T, textI (x % y) = T := ⟨_, rfl⟩
            rw [hTQ] at ck
            rw [hTR] at ct
            rw [hTQ, hTR]
            obtain ⟨qn, hqn⟩ : ∃ q, x.natAbs / y.natAbs = q := ⟨_, rfl⟩
            obtain ⟨rn, hrn⟩ : ∃ q, x.natAbs % y.natAbs = q := ⟨_, rfl⟩
            rw [hqn, hrn] at cd
            rw [hqn] at ck
            rw [hrn] at ct hrlen
            obtain ⟨m, hm⟩ : ∃ m, (digs x.natAbs).length = m := ⟨_, rfl⟩
            obtain ⟨n, hn⟩ : ∃ m, (digs y.natAbs).length = m := ⟨_, rfl⟩
            rw [hm] at d1 cd
            rw [hn] at d2 cd
            obtain ⟨rl, hrl⟩ : ∃ m, (digs rn).length = m := ⟨_, rfl⟩
            rw [hrl] at hrlen
            have HRL := Lib.hid hrl
            have VA := Lib.hid va; have VB := Lib.hid vb; have D1 := Lib.hid d1; have D2 := Lib.hid d2; have CD := Lib.hid cd; have CK := Lib.hid ck; have CT := Lib.hid ct
            clear va vb d1 d2 cd ck ct i1 i2 hc hm hn h1 h2 g1 g2 hx hy f1 f2 l1 l2 hq hr hT hZ hR hTQ hTR hqn hrn hrl hbc hcast hql hmod hyn hy0 hdz ht48 hfit DX hx0 hrlen
            go_enter Tryz.func14, Tryz.ntmps14
            go_wp2_with fail
            refine (VA.out _).mono ?_
            rintro e w1 ⟨rfl, rfl⟩
            go_wp2_with fail
            refine (VB.out _).mono ?_
            rintro e w2 ⟨rfl, rfl⟩
            go_wp2_with fail
            refine (D1.out _).mono ?_
            rintro e w3 ⟨a1, k1, rfl, q1, b3⟩
            go_wp2_with fail
            refine (D2.out _).mono ?_
            rintro e w4 ⟨a2, k2, rfl, q2, b4⟩
            have B4 := Lib.hid (b3.trans (b4.mono b3.size))
            have Q2 := Lib.hid q2
            have C := Lib.hid (CD.out w4 a1 k1 a2 k2 (q1.below b4 (Nat.le_refl _)) q2)
            clear q1 q2 b3 b4 CD
            go_wp2_with fail
            refine C.out.mono ?_
            rintro e w5 ⟨a5, k5, a6, k6, rfl, q5, q6, b5⟩
            have B5 := Lib.hid (B4.out.trans (b5.mono B4.out.size))
            have Q5 := Lib.hid q5; have Q6 := Lib.hid q6; have L5 := Lib.hid (Q2.out.below b5 (Nat.le_refl _))
            rw [HRL.out]
            clear q5 q6 b5 Q2 C
            have CC := Lib.hid (CK.out w5 a5 k5 Q5.out)
            clear CK Q5 L5
            go_wp2_with fail
            refine CC.out.mono ?_
            rintro e w8 ⟨rfl, b8⟩
            have B8 := Lib.hid (B5.out.trans (b8.mono B5.out.size))
            have CX := Lib.hid (CT.out w8 a6 k6 (Q6.out.below b8 (Nat.le_refl _)))
            rw [HRL.out] at CX
            clear b8 CT Q6 CC
            go_wp2_with fail
            refine CX.out.mono ?_
            rintro e w9 ⟨rfl, b9⟩
            go_wp2
            go_ret3
            exact ⟨rfl, B8.out.trans (b9.mono B8.out.size)⟩
        · by_cases hx0 : x < 0
          · have DX : decide (x < 0) = true := decide_eq_true hx0
            by_cases hmore : 0 < x.natAbs % y.natAbs
            · rw [DX] at d1 i1
              obtain ⟨hq, hr⟩ := div_more i1 i2 hy0 hmore
              have hbc : (true != c) = (!c) := by cases c <;> rfl
              rw [hbc] at hq
              have ck := fun W a1 k1 (q1 : HoldI W a1 k1 (digs (x.natAbs / y.natAbs + 1))) => checked_any (!c) (x.natAbs / y.natAbs + 1) a1 k1 _ W q1 rfl
              have ct := fun W a1 k1 (q1 : HoldI W a1 k1 (digs (y.natAbs - x.natAbs % y.natAbs))) => text_any false (y.natAbs - x.natAbs % y.natAbs) a1 k1 _ W q1 rfl
              rw [hq] at ck
              have hcast : intD false (y.natAbs - x.natAbs % y.natAbs) = (((y.natAbs - x.natAbs % y.natAbs) : Nat) : Int) := rfl
              rw [hcast, hr] at ct
              have hT : resT (x / y) = ByteArray.empty := by unfold resT; rw [if_neg hfit]
              have hZ : resZ (x / y) = 30 := by unfold resZ; rw [if_neg hfit]
              have hR : resR x y = ByteArray.empty := by unfold resR; rw [if_neg hfit]
              rw [hT, hZ] at ck
              rw [hT, hZ, hR]
              have cp := fun W a1 k1 (q1 : HoldI W a1 k1 (digs (x.natAbs / y.natAbs))) => plus_any (x.natAbs / y.natAbs) 1 a1 (some ⟨W.heap.size, 0, none⟩) k1 1 _ 1 (W.alloc (.cells #[.int .i64 1] 3)) (q1.below ((Below.refl W.heap.size W).alloc (Nat.le_refl _) _) (Nat.le_refl _)) (hold_one W) rfl rfl (by omega) (by omega)
              have cm := fun W a1 k1 a2 k2 (q1 : HoldI W a1 k1 (digs y.natAbs)) (q2 : HoldI W a2 k2 (digs (x.natAbs % y.natAbs))) => minus_any y.natAbs (x.natAbs % y.natAbs) (by omega) a1 a2 k1 k2 _ _ W q1 q2 rfl rfl
              have hrlen : 0 < (digs (x.natAbs % y.natAbs)).length := by rw [digs_pos (by omega)]; simp
              obtain ⟨TQ, hTQ⟩ : ∃ T, textI (x / y) = T := ⟨_, rfl⟩
              obtain ⟨TR, hTR⟩ : ∃ T, textI (x % y) = T := ⟨_, rfl⟩
              rw [hTR] at ct
              obtain ⟨qn, hqn⟩ : ∃ q, x.natAbs / y.natAbs = q := ⟨_, rfl⟩
              obtain ⟨rn, hrn⟩ : ∃ q, x.natAbs % y.natAbs = q := ⟨_, rfl⟩
              obtain ⟨r2, hr2⟩ : ∃ q, y.natAbs - x.natAbs % y.natAbs = q := ⟨_, rfl⟩
              rw [hr2] at ct
              rw [hrn] at hr2
              rw [hqn, hrn] at cd
              rw [hqn] at ck cp
              rw [hrn] at cm hrlen
              simp only [hr2] at cm
              obtain ⟨m, hm⟩ : ∃ m, (digs x.natAbs).length = m := ⟨_, rfl⟩
              obtain ⟨n, hn⟩ : ∃ m, (digs y.natAbs).length = m := ⟨_, rfl⟩
              rw [hm] at d1 cd
              rw [hn] at d2 cd cm
              obtain ⟨rl, hrl⟩ : ∃ m, (digs rn).length = m := ⟨_, rfl⟩
              rw [hrl] at hrlen
              rw [hrl] at cm
              have HRL := Lib.hid hrl
              have hrp : (0 : Int) < (rl : Int) := by omega
              have VA := Lib.hid va; have VB := Lib.hid vb; have D1 := Lib.hid d1; have D2 := Lib.hid d2; have CD := Lib.hid cd; have CK := Lib.hid ck; have CT := Lib.hid ct; have CP := Lib.hid cp; have CM := Lib.hid cm
              clear va vb d1 d2 cd ck ct i1 i2 hc hm hn h1 h2 g1 g2 hx hy f1 f2 l1 l2 hq hr hT hZ hR hTQ hTR hqn hrn hrl hbc hcast hql hmod hyn hy0 hdz ht48 hfit DX hx0 cp cm hr2 hmore
              go_enter Tryz.func14, Tryz.ntmps14
              go_wp2_with fail
              refine (VA.out _).mono ?_
              rintro e w1 ⟨rfl, rfl⟩
              go_wp2_with fail
              refine (VB.out _).mono ?_
              rintro e w2 ⟨rfl, rfl⟩
              go_wp2_with fail
              refine (D1.out _).mono ?_
              rintro e w3 ⟨a1, k1, rfl, q1, b3⟩
              go_wp2_with fail
              refine (D2.out _).mono ?_
              rintro e w4 ⟨a2, k2, rfl, q2, b4⟩
              have B4 := Lib.hid (b3.trans (b4.mono b3.size))
              have Q2 := Lib.hid q2
              have C := Lib.hid (CD.out w4 a1 k1 a2 k2 (q1.below b4 (Nat.le_refl _)) q2)
              clear q1 q2 b3 b4 CD
              go_wp2_with fail
              refine C.out.mono ?_
              rintro e w5 ⟨a5, k5, a6, k6, rfl, q5, q6, b5⟩
              have B5 := Lib.hid (B4.out.trans (b5.mono B4.out.size))
              have Q5 := Lib.hid q5; have Q6 := Lib.hid q6; have L5 := Lib.hid (Q2.out.below b5 (Nat.le_refl _))
              rw [HRL.out]
              clear q5 q6 b5 Q2 C
              go_wp2_with fail
              refine (CP.out w5 a5 k5 Q5.out).mono ?_
              rintro e w6 ⟨a7, k7, rfl, q7, b7, _⟩
              have b7' : Below w5.heap.size w5 w6 := ((Below.refl w5.heap.size w5).alloc (Nat.le_refl _) _).trans (b7.mono (by simp))
              have B6 := Lib.hid (B5.out.trans (b7'.mono B5.out.size)); have Q7 := Lib.hid q7
              have C := Lib.hid (CM.out w6 a2 k2 a6 k6 (L5.out.below b7' (Nat.le_refl _)) (Q6.out.below b7' (Nat.le_refl _)))
              clear q7 b7 b7' CP CM Q5 Q6 L5
              go_wp2_with fail
              refine C.out.mono ?_
              rintro e w7 ⟨a8, k8, rfl, q8, b8, _⟩
              have B7 := Lib.hid (B6.out.trans (b8.mono B6.out.size)); have Q8 := Lib.hid q8
              have CC := Lib.hid (CK.out w7 a7 k7 (Q7.out.below b8 (Nat.le_refl _)))
              clear q8 b8 CK Q7 C
              go_wp2_with fail
              refine CC.out.mono ?_
              rintro e w8 ⟨rfl, b8⟩
              have B8 := Lib.hid (B7.out.trans (b8.mono B7.out.size))
              have CX := Lib.hid (CT.out w8 a8 k8 (Q8.out.below b8 (Nat.le_refl _)))
              clear b8 CT Q8 CC
              go_wp2_with fail
              refine CX.out.mono ?_
              rintro e w9 ⟨rfl, b9⟩
              go_wp2
              go_ret3
              exact ⟨rfl, B8.out.trans (b9.mono B8.out.size)⟩
            · replace hmore : x.natAbs % y.natAbs = 0 := by omega
              rw [DX] at d1 i1
              obtain ⟨hq, hr⟩ := div_plain i1 i2 hy0 (.inr hmore)
              have hbc : (true != c) = (!c) := by cases c <;> rfl
              rw [hbc] at hq
              have ck := fun W a1 k1 (q1 : HoldI W a1 k1 (digs (x.natAbs / y.natAbs))) => checked_any (!c) (x.natAbs / y.natAbs) a1 k1 _ W q1 rfl
              have ct := fun W a1 k1 (q1 : HoldI W a1 k1 (digs (x.natAbs % y.natAbs))) => text_any false (x.natAbs % y.natAbs) a1 k1 _ W q1 rfl
              rw [hq] at ck
              have hcast : intD false (x.natAbs % y.natAbs) = (((x.natAbs % y.natAbs) : Nat) : Int) := rfl
              rw [hcast, hr] at ct
              have hT : resT (x / y) = ByteArray.empty := by unfold resT; rw [if_neg hfit]
              have hZ : resZ (x / y) = 30 := by unfold resZ; rw [if_neg hfit]
              have hR : resR x y = ByteArray.empty := by unfold resR; rw [if_neg hfit]
              rw [hT, hZ] at ck
              rw [hT, hZ, hR]
              have hrlen : (digs (x.natAbs % y.natAbs)).length = 0 := by rw [hmore]; rfl
              obtain ⟨TQ, hTQ⟩ : ∃ T, textI (x / y) = T := ⟨_, rfl⟩
              obtain ⟨TR, hTR⟩ : ∃ T, textI (x % y) = T := ⟨_, rfl⟩
              rw [hTR] at ct
              obtain ⟨qn, hqn⟩ : ∃ q, x.natAbs / y.natAbs = q := ⟨_, rfl⟩
              obtain ⟨rn, hrn⟩ : ∃ q, x.natAbs % y.natAbs = q := ⟨_, rfl⟩
              rw [hqn, hrn] at cd
              rw [hqn] at ck
              rw [hrn] at ct hrlen
              obtain ⟨m, hm⟩ : ∃ m, (digs x.natAbs).length = m := ⟨_, rfl⟩
              obtain ⟨n, hn⟩ : ∃ m, (digs y.natAbs).length = m := ⟨_, rfl⟩
              rw [hm] at d1 cd
              rw [hn] at d2 cd
              obtain ⟨rl, hrl⟩ : ∃ m, (digs rn).length = m := ⟨_, rfl⟩
              rw [hrl] at hrlen
              have HRL := Lib.hid hrl
              subst hrlen
              have VA := Lib.hid va; have VB := Lib.hid vb; have D1 := Lib.hid d1; have D2 := Lib.hid d2; have CD := Lib.hid cd; have CK := Lib.hid ck; have CT := Lib.hid ct
              clear va vb d1 d2 cd ck ct i1 i2 hc hm hn h1 h2 g1 g2 hx hy f1 f2 l1 l2 hq hr hT hZ hR hTQ hTR hqn hrn hrl hbc hcast hql hmod hyn hy0 hdz ht48 hfit DX hx0 hmore
              go_enter Tryz.func14, Tryz.ntmps14
              go_wp2_with fail
              refine (VA.out _).mono ?_
              rintro e w1 ⟨rfl, rfl⟩
              go_wp2_with fail
              refine (VB.out _).mono ?_
              rintro e w2 ⟨rfl, rfl⟩
              go_wp2_with fail
              refine (D1.out _).mono ?_
              rintro e w3 ⟨a1, k1, rfl, q1, b3⟩
              go_wp2_with fail
              refine (D2.out _).mono ?_
              rintro e w4 ⟨a2, k2, rfl, q2, b4⟩
              have B4 := Lib.hid (b3.trans (b4.mono b3.size))
              have Q2 := Lib.hid q2
              have C := Lib.hid (CD.out w4 a1 k1 a2 k2 (q1.below b4 (Nat.le_refl _)) q2)
              clear q1 q2 b3 b4 CD
              go_wp2_with fail
              refine C.out.mono ?_
              rintro e w5 ⟨a5, k5, a6, k6, rfl, q5, q6, b5⟩
              have B5 := Lib.hid (B4.out.trans (b5.mono B4.out.size))
              have Q5 := Lib.hid q5; have Q6 := Lib.hid q6; have L5 := Lib.hid (Q2.out.below b5 (Nat.le_refl _))
              rw [HRL.out]
              clear q5 q6 b5 Q2 C
              have CC := Lib.hid (CK.out w5 a5 k5 Q5.out)
              clear CK Q5 L5
              go_wp2_with fail
              refine CC.out.mono ?_
              rintro e w8 ⟨rfl, b8⟩
              have B8 := Lib.hid (B5.out.trans (b8.mono B5.out.size))
              have CX := Lib.hid (CT.out w8 a6 k6 (Q6.out.below b8 (Nat.le_refl _)))
              rw [HRL.out] at CX
              clear b8 CT Q6 CC
              go_wp2_with fail
              refine CX.out.mono ?_
              rintro e w9 ⟨rfl, b9⟩
              go_wp2
              go_ret3
              exact ⟨rfl, B8.out.trans (b9.mono B8.out.size)⟩
          · have DX : decide (x < 0) = false := decide_eq_false hx0
            rw [DX] at d1 i1
            obtain ⟨hq, hr⟩ := div_plain i1 i2 hy0 (.inl rfl)
            have hbc : (false != c) = c := by cases c <;> rfl
            rw [hbc] at hq
            have ck := fun W a1 k1 (q1 : HoldI W a1 k1 (digs (x.natAbs / y.natAbs))) => checked_any c (x.natAbs / y.natAbs) a1 k1 _ W q1 rfl
            have ct := fun W a1 k1 (q1 : HoldI W a1 k1 (digs (x.natAbs % y.natAbs))) => text_any false (x.natAbs % y.natAbs) a1 k1 _ W q1 rfl
            rw [hq] at ck
            have hcast : intD false (x.natAbs % y.natAbs) = (((x.natAbs % y.natAbs) : Nat) : Int) := rfl
            rw [hcast, hr] at ct
            have hT : resT (x / y) = ByteArray.empty := by unfold resT; rw [if_neg hfit]
            have hZ : resZ (x / y) = 30 := by unfold resZ; rw [if_neg hfit]
            have hR : resR x y = ByteArray.empty := by unfold resR; rw [if_neg hfit]
            rw [hT, hZ] at ck
            rw [hT, hZ, hR]
            have hrlen : (digs (x.natAbs % y.natAbs)).length = (digs (x.natAbs % y.natAbs)).length := rfl
            obtain ⟨TQ, hTQ⟩ : ∃ T, textI (x / y) = T := ⟨_, rfl⟩
            obtain ⟨TR, hTR⟩ : ∃ T, textI (x % y) = T := ⟨_, rfl⟩
            rw [hTR] at ct
            obtain ⟨qn, hqn⟩ : ∃ q, x.natAbs / y.natAbs = q := ⟨_, rfl⟩
            obtain ⟨rn, hrn⟩ : ∃ q, x.natAbs % y.natAbs = q := ⟨_, rfl⟩
            rw [hqn, hrn] at cd
            rw [hqn] at ck
            rw [hrn] at ct hrlen
            obtain ⟨m, hm⟩ : ∃ m, (digs x.natAbs).length = m := ⟨_, rfl⟩
            obtain ⟨n, hn⟩ : ∃ m, (digs y.natAbs).length = m := ⟨_, rfl⟩
            rw [hm] at d1 cd
            rw [hn] at d2 cd
            obtain ⟨rl, hrl⟩ : ∃ m, (digs rn).length = m := ⟨_, rfl⟩
            rw [hrl] at hrlen
            have HRL := Lib.hid hrl
            have VA := Lib.hid va; have VB := Lib.hid vb; have D1 := Lib.hid d1; have D2 := Lib.hid d2; have CD := Lib.hid cd; have CK := Lib.hid ck; have CT := Lib.hid ct
            clear va vb d1 d2 cd ck ct i1 i2 hc hm hn h1 h2 g1 g2 hx hy f1 f2 l1 l2 hq hr hT hZ hR hTQ hTR hqn hrn hrl hbc hcast hql hmod hyn hy0 hdz ht48 hfit DX hx0 hrlen
            go_enter Tryz.func14, Tryz.ntmps14
            go_wp2_with fail
            refine (VA.out _).mono ?_
            rintro e w1 ⟨rfl, rfl⟩
            go_wp2_with fail
            refine (VB.out _).mono ?_
            rintro e w2 ⟨rfl, rfl⟩
            go_wp2_with fail
            refine (D1.out _).mono ?_
            rintro e w3 ⟨a1, k1, rfl, q1, b3⟩
            go_wp2_with fail
            refine (D2.out _).mono ?_
            rintro e w4 ⟨a2, k2, rfl, q2, b4⟩
            have B4 := Lib.hid (b3.trans (b4.mono b3.size))
            have Q2 := Lib.hid q2
            have C := Lib.hid (CD.out w4 a1 k1 a2 k2 (q1.below b4 (Nat.le_refl _)) q2)
            clear q1 q2 b3 b4 CD
            go_wp2_with fail
            refine C.out.mono ?_
            rintro e w5 ⟨a5, k5, a6, k6, rfl, q5, q6, b5⟩
            have B5 := Lib.hid (B4.out.trans (b5.mono B4.out.size))
            have Q5 := Lib.hid q5; have Q6 := Lib.hid q6; have L5 := Lib.hid (Q2.out.below b5 (Nat.le_refl _))
            rw [HRL.out]
            clear q5 q6 b5 Q2 C
            have CC := Lib.hid (CK.out w5 a5 k5 Q5.out)
            clear CK Q5 L5
            go_wp2_with fail
            refine CC.out.mono ?_
            rintro e w8 ⟨rfl, b8⟩
            have B8 := Lib.hid (B5.out.trans (b8.mono B5.out.size))
            have CX := Lib.hid (CT.out w8 a6 k6 (Q6.out.below b8 (Nat.le_refl _)))
            rw [HRL.out] at CX
            clear b8 CT Q6 CC
            go_wp2_with fail
            refine CX.out.mono ?_
            rintro e w9 ⟨rfl, b9⟩
            go_wp2
            go_ret3
            exact ⟨rfl, B8.out.trans (b9.mono B8.out.size)⟩
    · have h2' : validB t = false := by simpa using h2
      rw [h1] at va
      rw [h2'] at vb
      rw [h1, h2', Bool.and_false, Bool.false_and, if_neg (by simp), if_neg (by simp), if_neg (by simp)]
      have VA := Lib.hid va; have VB := Lib.hid vb
      clear va vb h1 h2 h2'
      go_enter Tryz.func14, Tryz.ntmps14
      go_wp2_with fail
      refine (VA.out _).mono ?_
      rintro e w1 ⟨rfl, rfl⟩
      go_wp2_with fail
      refine (VB.out _).mono ?_
      rintro e w2 ⟨rfl, rfl⟩
      go_wp2
      go_ret3
      exact ⟨rfl, Below.refl _ _⟩
  · have h1' : validB s = false := by simpa using h1
    rw [h1'] at va
    rw [h1', Bool.false_and, Bool.false_and, if_neg (by simp), if_neg (by simp), if_neg (by simp)]
    have VA := Lib.hid va
    clear va vb h1 h1'
    go_enter Tryz.func14, Tryz.ntmps14
    go_wp2_with fail
    refine (VA.out _).mono ?_
    rintro e w1 ⟨rfl, rfl⟩
    go_wp2
    go_ret3
    exact ⟨rfl, Below.refl _ _⟩
end Go.Proofs.YtildgpahacaglaaGreatDoor

namespace Go.Proofs.YtildgpahacaglaaGreatDoor
open Go Go.Proofs Go.RowKit Go.Lib

set_option maxRecDepth 100000 in
set_option maxHeartbeats 8000000 in
theorem fromR_any (n : Int) (hlo : -9223372036854775808 ≤ n) (hhi : n ≤ 9223372036854775807) (w : World) :
    Calls Tryz.prog 6 #[.int .i64 n] w fun e w' => e = .returned (.string (textI n)) ∧ Below w.heap.size w w' := by
  obtain ⟨N, hN⟩ : ∃ N, n.natAbs = N := ⟨_, rfl⟩
  have hN63 : N ≤ 9223372036854775808 := by omega
  have hl20 : (digs N).length ≤ 19 := digs_length_le 19 N (by omega)
  obtain ⟨T, hT⟩ : ∃ T, textI n = T := ⟨_, rfl⟩
  rw [hT]
  by_cases hneg : n < 0
  · have hnd : n = -(N : Int) := by omega
    have ct := fun W a k m (q : HoldI W a k (digs N)) (hm : (digs N).length = m) => text_any true N a k m W q hm
    have hi : intD true N = n := by simp [intD]; omega
    rw [hi, hT] at ct
    have CT := Lib.hid ct
    clear ct hi hT hN
    subst hnd
    have hlt1 : (-(N : Int) < 0) := hneg
    have hlt2 : decide (-(N : Int) < 0) = true := decide_eq_true hlt1
    have hlt3 : decide (0 < (N : Int)) = true := decide_eq_true (by omega)
    have hlt4 : decide (0 < N) = true := decide_eq_true (by omega)
    go_enter Tryz.func6, Tryz.ntmps6
    go_wp2_with fail
    go_loopw [3, 4] (fun v u wr => ∃ (out : List Nat) (M : Nat), M ≤ 9223372036854775808 ∧ u = .int .i64 (-(M : Int)) ∧ Hid (out ++ digs M = digs N) ∧ Hid (OwnI wr w.heap.size v out) ∧ Hid (Below w.heap.size w wr)) (fun _ u _ => (RowKit.intOf u).natAbs)
    case atStart => exact ⟨[], N, hN63, rfl, rfl, OwnI.nil _ _, Below.refl _ _⟩
    case round =>
      obtain ⟨out, M, hM, rfl, hap, hown, hbr⟩ := hrel
      by_cases hM0 : M = 0
      · subst hM0
        have ho : out = digs N := by rw [← hap.out, digs_zero, List.append_nil]
        subst ho
        have hz : ((-((0 : Nat) : Int)) != 0) = false := by simp
        obtain ⟨q, hq⟩ : ∃ q, (digs N).length = q := ⟨_, rfl⟩
        obtain ⟨ad, cap, rfl, hh⟩ := hown.out.holds q hq (by omega)
        have C := Lib.hid (CT.out wr ad cap q hh hq)
        clear hh hown hap CT hq hl20
        go_wp2_with fail
        refine C.out.mono ?_
        rintro e w1 ⟨rfl, b1⟩
        go_wp2
        go_ret
        exact ⟨rfl, hbr.out.trans (b1.mono hbr.out.size)⟩
      · have hMn : -(M : Int) ≠ 0 := by omega
        have hz1 : ((-(M : Int)) != 0) = true := by rw [bne_iff_ne]; exact hMn
        have hz2 : ((M : Int) != 0) = true := by rw [bne_iff_ne]; omega
        have hz3 : ((M : Int) == 0) = false := by rw [beq_eq_false_iff_ne]; omega
        have hz4 : 0 < M := by omega
        have hdp := digs_pos hM0
        obtain ⟨d, hd⟩ : ∃ d, M % 10 = d := ⟨_, rfl⟩
        obtain ⟨c, hc⟩ : ∃ d, M / 10 = d := ⟨_, rfl⟩
        rw [hd, hc] at hdp
        have hd10 : d < 10 := by omega
        have hr1 : (M : Int) % 10 = (d : Int) := by omega
        have hr2 : (M : Int) / 10 = (c : Int) := by omega
        have hr3 : Int.tmod (M : Int) 10 = (d : Int) := by rw [Int.tmod_eq_emod_of_nonneg (by omega)]; exact hr1
        have hr4 : Int.tdiv (M : Int) 10 = (c : Int) := by rw [Int.tdiv_eq_ediv_of_nonneg (by omega)]; exact hr2
        have hr5 : Int.tmod (-(M : Int)) 10 = -(d : Int) := by rw [Int.neg_tmod, hr3]
        have hr6 : Int.tdiv (-(M : Int)) 10 = -(c : Int) := by rw [Int.neg_tdiv, hr4]
        have hap2 : (out ++ [d]) ++ digs c = digs N := by rw [List.append_assoc, ← hap.out, hdp]; rfl
        have hol : out.length + 1 ≤ 17592186044416 := by
          have := congrArg List.length hap.out
          rw [List.length_append] at this; omega
        have hsize := hbr.out.size
        have hcM : c < M := by omega
        have HAP := Lib.hid hap2
        clear hap2 hdp hd hc hap hM0
        by_cases hd0 : d = 0
        · subst hd0
          have hg1 : ¬ (-((0 : Nat) : Int) < 0) := by omega
          go_wp2_with (first | (at_builtin; refine walk_pushI (w0 := w) rfl _ _ rfl w.heap.size _ out [0] rfl (hown.out.alloc _) (hbr.out.alloc hsize _) (Nat.le_trans hsize (by simp)) wr.heap.size 0 1 1 rfl rfl (new_num1 .i64 wr _ 0 (by first | rfl | omega) _) hol ?_; intro v3 W3 ho3 hb3))
          go_roundw
          case rel => exact ⟨out ++ [0], c, by omega, by first | rfl | go_num, HAP.out, ho3, hb3⟩
          case measure => simp [RowKit.intOf]; omega
        · have hg1 : -(d : Int) < 0 := by omega
          have hg2 : (0 : Int) < (d : Int) := by omega
          have hg3 : 0 < d := by omega
          go_wp2_with (first | (at_builtin; refine walk_pushI (w0 := w) rfl _ _ rfl w.heap.size _ out [d] rfl (hown.out.alloc _) (hbr.out.alloc hsize _) (Nat.le_trans hsize (by simp)) wr.heap.size 0 1 1 rfl rfl (new_num1 .i64 wr _ d (by first | rfl | omega) _) hol ?_; intro v3 W3 ho3 hb3))
          go_roundw
          case rel => exact ⟨out ++ [d], c, by omega, by first | rfl | go_num, HAP.out, ho3, hb3⟩
          case measure => simp [RowKit.intOf]; omega
  · have hnd : n = (N : Int) := by omega
    have ct := fun W a k m (q : HoldI W a k (digs N)) (hm : (digs N).length = m) => text_any false N a k m W q hm
    have hi : intD false N = n := by simp [intD]; omega
    rw [hi, hT] at ct
    have CT := Lib.hid ct
    clear ct hi hT hN
    subst hnd
    have hlt1 : ¬ ((N : Int) < 0) := hneg
    have hlt2 : decide ((N : Int) < 0) = false := decide_eq_false hlt1
    go_enter Tryz.func6, Tryz.ntmps6
    go_wp2_with fail
    go_loopw [3, 4] (fun v u wr => ∃ (out : List Nat) (M : Nat), M ≤ 9223372036854775808 ∧ u = .int .i64 ((M : Int)) ∧ Hid (out ++ digs M = digs N) ∧ Hid (OwnI wr w.heap.size v out) ∧ Hid (Below w.heap.size w wr)) (fun _ u _ => (RowKit.intOf u).natAbs)
    case atStart => exact ⟨[], N, hN63, rfl, rfl, OwnI.nil _ _, Below.refl _ _⟩
    case round =>
      obtain ⟨out, M, hM, rfl, hap, hown, hbr⟩ := hrel
      by_cases hM0 : M = 0
      · subst hM0
        have ho : out = digs N := by rw [← hap.out, digs_zero, List.append_nil]
        subst ho
        have hz : ((((0 : Nat) : Int)) != 0) = false := by simp
        obtain ⟨q, hq⟩ : ∃ q, (digs N).length = q := ⟨_, rfl⟩
        obtain ⟨ad, cap, rfl, hh⟩ := hown.out.holds q hq (by omega)
        have C := Lib.hid (CT.out wr ad cap q hh hq)
        clear hh hown hap CT hq hl20
        go_wp2_with fail
        refine C.out.mono ?_
        rintro e w1 ⟨rfl, b1⟩
        go_wp2
        go_ret
        exact ⟨rfl, hbr.out.trans (b1.mono hbr.out.size)⟩
      · have hMn : (M : Int) ≠ 0 := by omega
        have hz1 : (((M : Int)) != 0) = true := by rw [bne_iff_ne]; exact hMn
        have hz2 : ((M : Int) != 0) = true := by rw [bne_iff_ne]; omega
        have hz3 : ((M : Int) == 0) = false := by rw [beq_eq_false_iff_ne]; omega
        have hz4 : 0 < M := by omega
        have hdp := digs_pos hM0
        obtain ⟨d, hd⟩ : ∃ d, M % 10 = d := ⟨_, rfl⟩
        obtain ⟨c, hc⟩ : ∃ d, M / 10 = d := ⟨_, rfl⟩
        rw [hd, hc] at hdp
        have hd10 : d < 10 := by omega
        have hr1 : (M : Int) % 10 = (d : Int) := by omega
        have hr2 : (M : Int) / 10 = (c : Int) := by omega
        have hr3 : Int.tmod (M : Int) 10 = (d : Int) := by rw [Int.tmod_eq_emod_of_nonneg (by omega)]; exact hr1
        have hr4 : Int.tdiv (M : Int) 10 = (c : Int) := by rw [Int.tdiv_eq_ediv_of_nonneg (by omega)]; exact hr2
        have hr5 : Int.tmod (-(M : Int)) 10 = -(d : Int) := by rw [Int.neg_tmod, hr3]
        have hr6 : Int.tdiv (-(M : Int)) 10 = -(c : Int) := by rw [Int.neg_tdiv, hr4]
        have hap2 : (out ++ [d]) ++ digs c = digs N := by rw [List.append_assoc, ← hap.out, hdp]; rfl
        have hol : out.length + 1 ≤ 17592186044416 := by
          have := congrArg List.length hap.out
          rw [List.length_append] at this; omega
        have hsize := hbr.out.size
        have hcM : c < M := by omega
        have HAP := Lib.hid hap2
        clear hap2 hdp hd hc hap hM0
        have hg1 : ¬ ((d : Int) < 0) := by omega
        go_wp2_with (first | (at_builtin; refine walk_pushI (w0 := w) rfl _ _ rfl w.heap.size _ out [d] rfl (hown.out.alloc _) (hbr.out.alloc hsize _) (Nat.le_trans hsize (by simp)) wr.heap.size 0 1 1 rfl rfl (new_num1 .i64 wr _ d (by first | rfl | omega) _) hol ?_; intro v3 W3 ho3 hb3))
        go_roundw
        case rel => exact ⟨out ++ [d], c, by omega, by first | rfl | go_num, HAP.out, ho3, hb3⟩
        case measure => simp [RowKit.intOf]; omega
end Go.Proofs.YtildgpahacaglaaGreatDoor

namespace Go.Proofs.YtildgpahacaglaaGreatDoor
open Go Go.Proofs Go.RowKit Go.Lib

set_option maxRecDepth 100000 in
set_option maxHeartbeats 8000000 in
theorem toR_any (s : ByteArray) (hs : s.size ≤ 1099511627776) (w : World) :
    Calls Tryz.prog 20 #[.string s] w fun e w' => e = .returned (.tuple #[.int .i64 (toT s), .int .i64 (toZ s)]) ∧ Below w.heap.size w w' := by
  have va := fun W => valid_any s hs W
  have cmin := fun W => cmpR_any s minT hs (by decide) W
  have cmax := fun W => cmpR_any s maxT hs (by decide) W
  unfold toT toZ
  by_cases h1 : validB s = true
  · rw [h1] at va
    obtain ⟨f1, g1⟩ := text_valid h1
    have hc1 : cmpB s minT = if numB s < -9223372036854775808 then -1 else if -9223372036854775808 < numB s then 1 else 0 := by
      unfold cmpB; rw [h1, minT_valid.1, minT_valid.2]; rfl
    have hc2 : cmpB s maxT = if numB s < 9223372036854775807 then -1 else if 9223372036854775807 < numB s then 1 else 0 := by
      unfold cmpB; rw [h1, maxT_valid.1, maxT_valid.2]; rfl
    have hfm : fitM s = decide (-9223372036854775808 ≤ numB s ∧ numB s ≤ 9223372036854775807) := by unfold fitM; rw [h1, Bool.true_and]
    rw [hfm]
    obtain ⟨x, hx⟩ : ∃ x, numB s = x := ⟨_, rfl⟩
    rw [hx] at f1 g1 hc1 hc2 ⊢
    by_cases hlo : x < -9223372036854775808
    · rw [if_pos hlo] at hc1
      rw [hc1] at cmin
      rw [decide_eq_false (by omega), if_neg (by simp), if_neg (by simp)]
      have VA := Lib.hid va
      have CMIN := Lib.hid (show ∀ W, Calls Tryz.prog 24 #[.string s, .string ⟨#[45, 57, 50, 50, 51, 51, 55, 50, 48, 51, 54, 56, 53, 52, 55, 55, 53, 56, 48, 56]⟩] W _ from cmin)
      clear va cmin cmax hc1 hc2 hfm hx f1 g1 h1 hlo
      go_enter Tryz.func20, Tryz.ntmps20
      go_wp2_with fail
      refine (VA.out _).mono ?_
      rintro e w1 ⟨rfl, rfl⟩
      go_wp2_with fail
      refine (CMIN.out _).mono ?_
      rintro e w2 ⟨rfl, b2⟩
      go_wp2
      go_ret2
      exact ⟨rfl, b2⟩
    · have hz1 : ∃ z : Int, cmpB s minT = z ∧ ¬ z < 0 := ⟨_, rfl, by rw [hc1, if_neg hlo]; split <;> omega⟩
      obtain ⟨z1, hz1, hz1n⟩ := hz1
      rw [hz1] at cmin
      by_cases hhi : 9223372036854775807 < x
      · rw [if_neg (by omega), if_pos hhi] at hc2
        rw [hc2] at cmax
        rw [decide_eq_false (by omega), if_neg (by simp), if_neg (by simp)]
        have VA := Lib.hid va
        have CMIN := Lib.hid (show ∀ W, Calls Tryz.prog 24 #[.string s, .string ⟨#[45, 57, 50, 50, 51, 51, 55, 50, 48, 51, 54, 56, 53, 52, 55, 55, 53, 56, 48, 56]⟩] W _ from cmin)
        have CMAX := Lib.hid (show ∀ W, Calls Tryz.prog 24 #[.string s, .string ⟨#[57, 50, 50, 51, 51, 55, 50, 48, 51, 54, 56, 53, 52, 55, 55, 53, 56, 48, 55]⟩] W _ from cmax)
        clear va cmin cmax hc1 hc2 hfm hx f1 g1 h1 hlo hhi hz1
        go_enter Tryz.func20, Tryz.ntmps20
        go_wp2_with fail
        refine (VA.out _).mono ?_
        rintro e w1 ⟨rfl, rfl⟩
        go_wp2_with fail
        refine (CMIN.out _).mono ?_
        rintro e w2 ⟨rfl, b2⟩
        go_wp2_with fail
        refine (CMAX.out _).mono ?_
        rintro e w3 ⟨rfl, b3⟩
        go_wp2
        go_ret2
        exact ⟨rfl, b2.trans (b3.mono b2.size)⟩
      · have hz2 : ∃ z : Int, cmpB s maxT = z ∧ ¬ 0 < z := ⟨_, rfl, by rw [hc2]; split <;> (try split) <;> omega⟩
        obtain ⟨z2, hz2, hz2n⟩ := hz2
        rw [hz2] at cmax
        rw [decide_eq_true (by omega), if_pos rfl, if_pos rfl]
        obtain ⟨N, hN⟩ : ∃ N, x.natAbs = N := ⟨_, rfl⟩
        have hNf : N < 10 ^ 200 := by rw [← hN]; exact f1
        have hv := (textN_plain hNf).2
        have hdg : IsDig (digT (textN N)) := digT_dig (textN_dig N)
        have hget := fun j q hq hj => textN_digT N j q hq hj
        have hbs : bytesL s = (if x < 0 then [45] else []) ++ textN N := by rw [g1, bytesL_textI, hN]
        have hlen : (digT (textN N)).length = (textN N).length := by simp [digT]
        obtain ⟨l, hl⟩ : ∃ l, digT (textN N) = l := ⟨_, rfl⟩
        rw [hl] at hv hdg hget hlen
        obtain ⟨q, hq⟩ : ∃ q, l.length = q := ⟨_, rfl⟩
        have hgq := fun j (hj : j < q) => hget j q hq hj
        rw [hq] at hlen
        have hne := textN_ne_nil N
        have hq0 : 0 < q := by rw [hlen]; exact List.length_pos_iff.2 hne
        have VA := Lib.hid va
        have CMIN := Lib.hid (show ∀ W, Calls Tryz.prog 24 #[.string s, .string ⟨#[45, 57, 50, 50, 51, 51, 55, 50, 48, 51, 54, 56, 53, 52, 55, 55, 53, 56, 48, 56]⟩] W _ from cmin)
        have CMAX := Lib.hid (show ∀ W, Calls Tryz.prog 24 #[.string s, .string ⟨#[57, 50, 50, 51, 51, 55, 50, 48, 51, 54, 56, 53, 52, 55, 55, 53, 56, 48, 55]⟩] W _ from cmax)
        by_cases hx0 : x < 0
        · rw [if_pos hx0] at hbs
          have hss : s.size = q + 1 := by rw [← bytesL_length, hbs, List.length_append]; simp; omega
          have hsz : (s.size : Int) = (q : Int) + 1 := by omega
          have hch : ∀ k (hk : k < s.size), 1 ≤ k → (s[k]'hk).toNat = 48 + l.getD (q - 1 - (k - 1)) 0 := fun k hk hk1 => by
            rw [← bytesL_get s k hk]
            have h2 : (bytesL s)[k]'(by rw [bytesL_length]; exact hk) = (textN N).getD (k - 1) 0 := by
              simp only [hbs]
              rw [List.getElem_append_right (by simp; omega), List.getD_eq_getElem?_getD, List.getElem?_eq_getElem (by omega)]
              simp
            rw [h2]
            exact hgq _ (by omega)
          have h0s : 0 < s.size := by omega
          have h45 : (s[0]'h0s).toNat = 45 := by
            rw [← bytesL_get s 0 h0s]
            simp only [hbs]
            rfl
          have hsg : (((s[0]'h0s).toNat : Int) == 45) = true := by rw [h45]; rfl
          have hN63 : N ≤ 9223372036854775808 := by omega
          have hxN : x = -(N : Int) := by omega
          rw [hxN]
          have HCH := Lib.hid hch; have HV := Lib.hid hv; have HDG := Lib.hid hdg; have HQ := Lib.hid hq
          clear va cmin cmax hc1 hc2 hfm f1 g1 h1 hlo hhi hz1 hz2 hN hNf hv hdg hget hbs hlen hl hgq hne hq hch hx0 hxN hx h45
          go_enter Tryz.func20, Tryz.ntmps20
          go_wp2_with fail
          refine (VA.out _).mono ?_
          rintro e w1 ⟨rfl, rfl⟩
          go_wp2_with fail
          refine (CMIN.out _).mono ?_
          rintro e w2 ⟨rfl, b2⟩
          go_wp2_with fail
          refine (CMAX.out _).mono ?_
          rintro e w3 ⟨rfl, b3⟩
          have B3 := Lib.hid (b2.trans (b3.mono b2.size))
          clear b2 b3 CMIN CMAX VA
          go_wp2_with fail
          go_loop [4, 5] (fun v i => ∃ k : Nat, k ≤ s.size ∧ i = .int .i64 k ∧ v = .int .i64 (-((valD (l.drop (q - (k - 1))) : Nat) : Int))) (fun _ i => s.size - (RowKit.intOf i).toNat)
          case atStart => exact ⟨0, Nat.zero_le _, rfl, by rw [Nat.zero_sub, Nat.sub_zero, List.drop_of_length_le (by rw [HQ.out]; omega)]; rfl⟩
          case round =>
            obtain ⟨k, hk, rfl, rfl⟩ := hrel
            by_cases hlt : k < s.size
            · have hk1 : (k : Int) < (s.size : Int) := by omega
              have hix := fun w => index_str s k hlt w
              by_cases hk0 : k = 0
              · subst hk0
                rw [show (s[0]'hlt).toNat = 45 from by have := hsg; rw [beq_iff_eq] at this; omega] at hix
                go_wp2
                go_round
                case rel => exact ⟨1, by omega, by go_num, rfl⟩
                case measure => simp [RowKit.intOf]; omega
              · have hc := HCH.out k hlt (by omega)
                have hvd := valD_drop l (q - 1 - (k - 1)) (by rw [HQ.out]; omega)
                rw [show q - 1 - (k - 1) + 1 = q - (k - 1) by omega] at hvd
                have hle : valD (l.drop (q - 1 - (k - 1))) ≤ N := by
                  have h := valD_append (l.take (q - 1 - (k - 1))) (l.drop (q - 1 - (k - 1)))
                  rw [List.take_append_drop, HV.out] at h
                  have := Nat.le_mul_of_pos_left (valD (l.drop (q - 1 - (k - 1)))) (show 0 < 10 ^ (l.take (q - 1 - (k - 1))).length from Nat.pow_pos (by decide))
                  omega
                have hd10 := getD_dig HDG.out (q - 1 - (k - 1))
                obtain ⟨d, hd⟩ : ∃ d, l.getD (q - 1 - (k - 1)) 0 = d := ⟨_, rfl⟩
                rw [hd] at hc hvd hd10
                rw [hc] at hix
                rw [hvd] at hle
                have hnx : valD (l.drop (q - (k + 1 - 1))) = d + 10 * valD (l.drop (q - (k - 1))) := by rw [← hvd]; congr 2; omega
                obtain ⟨V, hV⟩ : ∃ V, valD (l.drop (q - (k - 1))) = V := ⟨_, rfl⟩
                rw [hV] at hle hnx ⊢
                obtain ⟨y, hy⟩ : ∃ y, 48 + d = y := ⟨_, rfl⟩
                rw [hy] at hix
                have hy1 : ((y : Int) == 45) = false := by rw [beq_eq_false_iff_ne]; omega
                have hw1 : IntKind.u8.wrap ((y : Int) - 48) = (d : Int) := by rw [IntKind.wrap_u8]; omega
                have hw2 : ((y : Int) - 48) % 256 = (d : Int) := by omega
                have hVi : 10 * (V : Int) + (d : Int) ≤ 9223372036854775808 := by omega
                have hp1 : IntKind.i64.wrap (10 * (V : Int)) = 10 * (V : Int) := IntWalk.i64_in _ (by omega)
                have hm1 : IntKind.i64.wrap (10 * -(V : Int)) = 10 * -(V : Int) := IntWalk.i64_in _ (by omega)
                have hm2 : IntKind.i64.wrap (-(10 * (V : Int))) = -(10 * (V : Int)) := IntWalk.i64_in _ (by omega)
                have hm3 : IntKind.i64.wrap (10 * -(V : Int) + -(d : Int)) = 10 * -(V : Int) + -(d : Int) := IntWalk.i64_in _ (by omega)
                have hm4 : IntKind.i64.wrap (-(10 * (V : Int)) + -(d : Int)) = -(10 * (V : Int)) + -(d : Int) := IntWalk.i64_in _ (by omega)
                have HNX := Lib.hid hnx
                clear hnx hvd hd hV hy hc
                go_wp2
                go_round
                case rel => exact ⟨k + 1, by omega, by go_num, by rw [HNX.out]; go_num⟩
                case measure => simp [RowKit.intOf]; omega
            · have hk1 : ¬ (k : Int) < (s.size : Int) := by omega
              have hkk : q - (k - 1) = 0 := by omega
              rw [hkk, List.drop_zero, HV.out]
              go_wp2
              go_ret2
              exact ⟨by first | rfl | simp, B3.out⟩
        · rw [if_neg hx0, List.nil_append] at hbs
          have hss : s.size = q := by rw [← bytesL_length, hbs]; exact hlen.symm
          have hsz : (s.size : Int) = (q : Int) := by omega
          have hch : ∀ k (hk : k < s.size), (s[k]'hk).toNat = 48 + l.getD (q - 1 - (k - 0)) 0 := fun k hk => by
            rw [← bytesL_get s k hk]
            have h2 : (bytesL s)[k]'(by rw [bytesL_length]; exact hk) = (textN N).getD k 0 := by
              simp only [hbs]
              rw [List.getD_eq_getElem?_getD, List.getElem?_eq_getElem (by omega)]
              simp
            rw [h2]
            exact hgq _ (by omega)
          have h0s : 0 < s.size := by omega
          have hsg : (((s[0]'h0s).toNat : Int) == 45) = false := by
            rw [beq_eq_false_iff_ne, hch 0 h0s]; omega
          have hN63 : N ≤ 9223372036854775807 := by omega
          have hxN : x = (N : Int) := by omega
          rw [hxN]
          have HCH := Lib.hid hch; have HV := Lib.hid hv; have HDG := Lib.hid hdg; have HQ := Lib.hid hq
          clear va cmin cmax hc1 hc2 hfm f1 g1 h1 hlo hhi hz1 hz2 hN hNf hv hdg hget hbs hlen hl hgq hne hq hch hx0 hxN hx
          go_enter Tryz.func20, Tryz.ntmps20
          go_wp2_with fail
          refine (VA.out _).mono ?_
          rintro e w1 ⟨rfl, rfl⟩
          go_wp2_with fail
          refine (CMIN.out _).mono ?_
          rintro e w2 ⟨rfl, b2⟩
          go_wp2_with fail
          refine (CMAX.out _).mono ?_
          rintro e w3 ⟨rfl, b3⟩
          have B3 := Lib.hid (b2.trans (b3.mono b2.size))
          clear b2 b3 CMIN CMAX VA
          go_wp2_with fail
          go_loop [4, 5] (fun v i => ∃ k : Nat, k ≤ s.size ∧ i = .int .i64 k ∧ v = .int .i64 (((valD (l.drop (q - (k - 0))) : Nat) : Int))) (fun _ i => s.size - (RowKit.intOf i).toNat)
          case atStart => exact ⟨0, Nat.zero_le _, rfl, by rw [Nat.zero_sub, Nat.sub_zero, List.drop_of_length_le (by rw [HQ.out]; omega)]; rfl⟩
          case round =>
            obtain ⟨k, hk, rfl, rfl⟩ := hrel
            by_cases hlt : k < s.size
            · have hk1 : (k : Int) < (s.size : Int) := by omega
              have hix := fun w => index_str s k hlt w
              have hc := HCH.out k hlt
              have hvd := valD_drop l (q - 1 - (k - 0)) (by rw [HQ.out]; omega)
              rw [show q - 1 - (k - 0) + 1 = q - (k - 0) by omega] at hvd
              have hle : valD (l.drop (q - 1 - (k - 0))) ≤ N := by
                have h := valD_append (l.take (q - 1 - (k - 0))) (l.drop (q - 1 - (k - 0)))
                rw [List.take_append_drop, HV.out] at h
                have := Nat.le_mul_of_pos_left (valD (l.drop (q - 1 - (k - 0)))) (show 0 < 10 ^ (l.take (q - 1 - (k - 0))).length from Nat.pow_pos (by decide))
                omega
              have hd10 := getD_dig HDG.out (q - 1 - (k - 0))
              obtain ⟨d, hd⟩ : ∃ d, l.getD (q - 1 - (k - 0)) 0 = d := ⟨_, rfl⟩
              rw [hd] at hc hvd hd10
              rw [hc] at hix
              rw [hvd] at hle
              have hnx : valD (l.drop (q - (k + 1 - 0))) = d + 10 * valD (l.drop (q - (k - 0))) := by rw [← hvd]; congr 2; omega
              obtain ⟨V, hV⟩ : ∃ V, valD (l.drop (q - (k - 0))) = V := ⟨_, rfl⟩
              rw [hV] at hle hnx ⊢
              obtain ⟨y, hy⟩ : ∃ y, 48 + d = y := ⟨_, rfl⟩
              rw [hy] at hix
              have hy1 : ((y : Int) == 45) = false := by rw [beq_eq_false_iff_ne]; omega
              have hw1 : IntKind.u8.wrap ((y : Int) - 48) = (d : Int) := by rw [IntKind.wrap_u8]; omega
              have hw2 : ((y : Int) - 48) % 256 = (d : Int) := by omega
              have hVi : 10 * (V : Int) + (d : Int) ≤ 9223372036854775807 := by omega
              have hp1 : IntKind.i64.wrap (10 * (V : Int)) = 10 * (V : Int) := IntWalk.i64_in _ (by omega)
              have hp2 : IntKind.i64.wrap (10 * (V : Int) + (d : Int)) = 10 * (V : Int) + (d : Int) := IntWalk.i64_in _ (by omega)
              have hm1 : IntKind.i64.wrap (10 * -(V : Int)) = 10 * -(V : Int) := IntWalk.i64_in _ (by omega)
              have hm2 : IntKind.i64.wrap (-(10 * (V : Int))) = -(10 * (V : Int)) := IntWalk.i64_in _ (by omega)
              have hm3 : IntKind.i64.wrap (10 * -(V : Int) + -(d : Int)) = 10 * -(V : Int) + -(d : Int) := IntWalk.i64_in _ (by omega)
              have hm4 : IntKind.i64.wrap (-(10 * (V : Int)) + -(d : Int)) = -(10 * (V : Int)) + -(d : Int) := IntWalk.i64_in _ (by omega)
              have HNX := Lib.hid hnx
              clear hnx hvd hd hV hy hc
              go_wp2
              go_round
              case rel => exact ⟨k + 1, by omega, by go_num, by rw [HNX.out]; go_num⟩
              case measure => simp [RowKit.intOf]; omega
            · have hk1 : ¬ (k : Int) < (s.size : Int) := by omega
              have hkk : q - (k - 0) = 0 := by omega
              rw [hkk, List.drop_zero, HV.out]
              go_wp2
              go_ret2
              exact ⟨by first | rfl | simp, B3.out⟩
  · have h1' : validB s = false := by simpa using h1
    rw [h1'] at va
    have hfm : fitM s = false := by unfold fitM; rw [h1']; rfl
    rw [hfm, if_neg (by simp), if_neg (by simp)]
    have VA := Lib.hid va
    clear va h1 h1' hfm cmin cmax
    go_enter Tryz.func20, Tryz.ntmps20
    go_wp2_with fail
    refine (VA.out _).mono ?_
    rintro e w1 ⟨rfl, rfl⟩
    go_wp2
    go_ret2
    exact ⟨rfl, Below.refl _ _⟩
end Go.Proofs.YtildgpahacaglaaGreatDoor

namespace Go.Proofs.YtildgpahacaglaaGreatDoor

def RootInv (N : Nat) (out : List Nat) (h k : Nat) : Prop := out.length = h ∧ IsDig out ∧ (∀ j, j < k → out.getD j 0 = 0) ∧ valD out * valD out ≤ N ∧ N < (valD out + 10 ^ k) * (valD out + 10 ^ k)
def RootIn (N : Nat) (out : List Nat) (h k t : Nat) : Prop := out.length = h ∧ IsDig out ∧ out.getD k 0 = t ∧ (∀ j, j < k → out.getD j 0 = 0) ∧ N < (valD out + 10 ^ k) * (valD out + 10 ^ k) ∧ t * 10 ^ k ≤ valD out ∧ (valD out - t * 10 ^ k) * (valD out - t * 10 ^ k) ≤ N
theorem root_start (N : Nat) : RootInv N (List.replicate (((digs N).length + 1) / 2) 0) (((digs N).length + 1) / 2) (((digs N).length + 1) / 2) := by
  refine ⟨by simp, ?_, ?_, by rw [valD_replicate]; simp, ?_⟩
  · intro d hd; rw [List.mem_replicate] at hd; omega
  · intro j hj; simp [List.getD_eq_getElem?_getD, hj]
  · rw [valD_replicate, Nat.zero_add, ← Nat.pow_add]
    have h := lt_of_digs_length (Nat.le_refl (digs N).length)
    exact Nat.lt_of_lt_of_le h (Nat.pow_le_pow_right (by decide) (by omega))
theorem getD_set_other (out : List Nat) (k d j : Nat) (h : j < k) : (out.set k d).getD j 0 = out.getD j 0 := by
  rw [List.getD_eq_getElem?_getD, List.getElem?_set_ne (by omega), ← List.getD_eq_getElem?_getD]
theorem root_in {N : Nat} {out : List Nat} {h k : Nat} (H : RootInv N out h (k + 1)) (hk : k < h) : RootIn N (out.set k 9) h k 9 := by
  obtain ⟨h1, h2, h3, h4, h5⟩ := H
  have hs := valD_set out k 9 (by omega)
  rw [h3 k (by omega), Nat.mul_zero, Nat.add_zero] at hs
  refine ⟨by simp [h1], isDig_set h2 _ _ (by omega), by simp [List.getD_eq_getElem?_getD, h1, hk], fun j hj => by rw [getD_set_other _ _ _ _ hj]; exact h3 j (by omega), ?_, ?_, ?_⟩
  · rw [hs]
    rw [Nat.pow_succ] at h5
    have e : valD out + 10 ^ k * 9 + 10 ^ k = valD out + 10 ^ k * 10 := by omega
    rw [e]; exact h5
  · rw [hs, Nat.mul_comm]; omega
  · rw [hs]
    have e : valD out + 10 ^ k * 9 - 9 * 10 ^ k = valD out := by rw [Nat.mul_comm 9]; omega
    rw [e]; exact h4
theorem root_step {N : Nat} {out : List Nat} {h k t : Nat} (H : RootIn N out h k (t + 1)) (hk : k < h) (hN : N < valD out * valD out) : RootIn N (out.set k t) h k t := by
  obtain ⟨h1, h2, h3, h4, _, h6, h7⟩ := H
  have ht := getD_dig h2 k
  have hs := valD_set out k t (by omega)
  rw [h3] at hs ht
  have e1 : (t + 1) * 10 ^ k = t * 10 ^ k + 10 ^ k := by rw [Nat.add_mul, Nat.one_mul]
  have e2 : 10 ^ k * (t + 1) = t * 10 ^ k + 10 ^ k := by rw [Nat.mul_comm, e1]
  have e3 : 10 ^ k * t = t * 10 ^ k := Nat.mul_comm _ _
  rw [e2, e3] at hs
  rw [e1] at h6 h7
  have hv : valD (out.set k t) + 10 ^ k = valD out := by omega
  refine ⟨by simp [h1], isDig_set h2 _ _ (by omega), by simp [List.getD_eq_getElem?_getD, h1, hk], fun j hj => by rw [getD_set_other _ _ _ _ hj]; exact h4 j hj, ?_, ?_, ?_⟩
  · rw [hv]; exact hN
  · omega
  · have e4 : valD (out.set k t) - t * 10 ^ k = valD out - (t * 10 ^ k + 10 ^ k) := by omega
    rw [e4]; exact h7
theorem root_out {N : Nat} {out : List Nat} {h k t : Nat} (H : RootIn N out h k t) (hN : t = 0 ∨ valD out * valD out ≤ N) : RootInv N out h k := by
  obtain ⟨h1, h2, h3, h4, h5, h6, h7⟩ := H
  refine ⟨h1, h2, h4, ?_, h5⟩
  rcases hN with rfl | hN
  · rw [Nat.zero_mul, Nat.sub_zero] at h7; exact h7
  · exact hN
end Go.Proofs.YtildgpahacaglaaGreatDoor

namespace Go.Proofs.YtildgpahacaglaaGreatDoor
open Go Go.Proofs Go.RowKit Go.Lib

set_option maxRecDepth 100000 in
set_option maxHeartbeats 4000000 in
theorem trimmed_any (l : List Nat) (hd : IsDig l) (ad : Option Addr) (cap n : Nat) (w : World) (hH : HoldI w ad cap l) (hn : l.length = n) :
    Calls Tryz.prog 46 #[.slice ad n cap] w (IntsPost w (digs (valD l))) := by
  have hn40 : n ≤ 1099511627776 := by have := hH.2.1; omega
  have HH := Lib.hid hH; have HN := Lib.hid hn
  have hw1 : HoldI (w.alloc (.cells #[] 3)) ad cap l := hH.below ((Below.refl w.heap.size w).alloc (Nat.le_refl _) _) (Nat.le_refl _)
  have HW1 := Lib.hid hw1
  clear hH hn hw1
  go_enter Tryz.func46, Tryz.ntmps46
  go_wp2_with (first | (at_builtin; refine walk_hold (w0 := w) rfl _ _ rfl w.heap.size _ [] l rfl (ownI_new w w.heap.size [] (Nat.le_refl _) (by simp)) ((Below.refl w.heap.size w).alloc (Nat.le_refl _) _) (by simp) ad n cap rfl HN.out HW1.out (by simp; omega) ?_; intro v3 W3 ho3 hb3))
  rw [List.nil_append] at ho3
  obtain ⟨a3, k3, rfl, hh3, hn3⟩ := own_hold ho3 n HN.out hn40
  have c := trim_any l hd a3 k3 W3 hh3 n HN.out
  have htk := trimD_take n HN.out hd
  have hh2 := hh3.take (trimD l).length
  rw [← htk] at hh2
  have C := Lib.hid c; have HH2 := Lib.hid hh2; have HN3 := Lib.hid hn3
  clear c hh2 htk hh3 ho3 hn3
  refine C.out.mono ?_
  rintro e w1 ⟨rfl, rfl⟩
  go_wp2
  go_ret
  exact ⟨_, _, rfl, HH2.out, hb3, HN3.out⟩
set_option maxRecDepth 100000 in
set_option maxHeartbeats 8000000 in
theorem rootR_any (s : ByteArray) (hs : s.size ≤ 1099511627776) (w : World) :
    Calls Tryz.prog 18 #[.string s] w fun e w' => Below w.heap.size w w' ∧
      RootPost (validB s && decide (0 ≤ numB s)) (numB s).natAbs e := by
  have va := fun W => valid_any s hs W
  by_cases h1 : validB s = true
  · rw [h1] at va
    obtain ⟨f1, g1⟩ := text_valid h1
    rw [h1, Bool.true_and]
    obtain ⟨x, hx⟩ : ∃ x, numB s = x := ⟨_, rfl⟩
    rw [hx] at f1 g1 ⊢
    have hbs : bytesL s = (if x < 0 then [45] else []) ++ textN x.natAbs := by rw [g1, bytesL_textI]
    have hne := textN_ne_nil x.natAbs
    have h0s : 0 < s.size := by rw [← bytesL_length, hbs, List.length_append]; have := List.length_pos_iff.2 hne; omega
    have h0i : (0 : Int) < (s.size : Int) := by omega
    have hb0 := bytesL_get s 0 h0s
    by_cases hx0 : x < 0
    · rw [decide_eq_false (by omega)]
      rw [if_pos hx0] at hbs
      have hsg : (((s[0]'h0s).toNat : Int) == 45) = true := by rw [← hb0]; simp only [hbs]; rfl
      have VA := Lib.hid va
      clear va f1 g1 hbs hne hb0 h1 hx hx0
      go_enter Tryz.func18, Tryz.ntmps18
      go_wp2_with fail
      refine (VA.out _).mono ?_
      rintro e w1 ⟨rfl, rfl⟩
      go_wp2
      go_ret2
      exact ⟨Below.refl _ _, rfl⟩
    · rw [decide_eq_true (by omega)]
      rw [if_neg hx0, List.nil_append] at hbs
      have hsg : (((s[0]'h0s).toNat : Int) == 45) = false := by
        rw [beq_eq_false_iff_ne, ← hb0]
        simp only [hbs]
        have := textN_dig x.natAbs _ (List.getElem_mem (List.length_pos_iff.2 hne))
        omega
      have d1 := fun W => digits_any x (fits_size f1) W
      rw [← g1] at d1
      have l1 := fits_length f1
      have hfit : x.natAbs < 10 ^ 200 := f1
      obtain ⟨N, hN⟩ : ∃ N, x.natAbs = N := ⟨_, rfl⟩
      rw [hN] at d1 l1 hfit ⊢
      have hst := root_start N
      obtain ⟨h, hh⟩ : ∃ h, ((digs N).length + 1) / 2 = h := ⟨_, rfl⟩
      rw [hh] at hst
      have hh101 : h ≤ 100 := by omega
      obtain ⟨m, hm⟩ : ∃ m, (digs N).length = m := ⟨_, rfl⟩
      rw [hm] at d1 l1 hh
      have hdx : decide (x < 0) = false := decide_eq_false hx0
      rw [hdx] at d1
      have hdi : ((m : Int) + 1) / 2 = (h : Int) := by omega
      have hmk := fun W => make_ints h (by omega) W (h : Int) rfl
      have hnew := fun W => heap_alloc_new W (.cells (numVals .i64 (List.replicate h 0)).toArray 3)
      have VA := Lib.hid va; have D1 := Lib.hid d1; have HST := Lib.hid hst; have HM := Lib.hid hm; have HNEW := Lib.hid hnew; have HF := Lib.hid hfit
      clear va d1 f1 g1 hbs hne hb0 h1 hx hx0 hN hst hm hnew hdx hh hfit
      go_enter Tryz.func18, Tryz.ntmps18
      go_wp2_with fail
      refine (VA.out _).mono ?_
      rintro e w1 ⟨rfl, rfl⟩
      go_wp2_with fail
      refine (D1.out _).mono ?_
      rintro e w3 ⟨al, kl, rfl, ql, b3⟩
      have hG : w.heap.size ≤ w3.heap.size := b3.size
      have QL := Lib.hid ql; have B3 := Lib.hid b3; have NW := Lib.hid (HNEW.out w3)
      clear ql b3 VA D1 HNEW
      go_wp2_with fail
      rw [hdi]
      clear hdi
      go_loopw [7] (fun i wr => ∃ (out : List Nat) (k : Nat), k ≤ h ∧ i = .int .i64 ((k : Int) - 1) ∧ Hid (RootInv N out h k) ∧ Hid (IsI wr w3.heap.size out) ∧ Hid (Below w3.heap.size w3 wr)) (fun i _ => (RowKit.intOf i + 1).toNat)
      case atStart => exact ⟨_, h, Nat.le_refl _, rfl, HST.out, NW.out, (Below.refl w3.heap.size w3).alloc (Nat.le_refl _) _⟩
      case round =>
        obtain ⟨out, k, hk, rfl, hri, hIs, hbr⟩ := hrel
        have hol := hri.out.1
        have hod := hri.out.2.1
        by_cases hk0 : k = 0
        · subst hk0
          have hneg : ¬ (0 : Int) ≤ ((0 : Nat) : Int) - 1 := by omega
          have hlo := hri.out.2.2.2.1
          have hhi := hri.out.2.2.2.2
          rw [Nat.pow_zero] at hhi
          have htk := trimD_take _ hol hod
          have hh := hIs.out.holds (by rw [hol]; omega)
          rw [hol] at hh
          have ct := trim_any out hod _ _ wr hh h hol
          have hh2 := hh.take (trimD out).length
          rw [← htk] at hh2
          have htr : trimD out = digs (valD out) := rfl
          rw [htr] at ct hh2
          obtain ⟨V, hV⟩ : ∃ V, valD out = V := ⟨_, rfl⟩
          rw [hV] at ct hh2 hlo hhi
          have ck := checked_any false V _ _ _ wr hh2 rfl
          have hVf : (intD false V).natAbs < 10 ^ 200 := by
            rw [intD_abs]
            have := HF.out
            rcases Nat.eq_zero_or_pos V with h0 | h0
            · subst h0; exact Nat.pow_pos (by decide)
            · have : V * 1 ≤ V * V := Nat.mul_le_mul_left _ h0
              omega
          have e1 : resT (intD false V) = textI (V : Int) := by unfold resT; rw [if_pos hVf]; rfl
          have e2 : resZ (intD false V) = 0 := by unfold resZ; rw [if_pos hVf]
          rw [e1, e2] at ck
          have CT := Lib.hid ct; have CK := Lib.hid ck; have HLO := Lib.hid hlo; have HHI := Lib.hid hhi
          clear ct ck hh hh2 htk htr hV hVf e1 e2 hlo hhi hri hIs
          go_wp2_with fail
          refine CT.out.mono ?_
          rintro e w5 ⟨rfl, rfl⟩
          go_wp2_with fail
          refine CK.out.mono ?_
          rintro e w6 ⟨rfl, b6⟩
          go_wp2
          go_ret2
          exact ⟨B3.out.trans ((hbr.out.trans (b6.mono hbr.out.size)).mono B3.out.size), V, HLO.out, HHI.out, rfl⟩
        · obtain ⟨j, rfl⟩ : ∃ j, k = j + 1 := ⟨k - 1, by omega⟩
          have hj : (((j + 1 : Nat) : Int) - 1) = (j : Int) := by omega
          rw [hj]
          have hj0 : (0 : Int) ≤ (j : Int) := by omega
          have hj1 : (j : Int) < (h : Int) := by omega
          have hin := root_in hri.out (show j < h by omega)
          have hcell := hIs.out.cell j (by omega)
          have hfro := hIs.out.frozen j
          have hat := fun w' => atI w3.heap.size 0 h h j (j : Int) rfl (by omega) w'
          rw [Nat.zero_add] at hat
          obtain ⟨o0, ho0⟩ : ∃ o, out.getD j 0 = o := ⟨_, rfl⟩
          rw [ho0] at hcell
          have HIN := Lib.hid hin; have IS9 := Lib.hid (hIs.out.store j 9 9 rfl); have BR9 := Lib.hid (show Below w3.heap.size w3 (wr.setCell ⟨w3.heap.size, j, none⟩ (.int .i64 9)) from hbr.out.setCell (Nat.le_refl _) _)
          clear hin hri ho0 hol hod hk0
          go_wp2_with fail
          go_loopw [36] (fun u wr => u = u ∧ ∃ (out : List Nat) (t : Nat), Hid (RootIn N out h j t) ∧ Hid (IsI wr w3.heap.size out) ∧ Hid (Below w3.heap.size w3 wr)) (fun _ wr => cellN wr w3.heap.size j)
          case atStart => exact ⟨rfl, _, 9, HIN.out, IS9.out, BR9.out⟩
          case round =>
            clear hcell hfro
            obtain ⟨_, out, t, hri, hIs, hbr⟩ := hrel
            have hol := hri.out.1
            have hod := hri.out.2.1
            have htt := hri.out.2.2.1
            have hjl : j < out.length := by omega
            have hcell := hIs.out.cell j hjl
            have hfro := hIs.out.frozen j
            have hcn := hIs.out.cellN j hjl
            rw [htt] at hcell hcn
            have HCN := Lib.hid hcn; have HJL := Lib.hid hjl
            clear hcn hjl
            by_cases ht0 : t = 0
            · subst ht0
              have hout := root_out hri.out (.inl rfl)
              have HOUT := Lib.hid hout
              have hz : ¬ (0 : Int) < ((0 : Nat) : Int) := by omega
              have hzd : decide ((0 : Int) < ((0 : Nat) : Int)) = false := decide_eq_false hz
              clear hout hri hol hod htt
              go_wp2
              go_roundw
              case rel => exact ⟨out, j, by omega, by go_num, HOUT.out, hIs, hbr⟩
              case measure => simp [RowKit.intOf]
            · obtain ⟨t', rfl⟩ : ∃ j, t = j + 1 := ⟨t - 1, by omega⟩
              have hpos : (0 : Int) < ((t' + 1 : Nat) : Int) := by omega
              have hpos2 : (0 : Int) < (t' : Int) + 1 := by omega
              have hposd : decide ((0 : Int) < (t' : Int) + 1) = true := decide_eq_true hpos2
              have hh := hIs.out.holds (by rw [hol]; omega)
              rw [hol] at hh
              have ht9 : t' + 1 < 10 := by rw [← htt]; exact getD_dig hod j
              have cA := fun W hb => trimmed_any out hod (some ⟨w3.heap.size, 0, none⟩) h h W (hh.below (n := wr.heap.size) (W' := W) hb (Nat.le_refl _)) hol
              have hVl : (digs (valD out)).length ≤ 1000 := by
                have := digs_length_le out.length _ (valD_lt hod)
                omega
              have hstep := fun hN => root_step hri.out (show j < h by omega) hN
              have hstop := fun hN => root_out hri.out (.inr hN)
              obtain ⟨V, hV⟩ : ∃ V, valD out = V := ⟨_, rfl⟩
              rw [hV] at cA hVl hstep hstop
              have cT := fun W a1 k1 a2 k2 q1 q2 => times_any V V a1 a2 k1 k2 _ _ W q1 q2 rfl rfl hVl hVl
              have cO := fun W a1 k1 q1 q2 => order_any (V * V) N a1 al k1 kl _ m W q1 q2 rfl HM.out
              obtain ⟨S, hS⟩ : ∃ S, V * V = S := ⟨_, rfl⟩
              rw [hS] at cT cO hstep hstop
              have QLR := Lib.hid (fun W (hb : Below wr.heap.size wr W) => QL.out.below (hbr.out.trans (hb.mono hbr.out.size)) (Nat.le_refl _))
              have hGl := hIs.out.lt
              have HA := Lib.hid cA; have HT := Lib.hid cT; have HO := Lib.hid cO; have HSP := Lib.hid hstep; have HSO := Lib.hid hstop
              clear cA cT cO hstep hstop hV hS hri htt hod hh hVl ht0
              go_wp2_with fail
              refine (HA.out _ (Below.refl _ _)).mono ?_
              rintro e w5 ⟨a5, k5, rfl, q5, b5, _⟩
              have B5 := Lib.hid b5; have Q5 := Lib.hid q5
              clear b5 q5
              go_wp2_with fail
              refine (HA.out _ B5.out).mono ?_
              rintro e w6 ⟨a6, k6, rfl, q6, b6, _⟩
              have B6 := Lib.hid (B5.out.trans (b6.mono B5.out.size)); have Q6 := Lib.hid q6; have Q5' := Lib.hid (Q5.out.below b6 (Nat.le_refl _))
              clear b6 q6 B5 Q5 HA
              go_wp2_with fail
              refine (HT.out _ _ _ _ _ Q5'.out Q6.out).mono ?_
              rintro e w7 ⟨a7, k7, rfl, q7, b7, _⟩
              have B7 := Lib.hid (B6.out.trans (b7.mono B6.out.size))
              have CO := Lib.hid (HO.out w7 a7 k7 q7 (QLR.out w7 B7.out))
              clear b7 q7 B6 Q6 Q5' HT HO
              have IS7 := Lib.hid (hIs.out.below B7.out hGl)
              have BR7 := Lib.hid (hbr.out.trans (B7.out.mono hbr.out.size))
              by_cases hN : N < S
              · have hz := cmp_gt hN
                have co := CO.out
                rw [hz] at co
                have CO2 := Lib.hid co
                have hri2 := HSP.out hN
                have HRI := Lib.hid hri2
                clear co hz hri2 CO hN HSP HSO
                go_wp2_with fail
                refine CO2.out.mono ?_
                rintro e w8 ⟨rfl, kk, rfl⟩
                have hIs8 := IS7.out.drewN kk
                have hcell8 := hIs8.cell j HJL.out
                have hgd : out.getD j 0 = t' + 1 := by
                  have := hIs.out.cellN j HJL.out
                  rw [HCN.out] at this
                  exact this.symm
                rw [hgd] at hcell8
                have hfro8 := hIs8.frozen j
                have hsub : ((t' + 1 : Nat) : Int) - 1 = (t' : Int) := by omega
                have hsub2 : (t' : Int) + 1 - 1 = (t' : Int) := by omega
                have hwr : IntKind.i64.wrap (t' : Int) = (t' : Int) := IntWalk.i64_in _ (by omega)
                have HI8 := Lib.hid hIs8
                clear hIs8 hcell hfro hgd
                go_wp2
                go_roundw
                case rel => exact ⟨trivial, out.set j t', t', HRI.out, HI8.out.store j t' _ (by first | rfl | omega), (below_drewN BR7.out kk).setCell (p := ⟨w3.heap.size, j, none⟩) (Nat.le_refl _) _⟩
                case measure =>
                  have m2 := (HI8.out.store j t' (t' : Int) rfl).cellN j (by simpa using HJL.out)
                  have m3 : (out.set j t').getD j 0 = t' := by have := HJL.out; simp [List.getD_eq_getElem?_getD, this]
                  rw [m3] at m2
                  rw [HCN.out]
                  simp only [m2]
                  omega
              · have hz := cmp_le hN
                obtain ⟨z, hze⟩ : ∃ z, cmpI S N = z := ⟨_, rfl⟩
                rw [hze] at hz
                have co := CO.out
                rw [hze] at co
                have CO2 := Lib.hid co
                have hout := HSO.out (by omega)
                have HOUT := Lib.hid hout
                have hzd : decide (0 < z) = false := decide_eq_false hz
                clear co hze hout CO hN HSP HSO
                go_wp2_with fail
                refine CO2.out.mono ?_
                rintro e w8 ⟨rfl, kk, rfl⟩
                go_wp2
                go_roundw
                case rel => exact ⟨out, j, by omega, by go_num, HOUT.out, IS7.out.drewN kk, below_drewN BR7.out kk⟩
                case measure => simp [RowKit.intOf]
  · have h1' : validB s = false := by simpa using h1
    rw [h1'] at va
    rw [h1', Bool.false_and]
    have VA := Lib.hid va
    clear va h1 h1'
    go_enter Tryz.func18, Tryz.ntmps18
    go_wp2_with fail
    refine (VA.out _).mono ?_
    rintro e w1 ⟨rfl, rfl⟩
    go_wp2
    go_ret2
    exact ⟨Below.refl _ _, rfl⟩
end Go.Proofs.YtildgpahacaglaaGreatDoor
