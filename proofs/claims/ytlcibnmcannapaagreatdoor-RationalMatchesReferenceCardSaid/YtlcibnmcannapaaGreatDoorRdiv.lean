/-
  The contract of the reference's Div.
  The contract of the reference's FromInt.
-/
import Derived.Test.YtlcibnmcannapaaGreatDoorRmul
import Derived.Test.YtlcibnmcannapaaGreatDoorGdefs
namespace Go.Proofs.YtlcibnmcannapaaGreatDoor
open Go Go.Proofs Go.RowKit Go.Lib

theorem hold_one (W : World) : HoldI (W.alloc (.cells #[.int .i64 1] 3)) (some ⟨W.heap.size, 0, none⟩) 1 (digs 1) := by
  refine ⟨by decide, by decide, .inr ⟨W.heap.size, 0, rfl, by simp, new_num1 .i64 W 1 1 rfl _⟩⟩
set_option maxRecDepth 100000 in
set_option maxHeartbeats 8000000 in
theorem divR_any (s t : ByteArray) (hs : s.size ≤ 1099511627776) (ht : t.size ≤ 1099511627776) (w : World) :
    Calls Tryz.prog 52 #[.string s, .string t] w fun e w' => e = .returned (.tuple #[.string (divQ s t), .string (divR s t), .int .i64 (divZ s t)]) ∧ Below w.heap.size w w' := by
  have va := fun W => valid_any s hs W
  have vb := fun W => valid_any t ht W
  unfold divQ divR divZ
  by_cases h1 : validB s = true
  · by_cases h2 : validB t = true
    · rw [h1] at va
      rw [h2] at vb
      obtain ⟨f1, g1⟩ := text_valid h1
      obtain ⟨f2, g2⟩ := text_valid h2
      rw [h1, h2, Bool.true_and, Bool.true_and]
      obtain ⟨x, hx⟩ : ∃ x, numB s = x := ⟨_, rfl⟩
      obtain ⟨y, hy⟩ : ∃ x, numB t = x := ⟨_, rfl⟩
      rw [hx] at f1 g1 ⊢
      rw [hy] at f2 g2 ⊢
      by_cases hy0 : y = 0
      · have ht48 : t = ⟨#[48]⟩ := by rw [g2, hy0]; rfl
        have e1 : (t.toList == (⟨#[48]⟩ : ByteArray).toList) = true := by rw [str_eq_iff, decide_eq_true ht48]
        have e3 : (t.toList == [48]) = true := by rw [← list48]; exact e1
        have hdz : decide (y ≠ 0) = false := by rw [hy0]; rfl
        rw [hdz, if_neg (by simp), if_neg (by simp), if_neg (by simp)]
        have VA := Lib.hid va; have VB := Lib.hid vb
        clear va vb g1 g2 hx hy f1 f2 h1 h2 ht48 hy0 hdz
        go_enter Tryz.func52, Tryz.ntmps52
        go_wp2_with fail
        refine (VA.out _).mono ?_
        rintro e w1 ⟨rfl, rfl⟩
        go_wp2_with fail
        refine (VB.out _).mono ?_
        rintro e w2 ⟨rfl, rfl⟩
        go_wp2
        go_ret3
        exact ⟨rfl, Below.refl _ _⟩
      · have ht48 : ¬ t = ⟨#[48]⟩ := fun e => hy0 (textI_inj (show textI y = textI 0 by rw [← g2, e]; rfl))
        have e1 : (t.toList == (⟨#[48]⟩ : ByteArray).toList) = false := by rw [str_eq_iff, decide_eq_false ht48]
        have e3 : (t.toList == [48]) = false := by rw [← list48]; exact e1
        have hdz : decide (y ≠ 0) = true := decide_eq_true hy0
        rw [hdz, if_pos rfl, if_pos rfl, if_pos rfl]
        have d1 := fun W => digits_any x (fits_size f1) W
        have d2 := fun W => digits_any y (fits_size f2) W
        rw [← g1] at d1
        rw [← g2] at d2
        have l1 := fits_length f1
        have l2 := fits_length f2
        obtain ⟨c, hc⟩ : ∃ b, decide (y < 0) = b := ⟨_, rfl⟩
        have i2 := intD_self y
        rw [hc] at d2 i2
        have i1 := intD_self x
        have hyn : 0 < y.natAbs := by omega
        have cd := fun W a1 k1 a2 k2 (q1 : HoldI W a1 k1 (digs x.natAbs)) (q2 : HoldI W a2 k2 (digs y.natAbs)) => divided_any x.natAbs y.natAbs hyn a1 a2 k1 k2 _ _ W q1 q2 rfl rfl (by omega) (by omega)
        have hql : (digs (x.natAbs / y.natAbs)).length ≤ 200 := by have := digs_length_mono (Nat.div_le_self x.natAbs y.natAbs); omega
        have hmod := Nat.mod_lt x.natAbs hyn
        by_cases hfit : (x / y).natAbs < 10 ^ 200
        · by_cases hx0 : x < 0
          · have DX : decide (x < 0) = true := decide_eq_true hx0
            by_cases hmore : 0 < x.natAbs % y.natAbs
            · rw [DX] at d1 i1
              obtain ⟨hq, hr⟩ := div_more i1 i2 hy0 hmore
              have hbc : (true != c) = (!c) := by cases c <;> rfl
              rw [hbc] at hq
              have ck := fun W a1 k1 (q1 : HoldI W a1 k1 (digs (x.natAbs / y.natAbs + 1))) => checked_any (!c) (x.natAbs / y.natAbs + 1) a1 k1 _ W q1 rfl
              have ct := fun W a1 k1 (q1 : HoldI W a1 k1 (digs (y.natAbs - x.natAbs % y.natAbs))) => text_any false (y.natAbs - x.natAbs % y.natAbs) a1 k1 _ W q1 rfl
              rw [hq] at ck
              have hcast : intD false (y.natAbs - x.natAbs % y.natAbs) = (((y.natAbs - x.natAbs % y.natAbs) : Nat) : Int) := rfl
              rw [hcast, hr] at ct
              have hT : resT (x / y) = textI (x / y) := by unfold resT; rw [if_pos hfit]
              have hZ : resZ (x / y) = 0 := by unfold resZ; rw [if_pos hfit]
              have hR : resR x y = textI (x % y) := by unfold resR; rw [if_pos hfit]
              rw [hT, hZ] at ck
              rw [hT, hZ, hR]
              have cp := fun W a1 k1 (q1 : HoldI W a1 k1 (digs (x.natAbs / y.natAbs))) => plus_any (x.natAbs / y.natAbs) 1 a1 (some ⟨W.heap.size, 0, none⟩) k1 1 _ 1 (W.alloc (.cells #[.int .i64 1] 3)) (q1.below ((Below.refl W.heap.size W).alloc (Nat.le_refl _) _) (Nat.le_refl _)) (hold_one W) rfl rfl (by omega) (by omega)
              have cm := fun W a1 k1 a2 k2 (q1 : HoldI W a1 k1 (digs y.natAbs)) (q2 : HoldI W a2 k2 (digs (x.natAbs % y.natAbs))) => minus_any y.natAbs (x.natAbs % y.natAbs) (by omega) a1 a2 k1 k2 _ _ W q1 q2 rfl rfl
              have hrlen : 0 < (digs (x.natAbs % y.natAbs)).length := by rw [digs_pos (by omega)]; simp
              obtain ⟨TQ, hTQ⟩ : ∃ T, textI (x / y) = T := ⟨_, rfl⟩
              obtain ⟨TR, hTR⟩ : ∃ T, textI (x % y) = T := ⟨_, rfl⟩
              rw [hTQ] at ck
              rw [hTR] at ct
              rw [hTQ, hTR]
              obtain ⟨qn, hqn⟩ : ∃ q, x.natAbs / y.natAbs = q := ⟨_, rfl⟩
              obtain ⟨rn, hrn⟩ : ∃ q, x.natAbs % y.natAbs = q := ⟨_, rfl⟩
              obtain ⟨r2, hr2⟩ : ∃ q, y.natAbs - x.natAbs % y.natAbs = q := ⟨_, rfl⟩
              rw [hr2] at ct
              rw [hrn] at hr2
              rw [hqn, hrn] at cd
              rw [hqn] at ck cp
              rw [hrn] at cm hrlen
              simp only [hr2] at cm
              obtain ⟨m, hm⟩ : ∃ m, (digs x.natAbs).length = m := ⟨_, rfl⟩
              obtain ⟨n, hn⟩ : ∃ m, (digs y.natAbs).length = m := ⟨_, rfl⟩
              rw [hm] at d1 cd
              rw [hn] at d2 cd cm
              obtain ⟨rl, hrl⟩ : ∃ m, (digs rn).length = m := ⟨_, rfl⟩
              rw [hrl] at hrlen
              rw [hrl] at cm
              have HRL := Lib.hid hrl
              have hrp : (0 : Int) < (rl : Int) := by omega
              have VA := Lib.hid va; have VB := Lib.hid vb; have D1 := Lib.hid d1; have D2 := Lib.hid d2; have CD := Lib.hid cd; have CK := Lib.hid ck; have CT := Lib.hid ct; have CP := Lib.hid cp; have CM := Lib.hid cm
              clear va vb d1 d2 cd ck ct i1 i2 hc hm hn h1 h2 g1 g2 hx hy f1 f2 l1 l2 hq hr hT hZ hR hTQ hTR hqn hrn hrl hbc hcast hql hmod hyn hy0 hdz ht48 hfit DX hx0 cp cm hr2 hmore
              go_enter Tryz.func52, Tryz.ntmps52
              go_wp2_with fail
              refine (VA.out _).mono ?_
              rintro e w1 ⟨rfl, rfl⟩
              go_wp2_with fail
              refine (VB.out _).mono ?_
              rintro e w2 ⟨rfl, rfl⟩
              go_wp2_with fail
              refine (D1.out _).mono ?_
              rintro e w3 ⟨a1, k1, rfl, q1, b3⟩
              go_wp2_with fail
              refine (D2.out _).mono ?_
              rintro e w4 ⟨a2, k2, rfl, q2, b4⟩
              have B4 := Lib.hid (b3.trans (b4.mono b3.size))
              have Q2 := Lib.hid q2
              have C := Lib.hid (CD.out w4 a1 k1 a2 k2 (q1.below b4 (Nat.le_refl _)) q2)
              clear q1 q2 b3 b4 CD
              go_wp2_with fail
              refine C.out.mono ?_
              rintro e w5 ⟨a5, k5, a6, k6, rfl, q5, q6, b5⟩
              have B5 := Lib.hid (B4.out.trans (b5.mono B4.out.size))
              have Q5 := Lib.hid q5; have Q6 := Lib.hid q6; have L5 := Lib.hid (Q2.out.below b5 (Nat.le_refl _))
              rw [HRL.out]
              clear q5 q6 b5 Q2 C
              go_wp2_with fail
              refine (CP.out w5 a5 k5 Q5.out).mono ?_
              rintro e w6 ⟨a7, k7, rfl, q7, b7, _⟩
              have b7' : Below w5.heap.size w5 w6 := ((Below.refl w5.heap.size w5).alloc (Nat.le_refl _) _).trans (b7.mono (by simp))
              have B6 := Lib.hid (B5.out.trans (b7'.mono B5.out.size)); have Q7 := Lib.hid q7
              have C := Lib.hid (CM.out w6 a2 k2 a6 k6 (L5.out.below b7' (Nat.le_refl _)) (Q6.out.below b7' (Nat.le_refl _)))
              clear q7 b7 b7' CP CM Q5 Q6 L5
              go_wp2_with fail
              refine C.out.mono ?_
              rintro e w7 ⟨a8, k8, rfl, q8, b8, _⟩
              have B7 := Lib.hid (B6.out.trans (b8.mono B6.out.size)); have Q8 := Lib.hid q8
              have CC := Lib.hid (CK.out w7 a7 k7 (Q7.out.below b8 (Nat.le_refl _)))
              clear q8 b8 CK Q7 C
              go_wp2_with fail
              refine CC.out.mono ?_
              rintro e w8 ⟨rfl, b8⟩
              have B8 := Lib.hid (B7.out.trans (b8.mono B7.out.size))
              have CX := Lib.hid (CT.out w8 a8 k8 (Q8.out.below b8 (Nat.le_refl _)))
              clear b8 CT Q8 CC
              go_wp2_with fail
              refine CX.out.mono ?_
              rintro e w9 ⟨rfl, b9⟩
              go_wp2
              go_ret3
              exact ⟨rfl, B8.out.trans (b9.mono B8.out.size)⟩
            · replace hmore : x.natAbs % y.natAbs = 0 := by omega
              rw [DX] at d1 i1
              obtain ⟨hq, hr⟩ := div_plain i1 i2 hy0 (.inr hmore)
              have hbc : (true != c) = (!c) := by cases c <;> rfl
              rw [hbc] at hq
              have ck := fun W a1 k1 (q1 : HoldI W a1 k1 (digs (x.natAbs / y.natAbs))) => checked_any (!c) (x.natAbs / y.natAbs) a1 k1 _ W q1 rfl
              have ct := fun W a1 k1 (q1 : HoldI W a1 k1 (digs (x.natAbs % y.natAbs))) => text_any false (x.natAbs % y.natAbs) a1 k1 _ W q1 rfl
              rw [hq] at ck
              have hcast : intD false (x.natAbs % y.natAbs) = (((x.natAbs % y.natAbs) : Nat) : Int) := rfl
              rw [hcast, hr] at ct
              have hT : resT (x / y) = textI (x / y) := by unfold resT; rw [if_pos hfit]
              have hZ : resZ (x / y) = 0 := by unfold resZ; rw [if_pos hfit]
              have hR : resR x y = textI (x % y) := by unfold resR; rw [if_pos hfit]
              rw [hT, hZ] at ck
              rw [hT, hZ, hR]
              have hrlen : (digs (x.natAbs % y.natAbs)).length = 0 := by rw [hmore]; rfl
              obtain ⟨TQ, hTQ⟩ : ∃ T, textI (x / y) = T := ⟨_, rfl⟩
              obtain ⟨TR, hTR⟩ : ∃ T, textI (x % y) = T := ⟨_, rfl⟩
              rw [hTQ] at ck
              rw [hTR] at ct
              rw [hTQ, hTR]
              obtain ⟨qn, hqn⟩ : ∃ q, x.natAbs / y.natAbs = q := ⟨_, rfl⟩
              obtain ⟨rn, hrn⟩ : ∃ q, x.natAbs % y.natAbs = q := ⟨_, rfl⟩
              rw [hqn, hrn] at cd
              rw [hqn] at ck
              rw [hrn] at ct hrlen
              obtain ⟨m, hm⟩ : ∃ m, (digs x.natAbs).length = m := ⟨_, rfl⟩
              obtain ⟨n, hn⟩ : ∃ m, (digs y.natAbs).length = m := ⟨_, rfl⟩
              rw [hm] at d1 cd
              rw [hn] at d2 cd
              obtain ⟨rl, hrl⟩ : ∃ m, (digs rn).length = m := ⟨_, rfl⟩
              rw [hrl] at hrlen
              have HRL := Lib.hid hrl
              subst hrlen
              have VA := Lib.hid va; have VB := Lib.hid vb; have D1 := Lib.hid d1; have D2 := Lib.hid d2; have CD := Lib.hid cd; have CK := Lib.hid ck; have CT := Lib.hid ct
              clear va vb d1 d2 cd ck ct i1 i2 hc hm hn h1 h2 g1 g2 hx hy f1 f2 l1 l2 hq hr hT hZ hR hTQ hTR hqn hrn hrl hbc hcast hql hmod hyn hy0 hdz ht48 hfit DX hx0 hmore
              go_enter Tryz.func52, Tryz.ntmps52
              go_wp2_with fail
              refine (VA.out _).mono ?_
              rintro e w1 ⟨rfl, rfl⟩
              go_wp2_with fail
              refine (VB.out _).mono ?_
              rintro e w2 ⟨rfl, rfl⟩
              go_wp2_with fail
              refine (D1.out _).mono ?_
              rintro e w3 ⟨a1, k1, rfl, q1, b3⟩
              go_wp2_with fail
              refine (D2.out _).mono ?_
              rintro e w4 ⟨a2, k2, rfl, q2, b4⟩
              have B4 := Lib.hid (b3.trans (b4.mono b3.size))
              have Q2 := Lib.hid q2
              have C := Lib.hid (CD.out w4 a1 k1 a2 k2 (q1.below b4 (Nat.le_refl _)) q2)
              clear q1 q2 b3 b4 CD
              go_wp2_with fail
              refine C.out.mono ?_
              rintro e w5 ⟨a5, k5, a6, k6, rfl, q5, q6, b5⟩
              have B5 := Lib.hid (B4.out.trans (b5.mono B4.out.size))
              have Q5 := Lib.hid q5; have Q6 := Lib.hid q6; have L5 := Lib.hid (Q2.out.below b5 (Nat.le_refl _))
              rw [HRL.out]
              clear q5 q6 b5 Q2 C
              have CC := Lib.hid (CK.out w5 a5 k5 Q5.out)
              clear CK Q5 L5
              go_wp2_with fail
              refine CC.out.mono ?_
              rintro e w8 ⟨rfl, b8⟩
              have B8 := Lib.hid (B5.out.trans (b8.mono B5.out.size))
              have CX := Lib.hid (CT.out w8 a6 k6 (Q6.out.below b8 (Nat.le_refl _)))
              rw [HRL.out] at CX
              clear b8 CT Q6 CC
              go_wp2_with fail
              refine CX.out.mono ?_
              rintro e w9 ⟨rfl, b9⟩
              go_wp2
              go_ret3
              exact ⟨rfl, B8.out.trans (b9.mono B8.out.size)⟩
          · have DX : decide (x < 0) = false := decide_eq_false hx0
            rw [DX] at d1 i1
            obtain ⟨hq, hr⟩ := div_plain i1 i2 hy0 (.inl rfl)
            have hbc : (false != c) = c := by cases c <;> rfl
            rw [hbc] at hq
            have ck := fun W a1 k1 (q1 : HoldI W a1 k1 (digs (x.natAbs / y.natAbs))) => checked_any c (x.natAbs / y.natAbs) a1 k1 _ W q1 rfl
            have ct := fun W a1 k1 (q1 : HoldI W a1 k1 (digs (x.natAbs % y.natAbs))) => text_any false (x.natAbs % y.natAbs) a1 k1 _ W q1 rfl
            rw [hq] at ck
            have hcast : intD false (x.natAbs % y.natAbs) = (((x.natAbs % y.natAbs) : Nat) : Int) := rfl
            rw [hcast, hr] at ct
            have hT : resT (x / y) = textI (x / y) := by unfold resT; rw [if_pos hfit]
            have hZ : resZ (x / y) = 0 := by unfold resZ; rw [if_pos hfit]
            have hR : resR x y = textI (x % y) := by unfold resR; rw [if_pos hfit]
            rw [hT, hZ] at ck
            rw [hT, hZ, hR]
            have hrlen : (digs (x.natAbs % y.natAbs)).length = (digs (x.natAbs % y.natAbs)).length := rfl
            obtain ⟨TQ, hTQ⟩ : ∃ T, textI (x / y) = T := ⟨_, rfl⟩
            obtain ⟨TR, hTR⟩ : ∃ T, textI (x % y) = T := ⟨_, rfl⟩
            rw [hTQ] at ck
            rw [hTR] at ct
            rw [hTQ, hTR]
            obtain ⟨qn, hqn⟩ : ∃ q, x.natAbs / y.natAbs = q := ⟨_, rfl⟩
            obtain ⟨rn, hrn⟩ : ∃ q, x.natAbs % y.natAbs = q := ⟨_, rfl⟩
            rw [hqn, hrn] at cd
            rw [hqn] at ck
            rw [hrn] at ct hrlen
            obtain ⟨m, hm⟩ : ∃ m, (digs x.natAbs).length = m := ⟨_, rfl⟩
            obtain ⟨n, hn⟩ : ∃ m, (digs y.natAbs).length = m := ⟨_, rfl⟩
            rw [hm] at d1 cd
            rw [hn] at d2 cd
            obtain ⟨rl, hrl⟩ : ∃ m, (digs rn).length = m := ⟨_, rfl⟩
            rw [hrl] at hrlen
            have HRL := Lib.hid hrl
            have VA := Lib.hid va; have VB := Lib.hid vb; have D1 := Lib.hid d1; have D2 := Lib.hid d2; have CD := Lib.hid cd; have CK := Lib.hid ck; have CT := Lib.hid ct
            clear va vb d1 d2 cd ck ct i1 i2 hc hm hn h1 h2 g1 g2 hx hy f1 f2 l1 l2 hq hr hT hZ hR hTQ hTR hqn hrn hrl hbc hcast hql hmod hyn hy0 hdz ht48 hfit DX hx0 hrlen
            go_enter Tryz.func52, Tryz.ntmps52
            go_wp2_with fail
            refine (VA.out _).mono ?_
            rintro e w1 ⟨rfl, rfl⟩
            go_wp2_with fail
            refine (VB.out _).mono ?_
            rintro e w2 ⟨rfl, rfl⟩
            go_wp2_with fail
            refine (D1.out _).mono ?_
            rintro e w3 ⟨a1, k1, rfl, q1, b3⟩
            go_wp2_with fail
            refine (D2.out _).mono ?_
            rintro e w4 ⟨a2, k2, rfl, q2, b4⟩
            have B4 := Lib.hid (b3.trans (b4.mono b3.size))
            have Q2 := Lib.hid q2
            have C := Lib.hid (CD.out w4 a1 k1 a2 k2 (q1.below b4 (Nat.le_refl _)) q2)
            clear q1 q2 b3 b4 CD
            go_wp2_with fail
            refine C.out.mono ?_
            rintro e w5 ⟨a5, k5, a6, k6, rfl, q5, q6, b5⟩
            have B5 := Lib.hid (B4.out.trans (b5.mono B4.out.size))
            have Q5 := Lib.hid q5; have Q6 := Lib.hid q6; have L5 := Lib.hid (Q2.out.below b5 (Nat.le_refl _))
            rw [HRL.out]
            clear q5 q6 b5 Q2 C
            have CC := Lib.hid (CK.out w5 a5 k5 Q5.out)
            clear CK Q5 L5
            go_wp2_with fail
            refine CC.out.mono ?_
            rintro e w8 ⟨rfl, b8⟩
            have B8 := Lib.hid (B5.out.trans (b8.mono B5.out.size))
            have CX := Lib.hid (CT.out w8 a6 k6 (Q6.out.below b8 (Nat.le_refl _)))
            rw [HRL.out] at CX
            clear b8 CT Q6 CC
            go_wp2_with fail
            refine CX.out.mono ?_
            rintro e w9 ⟨rfl, b9⟩
            go_wp2
            go_ret3
            exact ⟨rfl, B8.out.trans (b9.mono B8.out.size)⟩
        · by_cases hx0 : x < 0
          · have DX : decide (x < 0) = true := decide_eq_true hx0
            by_cases hmore : 0 < x.natAbs % y.natAbs
            · rw [DX] at d1 i1
              obtain ⟨hq, hr⟩ := div_more i1 i2 hy0 hmore
              have hbc : (true != c) = (!c) := by cases c <;> rfl
              rw [hbc] at hq
              have ck := fun W a1 k1 (q1 : HoldI W a1 k1 (digs (x.natAbs / y.natAbs + 1))) => checked_any (!c) (x.natAbs / y.natAbs + 1) a1 k1 _ W q1 rfl
              have ct := fun W a1 k1 (q1 : HoldI W a1 k1 (digs (y.natAbs - x.natAbs % y.natAbs))) => text_any false (y.natAbs - x.natAbs % y.natAbs) a1 k1 _ W q1 rfl
              rw [hq] at ck
              have hcast : intD false (y.natAbs - x.natAbs % y.natAbs) = (((y.natAbs - x.natAbs % y.natAbs) : Nat) : Int) := rfl
              rw [hcast, hr] at ct
              have hT : resT (x / y) = ByteArray.empty := by unfold resT; rw [if_neg hfit]
              have hZ : resZ (x / y) = 30 := by unfold resZ; rw [if_neg hfit]
              have hR : resR x y = ByteArray.empty := by unfold resR; rw [if_neg hfit]
              rw [hT, hZ] at ck
              rw [hT, hZ, hR]
              have cp := fun W a1 k1 (q1 : HoldI W a1 k1 (digs (x.natAbs / y.natAbs))) => plus_any (x.natAbs / y.natAbs) 1 a1 (some ⟨W.heap.size, 0, none⟩) k1 1 _ 1 (W.alloc (.cells #[.int .i64 1] 3)) (q1.below ((Below.refl W.heap.size W).alloc (Nat.le_refl _) _) (Nat.le_refl _)) (hold_one W) rfl rfl (by omega) (by omega)
              have cm := fun W a1 k1 a2 k2 (q1 : HoldI W a1 k1 (digs y.natAbs)) (q2 : HoldI W a2 k2 (digs (x.natAbs % y.natAbs))) => minus_any y.natAbs (x.natAbs % y.natAbs) (by omega) a1 a2 k1 k2 _ _ W q1 q2 rfl rfl
              have hrlen : 0 < (digs (x.natAbs % y.natAbs)).length := by rw [digs_pos (by omega)]; simp
              obtain ⟨TQ, hTQ⟩ : ∃ T, textI (x / y) = T := ⟨_, rfl⟩
              obtain ⟨TR, hTR⟩ : ∃ T, textI (x % y) = T := ⟨_, rfl⟩
              rw [hTR] at ct
              obtain ⟨qn, hqn⟩ : ∃ q, x.natAbs / y.natAbs = q := ⟨_, rfl⟩
              obtain ⟨rn, hrn⟩ : ∃ q, x.natAbs % y.natAbs = q := ⟨_, rfl⟩
              obtain ⟨r2, hr2⟩ : ∃ q, y.natAbs - x.natAbs % y.natAbs = q := ⟨_, rfl⟩
              rw [hr2] at ct
              rw [hrn] at hr2
              rw [hqn, hrn] at cd
              rw [hqn] at ck cp
              rw [hrn] at cm hrlen
              simp only [hr2] at cm
              obtain ⟨m, hm⟩ : ∃ m, (digs x.natAbs).length = m := ⟨_, rfl⟩
              obtain ⟨n, hn⟩ : ∃ m, (digs y.natAbs).length = m := ⟨_, rfl⟩
              rw [hm] at d1 cd
              rw [hn] at d2 cd cm
              obtain ⟨rl, hrl⟩ : ∃ m, (digs rn).length = m := ⟨_, rfl⟩
              rw [hrl] at hrlen
              rw [hrl] at cm
              have HRL := Lib.hid hrl
              have hrp : (0 : Int) < (rl : Int) := by omega
              have VA := Lib.hid va; have VB := Lib.hid vb; have D1 := Lib.hid d1; have D2 := Lib.hid d2; have CD := Lib.hid cd; have CK := Lib.hid ck; have CT := Lib.hid ct; have CP := Lib.hid cp; have CM := Lib.hid cm
              clear va vb d1 d2 cd ck ct i1 i2 hc hm hn h1 h2 g1 g2 hx hy f1 f2 l1 l2 hq hr hT hZ hR hTQ hTR hqn hrn hrl hbc hcast hql hmod hyn hy0 hdz ht48 hfit DX hx0 cp cm hr2 hmore
              go_enter Tryz.func52, Tryz.ntmps52
              go_wp2_with fail
              refine (VA.out _).mono ?_
              rintro e w1 ⟨rfl, rfl⟩
              go_wp2_with fail
              refine (VB.out _).mono ?_
              rintro e w2 ⟨rfl, rfl⟩
              go_wp2_with fail
              refine (D1.out _).mono ?_
              rintro e w3 ⟨a1, k1, rfl, q1, b3⟩
              go_wp2_with fail
              refine (D2.out _).mono ?_
              rintro e w4 ⟨a2, k2, rfl, q2, b4⟩
              have B4 := Lib.hid (b3.trans (b4.mono b3.size))
              have Q2 := Lib.hid q2
              have C := Lib.hid (CD.out w4 a1 k1 a2 k2 (q1.below b4 (Nat.le_refl _)) q2)
              clear q1 q2 b3 b4 CD
              go_wp2_with fail
              refine C.out.mono ?_
              rintro e w5 ⟨a5, k5, a6, k6, rfl, q5, q6, b5⟩
              have B5 := Lib.hid (B4.out.trans (b5.mono B4.out.size))
              have Q5 := Lib.hid q5; have Q6 := Lib.hid q6; have L5 := Lib.hid (Q2.out.below b5 (Nat.le_refl _))
              rw [HRL.out]
              clear q5 q6 b5 Q2 C
              go_wp2_with fail
              refine (CP.out w5 a5 k5 Q5.out).mono ?_
              rintro e w6 ⟨a7, k7, rfl, q7, b7, _⟩
              have b7' : Below w5.heap.size w5 w6 := ((Below.refl w5.heap.size w5).alloc (Nat.le_refl _) _).trans (b7.mono (by simp))
              have B6 := Lib.hid (B5.out.trans (b7'.mono B5.out.size)); have Q7 := Lib.hid q7
              have C := Lib.hid (CM.out w6 a2 k2 a6 k6 (L5.out.below b7' (Nat.le_refl _)) (Q6.out.below b7' (Nat.le_refl _)))
              clear q7 b7 b7' CP CM Q5 Q6 L5
              go_wp2_with fail
              refine C.out.mono ?_
              rintro e w7 ⟨a8, k8, rfl, q8, b8, _⟩
              have B7 := Lib.hid (B6.out.trans (b8.mono B6.out.size)); have Q8 := Lib.hid q8
              have CC := Lib.hid (CK.out w7 a7 k7 (Q7.out.below b8 (Nat.le_refl _)))
              clear q8 b8 CK Q7 C
              go_wp2_with fail
              refine CC.out.mono ?_
              rintro e w8 ⟨rfl, b8⟩
              have B8 := Lib.hid (B7.out.trans (b8.mono B7.out.size))
              have CX := Lib.hid (CT.out w8 a8 k8 (Q8.out.below b8 (Nat.le_refl _)))
              clear b8 CT Q8 CC
              go_wp2_with fail
              refine CX.out.mono ?_
              rintro e w9 ⟨rfl, b9⟩
              go_wp2
              go_ret3
              exact ⟨rfl, B8.out.trans (b9.mono B8.out.size)⟩
            · replace hmore : x.natAbs % y.natAbs = 0 := by omega
              rw [DX] at d1 i1
              obtain ⟨hq, hr⟩ := div_plain i1 i2 hy0 (.inr hmore)
              have hbc : (true != c) = (!c) := by cases c <;> rfl
              rw [hbc] at hq
              have ck := fun W a1 k1 (q1 : HoldI W a1 k1 (digs (x.natAbs / y.natAbs))) => checked_any (!c) (x.natAbs / y.natAbs) a1 k1 _ W q1 rfl
              have ct := fun W a1 k1 (q1 : HoldI W a1 k1 (digs (x.natAbs % y.natAbs))) => text_any false (x.natAbs % y.natAbs) a1 k1 _ W q1 rfl
              rw [hq] at ck
              have hcast : intD false (x.natAbs % y.natAbs) = (((x.natAbs % y.natAbs) : Nat) : Int) := rfl
              rw [hcast, hr] at ct
              have hT : resT (x / y) = ByteArray.empty := by unfold resT; rw [if_neg hfit]
              have hZ : resZ (x / y) = 30 := by unfold resZ; rw [if_neg hfit]
              have hR : resR x y = ByteArray.empty := by unfold resR; rw [if_neg hfit]
              rw [hT, hZ] at ck
              rw [hT, hZ, hR]
              have hrlen : (digs (x.natAbs % y.natAbs)).length = 0 := by rw [hmore]; rfl
              obtain ⟨TQ, hTQ⟩ : ∃ T, textI (x / y) = T := ⟨_, rfl⟩
              obtain ⟨TR, hTR⟩ : ∃ T, textI (x % y) = T := ⟨_, rfl⟩
              rw [hTR] at ct
              obtain ⟨qn, hqn⟩ : ∃ q, x.natAbs / y.natAbs = q := ⟨_, rfl⟩
              obtain ⟨rn, hrn⟩ : ∃ q, x.natAbs % y.natAbs = q := ⟨_, rfl⟩
              rw [hqn, hrn] at cd
              rw [hqn] at ck
              rw [hrn] at ct hrlen
              obtain ⟨m, hm⟩ : ∃ m, (digs x.natAbs).length = m := ⟨_, rfl⟩
              obtain ⟨n, hn⟩ : ∃ m, (digs y.natAbs).length = m := ⟨_, rfl⟩
              rw [hm] at d1 cd
              rw [hn] at d2 cd
              obtain ⟨rl, hrl⟩ : ∃ m, (digs rn).length = m := ⟨_, rfl⟩
              rw [hrl] at hrlen
              have HRL := Lib.hid hrl
              subst hrlen
              have VA := Lib.hid va; have VB := Lib.hid vb; have D1 := Lib.hid d1; have D2 := Lib.hid d2; have CD := Lib.hid cd; have CK := Lib.hid ck; have CT := Lib.hid ct
              clear va vb d1 d2 cd ck ct i1 i2 hc hm hn h1 h2 g1 g2 hx hy f1 f2 l1 l2 hq hr hT hZ hR hTQ hTR hqn hrn hrl hbc hcast hql hmod hyn hy0 hdz ht48 hfit DX hx0 hmore
              go_enter Tryz.func52, Tryz.ntmps52
              go_wp2_with fail
              refine (VA.out _).mono ?_
              rintro e w1 ⟨rfl, rfl⟩
              go_wp2_with fail
              refine (VB.out _).mono ?_
              rintro e w2 ⟨rfl, rfl⟩
              go_wp2_with fail
              refine (D1.out _).mono ?_
              rintro e w3 ⟨a1, k1, rfl, q1, b3⟩
              go_wp2_with fail
              refine (D2.out _).mono ?_
              rintro e w4 ⟨a2, k2, rfl, q2, b4⟩
              have B4 := Lib.hid (b3.trans (b4.mono b3.size))
              have Q2 := Lib.hid q2
              have C := Lib.hid (CD.out w4 a1 k1 a2 k2 (q1.below b4 (Nat.le_refl _)) q2)
              clear q1 q2 b3 b4 CD
              go_wp2_with fail
              refine C.out.mono ?_
              rintro e w5 ⟨a5, k5, a6, k6, rfl, q5, q6, b5⟩
              have B5 := Lib.hid (B4.out.trans (b5.mono B4.out.size))
              have Q5 := Lib.hid q5; have Q6 := Lib.hid q6; have L5 := Lib.hid (Q2.out.below b5 (Nat.le_refl _))
              rw [HRL.out]
              clear q5 q6 b5 Q2 C
              have CC := Lib.hid (CK.out w5 a5 k5 Q5.out)
              clear CK Q5 L5
              go_wp2_with fail
              refine CC.out.mono ?_
              rintro e w8 ⟨rfl, b8⟩
              have B8 := Lib.hid (B5.out.trans (b8.mono B5.out.size))
              have CX := Lib.hid (CT.out w8 a6 k6 (Q6.out.below b8 (Nat.le_refl _)))
              rw [HRL.out] at CX
              clear b8 CT Q6 CC
              go_wp2_with fail
              refine CX.out.mono ?_
              rintro e w9 ⟨rfl, b9⟩
              go_wp2
              go_ret3
              exact ⟨rfl, B8.out.trans (b9.mono B8.out.size)⟩
          · have DX : decide (x < 0) = false := decide_eq_false hx0
            rw [DX] at d1 i1
            obtain ⟨hq, hr⟩ := div_plain i1 i2 hy0 (.inl rfl)
            have hbc : (false != c) = c := by cases c <;> rfl
            rw [hbc] at hq
            have ck := fun W a1 k1 (q1 : HoldI W a1 k1 (digs (x.natAbs / y.natAbs))) => checked_any c (x.natAbs / y.natAbs) a1 k1 _ W q1 rfl
            have ct := fun W a1 k1 (q1 : HoldI W a1 k1 (digs (x.natAbs % y.natAbs))) => text_any false (x.natAbs % y.natAbs) a1 k1 _ W q1 rfl
            rw [hq] at ck
            have hcast : intD false (x.natAbs % y.natAbs) = (((x.natAbs % y.natAbs) : Nat) : Int) := rfl
            rw [hcast, hr] at ct
            have hT : resT (x / y) = ByteArray.empty := by unfold resT; rw [if_neg hfit]
            have hZ : resZ (x / y) = 30 := by unfold resZ; rw [if_neg hfit]
            have hR : resR x y = ByteArray.empty := by unfold resR; rw [if_neg hfit]
            rw [hT, hZ] at ck
            rw [hT, hZ, hR]
            have hrlen : (digs (x.natAbs % y.natAbs)).length = (digs (x.natAbs % y.natAbs)).length := rfl
            obtain ⟨TQ, hTQ⟩ : ∃ T, textI (x / y) = T := ⟨_, rfl⟩
            obtain ⟨TR, hTR⟩ : ∃ T, textI (x % y) = T := ⟨_, rfl⟩
            rw [hTR] at ct
            obtain ⟨qn, hqn⟩ : ∃ q, x.natAbs / y.natAbs = q := ⟨_, rfl⟩
            obtain ⟨rn, hrn⟩ : ∃ q, x.natAbs % y.natAbs = q := ⟨_, rfl⟩
            rw [hqn, hrn] at cd
            rw [hqn] at ck
            rw [hrn] at ct hrlen
            obtain ⟨m, hm⟩ : ∃ m, (digs x.natAbs).length = m := ⟨_, rfl⟩
            obtain ⟨n, hn⟩ : ∃ m, (digs y.natAbs).length = m := ⟨_, rfl⟩
            rw [hm] at d1 cd
            rw [hn] at d2 cd
            obtain ⟨rl, hrl⟩ : ∃ m, (digs rn).length = m := ⟨_, rfl⟩
            rw [hrl] at hrlen
            have HRL := Lib.hid hrl
            have VA := Lib.hid va; have VB := Lib.hid vb; have D1 := Lib.hid d1; have D2 := Lib.hid d2; have CD := Lib.hid cd; have CK := Lib.hid ck; have CT := Lib.hid ct
            clear va vb d1 d2 cd ck ct i1 i2 hc hm hn h1 h2 g1 g2 hx hy f1 f2 l1 l2 hq hr hT hZ hR hTQ hTR hqn hrn hrl hbc hcast hql hmod hyn hy0 hdz ht48 hfit DX hx0 hrlen
            go_enter Tryz.func52, Tryz.ntmps52
            go_wp2_with fail
            refine (VA.out _).mono ?_
            rintro e w1 ⟨rfl, rfl⟩
            go_wp2_with fail
            refine (VB.out _).mono ?_
            rintro e w2 ⟨rfl, rfl⟩
            go_wp2_with fail
            refine (D1.out _).mono ?_
            rintro e w3 ⟨a1, k1, rfl, q1, b3⟩
            go_wp2_with fail
            refine (D2.out _).mono ?_
            rintro e w4 ⟨a2, k2, rfl, q2, b4⟩
            have B4 := Lib.hid (b3.trans (b4.mono b3.size))
            have Q2 := Lib.hid q2
            have C := Lib.hid (CD.out w4 a1 k1 a2 k2 (q1.below b4 (Nat.le_refl _)) q2)
            clear q1 q2 b3 b4 CD
            go_wp2_with fail
            refine C.out.mono ?_
            rintro e w5 ⟨a5, k5, a6, k6, rfl, q5, q6, b5⟩
            have B5 := Lib.hid (B4.out.trans (b5.mono B4.out.size))
            have Q5 := Lib.hid q5; have Q6 := Lib.hid q6; have L5 := Lib.hid (Q2.out.below b5 (Nat.le_refl _))
            rw [HRL.out]
            clear q5 q6 b5 Q2 C
            have CC := Lib.hid (CK.out w5 a5 k5 Q5.out)
            clear CK Q5 L5
            go_wp2_with fail
            refine CC.out.mono ?_
            rintro e w8 ⟨rfl, b8⟩
            have B8 := Lib.hid (B5.out.trans (b8.mono B5.out.size))
            have CX := Lib.hid (CT.out w8 a6 k6 (Q6.out.below b8 (Nat.le_refl _)))
            rw [HRL.out] at CX
            clear b8 CT Q6 CC
            go_wp2_with fail
            refine CX.out.mono ?_
            rintro e w9 ⟨rfl, b9⟩
            go_wp2
            go_ret3
            exact ⟨rfl, B8.out.trans (b9.mono B8.out.size)⟩
    · have h2' : validB t = false := by simpa using h2
      rw [h1] at va
      rw [h2'] at vb
      rw [h1, h2', Bool.and_false, Bool.false_and, if_neg (by simp), if_neg (by simp), if_neg (by simp)]
      have VA := Lib.hid va; have VB := Lib.hid vb
      clear va vb h1 h2 h2'
      go_enter Tryz.func52, Tryz.ntmps52
      go_wp2_with fail
      refine (VA.out _).mono ?_
      rintro e w1 ⟨rfl, rfl⟩
      go_wp2_with fail
      refine (VB.out _).mono ?_
      rintro e w2 ⟨rfl, rfl⟩
      go_wp2
      go_ret3
      exact ⟨rfl, Below.refl _ _⟩
  · have h1' : validB s = false := by simpa using h1
    rw [h1'] at va
    rw [h1', Bool.false_and, Bool.false_and, if_neg (by simp), if_neg (by simp), if_neg (by simp)]
    have VA := Lib.hid va
    clear va vb h1 h1'
    go_enter Tryz.func52, Tryz.ntmps52
    go_wp2_with fail
    refine (VA.out _).mono ?_
    rintro e w1 ⟨rfl, rfl⟩
    go_wp2
    go_ret3
    exact ⟨rfl, Below.refl _ _⟩
end Go.Proofs.YtlcibnmcannapaaGreatDoor

namespace Go.Proofs.YtlcibnmcannapaaGreatDoor
open Go Go.Proofs Go.RowKit Go.Lib

set_option maxRecDepth 100000 in
set_option maxHeartbeats 8000000 in
theorem fromR_any (n : Int) (hlo : -9223372036854775808 ≤ n) (hhi : n ≤ 9223372036854775807) (w : World) :
    Calls Tryz.prog 43 #[.int .i64 n] w fun e w' => e = .returned (.string (textI n)) ∧ Below w.heap.size w w' := by
  obtain ⟨N, hN⟩ : ∃ N, n.natAbs = N := ⟨_, rfl⟩
  have hN63 : N ≤ 9223372036854775808 := by omega
  have hl20 : (digs N).length ≤ 19 := digs_length_le 19 N (by omega)
  obtain ⟨T, hT⟩ : ∃ T, textI n = T := ⟨_, rfl⟩
  rw [hT]
  by_cases hneg : n < 0
  · have hnd : n = -(N : Int) := by omega
    have ct := fun W a k m (q : HoldI W a k (digs N)) (hm : (digs N).length = m) => text_any true N a k m W q hm
    have hi : intD true N = n := by simp [intD]; omega
    rw [hi, hT] at ct
    have CT := Lib.hid ct
    clear ct hi hT hN
    subst hnd
    have hlt1 : (-(N : Int) < 0) := hneg
    have hlt2 : decide (-(N : Int) < 0) = true := decide_eq_true hlt1
    have hlt3 : decide (0 < (N : Int)) = true := decide_eq_true (by omega)
    have hlt4 : decide (0 < N) = true := decide_eq_true (by omega)
    go_enter Tryz.func43, Tryz.ntmps43
    go_wp2_with fail
    go_loopw [3, 4] (fun v u wr => ∃ (out : List Nat) (M : Nat), M ≤ 9223372036854775808 ∧ u = .int .i64 (-(M : Int)) ∧ Hid (out ++ digs M = digs N) ∧ Hid (OwnI wr w.heap.size v out) ∧ Hid (Below w.heap.size w wr)) (fun _ u _ => (RowKit.intOf u).natAbs)
    case atStart => exact ⟨[], N, hN63, rfl, rfl, OwnI.nil _ _, Below.refl _ _⟩
    case round =>
      obtain ⟨out, M, hM, rfl, hap, hown, hbr⟩ := hrel
      by_cases hM0 : M = 0
      · subst hM0
        have ho : out = digs N := by rw [← hap.out, digs_zero, List.append_nil]
        subst ho
        have hz : ((-((0 : Nat) : Int)) != 0) = false := by simp
        obtain ⟨q, hq⟩ : ∃ q, (digs N).length = q := ⟨_, rfl⟩
        obtain ⟨ad, cap, rfl, hh⟩ := hown.out.holds q hq (by omega)
        have C := Lib.hid (CT.out wr ad cap q hh hq)
        clear hh hown hap CT hq hl20
        go_wp2_with fail
        refine C.out.mono ?_
        rintro e w1 ⟨rfl, b1⟩
        go_wp2
        go_ret
        exact ⟨rfl, hbr.out.trans (b1.mono hbr.out.size)⟩
      · have hMn : -(M : Int) ≠ 0 := by omega
        have hz1 : ((-(M : Int)) != 0) = true := by rw [bne_iff_ne]; exact hMn
        have hz2 : ((M : Int) != 0) = true := by rw [bne_iff_ne]; omega
        have hz3 : ((M : Int) == 0) = false := by rw [beq_eq_false_iff_ne]; omega
        have hz4 : 0 < M := by omega
        have hdp := digs_pos hM0
        obtain ⟨d, hd⟩ : ∃ d, M % 10 = d := ⟨_, rfl⟩
        obtain ⟨c, hc⟩ : ∃ d, M / 10 = d := ⟨_, rfl⟩
        rw [hd, hc] at hdp
        have hd10 : d < 10 := by omega
        have hr1 : (M : Int) % 10 = (d : Int) := by omega
        have hr2 : (M : Int) / 10 = (c : Int) := by omega
        have hr3 : Int.tmod (M : Int) 10 = (d : Int) := by rw [Int.tmod_eq_emod_of_nonneg (by omega)]; exact hr1
        have hr4 : Int.tdiv (M : Int) 10 = (c : Int) := by rw [Int.tdiv_eq_ediv_of_nonneg (by omega)]; exact hr2
        have hr5 : Int.tmod (-(M : Int)) 10 = -(d : Int) := by rw [Int.neg_tmod, hr3]
        have hr6 : Int.tdiv (-(M : Int)) 10 = -(c : Int) := by rw [Int.neg_tdiv, hr4]
        have hap2 : (out ++ [d]) ++ digs c = digs N := by rw [List.append_assoc, ← hap.out, hdp]; rfl
        have hol : out.length + 1 ≤ 17592186044416 := by
          have := congrArg List.length hap.out
          rw [List.length_append] at this; omega
        have hsize := hbr.out.size
        have hcM : c < M := by omega
        have HAP := Lib.hid hap2
        clear hap2 hdp hd hc hap hM0
        by_cases hd0 : d = 0
        · subst hd0
          have hg1 : ¬ (-((0 : Nat) : Int) < 0) := by omega
          go_wp2_with (first | (at_builtin; refine walk_pushI (w0 := w) rfl _ _ rfl w.heap.size _ out [0] rfl (hown.out.alloc _) (hbr.out.alloc hsize _) (Nat.le_trans hsize (by simp)) wr.heap.size 0 1 1 rfl rfl (new_num1 .i64 wr _ 0 (by first | rfl | omega) _) hol ?_; intro v3 W3 ho3 hb3))
          go_roundw
          case rel => exact ⟨out ++ [0], c, by omega, by first | rfl | go_num, HAP.out, ho3, hb3⟩
          case measure => simp [RowKit.intOf]; omega
        · have hg1 : -(d : Int) < 0 := by omega
          have hg2 : (0 : Int) < (d : Int) := by omega
          have hg3 : 0 < d := by omega
          go_wp2_with (first | (at_builtin; refine walk_pushI (w0 := w) rfl _ _ rfl w.heap.size _ out [d] rfl (hown.out.alloc _) (hbr.out.alloc hsize _) (Nat.le_trans hsize (by simp)) wr.heap.size 0 1 1 rfl rfl (new_num1 .i64 wr _ d (by first | rfl | omega) _) hol ?_; intro v3 W3 ho3 hb3))
          go_roundw
          case rel => exact ⟨out ++ [d], c, by omega, by first | rfl | go_num, HAP.out, ho3, hb3⟩
          case measure => simp [RowKit.intOf]; omega
  · have hnd : n = (N : Int) := by omega
    have ct := fun W a k m (q : HoldI W a k (digs N)) (hm : (digs N).length = m) => text_any false N a k m W q hm
    have hi : intD false N = n := by simp [intD]; omega
    rw [hi, hT] at ct
    have CT := Lib.hid ct
    clear ct hi hT hN
    subst hnd
    have hlt1 : ¬ ((N : Int) < 0) := hneg
    have hlt2 : decide ((N : Int) < 0) = false := decide_eq_false hlt1
    go_enter Tryz.func43, Tryz.ntmps43
    go_wp2_with fail
    go_loopw [3, 4] (fun v u wr => ∃ (out : List Nat) (M : Nat), M ≤ 9223372036854775808 ∧ u = .int .i64 ((M : Int)) ∧ Hid (out ++ digs M = digs N) ∧ Hid (OwnI wr w.heap.size v out) ∧ Hid (Below w.heap.size w wr)) (fun _ u _ => (RowKit.intOf u).natAbs)
    case atStart => exact ⟨[], N, hN63, rfl, rfl, OwnI.nil _ _, Below.refl _ _⟩
    case round =>
      obtain ⟨out, M, hM, rfl, hap, hown, hbr⟩ := hrel
      by_cases hM0 : M = 0
      · subst hM0
        have ho : out = digs N := by rw [← hap.out, digs_zero, List.append_nil]
        subst ho
        have hz : ((((0 : Nat) : Int)) != 0) = false := by simp
        obtain ⟨q, hq⟩ : ∃ q, (digs N).length = q := ⟨_, rfl⟩
        obtain ⟨ad, cap, rfl, hh⟩ := hown.out.holds q hq (by omega)
        have C := Lib.hid (CT.out wr ad cap q hh hq)
        clear hh hown hap CT hq hl20
        go_wp2_with fail
        refine C.out.mono ?_
        rintro e w1 ⟨rfl, b1⟩
        go_wp2
        go_ret
        exact ⟨rfl, hbr.out.trans (b1.mono hbr.out.size)⟩
      · have hMn : (M : Int) ≠ 0 := by omega
        have hz1 : (((M : Int)) != 0) = true := by rw [bne_iff_ne]; exact hMn
        have hz2 : ((M : Int) != 0) = true := by rw [bne_iff_ne]; omega
        have hz3 : ((M : Int) == 0) = false := by rw [beq_eq_false_iff_ne]; omega
        have hz4 : 0 < M := by omega
        have hdp := digs_pos hM0
        obtain ⟨d, hd⟩ : ∃ d, M % 10 = d := ⟨_, rfl⟩
        obtain ⟨c, hc⟩ : ∃ d, M / 10 = d := ⟨_, rfl⟩
        rw [hd, hc] at hdp
        have hd10 : d < 10 := by omega
        have hr1 : (M : Int) % 10 = (d : Int) := by omega
        have hr2 : (M : Int) / 10 = (c : Int) := by omega
        have hr3 : Int.tmod (M : Int) 10 = (d : Int) := by rw [Int.tmod_eq_emod_of_nonneg (by omega)]; exact hr1
        have hr4 : Int.tdiv (M : Int) 10 = (c : Int) := by rw [Int.tdiv_eq_ediv_of_nonneg (by omega)]; exact hr2
        have hr5 : Int.tmod (-(M : Int)) 10 = -(d : Int) := by rw [Int.neg_tmod, hr3]
        have hr6 : Int.tdiv (-(M : Int)) 10 = -(c : Int) := by rw [Int.neg_tdiv, hr4]
        have hap2 : (out ++ [d]) ++ digs c = digs N := by rw [List.append_assoc, ← hap.out, hdp]; rfl
        have hol : out.length + 1 ≤ 17592186044416 := by
          have := congrArg List.length hap.out
          rw [List.length_append] at this; omega
        have hsize := hbr.out.size
        have hcM : c < M := by omega
        have HAP := Lib.hid hap2
        clear hap2 hdp hd hc hap hM0
        have hg1 : ¬ ((d : Int) < 0) := by omega
        go_wp2_with (first | (at_builtin; refine walk_pushI (w0 := w) rfl _ _ rfl w.heap.size _ out [d] rfl (hown.out.alloc _) (hbr.out.alloc hsize _) (Nat.le_trans hsize (by simp)) wr.heap.size 0 1 1 rfl rfl (new_num1 .i64 wr _ d (by first | rfl | omega) _) hol ?_; intro v3 W3 ho3 hb3))
        go_roundw
        case rel => exact ⟨out ++ [d], c, by omega, by first | rfl | go_num, HAP.out, ho3, hb3⟩
        case measure => simp [RowKit.intOf]; omega
end Go.Proofs.YtlcibnmcannapaaGreatDoor
