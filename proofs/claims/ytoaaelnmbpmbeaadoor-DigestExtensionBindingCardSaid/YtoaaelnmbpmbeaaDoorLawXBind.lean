/-
  DigestExtensionBinding returns true for all arguments: the walk.
-/
import Derived.Test.YtoaaelnmbpmbeaaDoorSides
namespace Go.Proofs.YtoaaelnmbpmbeaaDoor
open Go Go.Proofs Go.RowKit Go.Lib

theorem verx_parts {old : ByteArray} {m : Int} {root : ByteArray} {n : Int} {p : List ByteArray} (h : verX old m root n p = true) :
    0 ≤ m ∧ m ≤ n ∧ old.size = 32 ∧ allDig p = true ∧ ((m = 0 ∧ old = rootF []) ∨ (m ≠ 0 ∧ twoR old m.toNat n.toNat true p.reverse = some (old, root))) := by
  unfold verX at h
  by_cases h0 : m = 0
  · rw [if_pos h0] at h
    simp only [Bool.and_eq_true, decide_eq_true_eq] at h
    exact ⟨h.1.1, h.1.2, h.2.1.1, h.2.2.1, .inl ⟨h0, h.2.2.2.2⟩⟩
  · rw [if_neg h0] at h
    simp only [Bool.and_eq_true, decide_eq_true_eq] at h
    exact ⟨h.1.1, h.1.2, h.2.1.1, h.2.2.1, .inr ⟨h0, h.2.2.2⟩⟩

set_option maxRecDepth 100000 in
set_option maxHeartbeats 4000000 in
theorem xbind_walk (S : ByteArray) (ap : Option Addr) (np cp : Nat) (tp : Nat → ByteArray) (T : ByteArray) (aq : Option Addr) (nq cq : Nat) (tq : Nat → ByteArray) (m : Int) (root : ByteArray) (n : Int) (w : World)
    (hs0 : S.size ≤ maxLen) (hnp : np ≤ maxLen) (hIp : StrsIn w ap np tp) (ht0 : T.size ≤ maxLen) (hnq : nq ≤ maxLen) (hIq : StrsIn w aq nq tq) (hm : -9223372036854775808 ≤ m ∧ m ≤ 9223372036854775807) (hroot : root.size ≤ maxLen) (hn : -9223372036854775808 ≤ n ∧ n ≤ 9223372036854775807) (hR : Ready w) :
    Calls Tryd.prog 10 #[.string S, .slice ap np cp, .string T, .slice aq nq cq, .int .i64 m, .string root, .int .i64 n] w fun e w' => e = .returned (.bool true) ∧ Below w.heap.size w w' := by
  have HR := Lib.hid hR
  clear hR
  obtain ⟨P, hP⟩ : ∃ M, min np 70 = M := ⟨_, rfl⟩
  obtain ⟨Q, hQ⟩ : ∃ M, min nq 70 = M := ⟨_, rfl⟩
  have hP70 : P ≤ 70 := by omega
  have hQ70 : Q ≤ 70 := by omega
  obtain ⟨p, hp⟩ : ∃ l, fewL tp P = l := ⟨_, rfl⟩
  obtain ⟨q, hq⟩ : ∃ l, fewL tq Q = l := ⟨_, rfl⟩
  have hpl : p.length = P := by rw [← hp]; exact fewL_length tp P
  have hql : q.length = Q := by rw [← hq]; exact fewL_length tq Q
  have hpz : ∀ x ∈ p, x.size ≤ 60 := by rw [← hp]; exact fewL_small tp P
  have hqz : ∀ x ∈ q, x.size ≤ 60 := by rw [← hq]; exact fewL_small tq Q
  have cp' := fun W hb => few_call ap np cp tp 70 P p hnp (by decide) hP hp w W hIp hb
  have cq' := fun W hb => few_call aq nq cq tq 70 Q q hnq (by decide) hQ hq w W hIq hb
  unfold maxLen at hs0 ht0 hroot
  have PL := Lib.hid hpl; have QL := Lib.hid hql; have PZ := Lib.hid hpz; have QZ := Lib.hid hqz; have CP := Lib.hid cp'; have CQ := Lib.hid cq'
  clear hP hQ hp hq hpl hql hpz hqz cp' cq' hIp hIq hnp hnq
  go_enter Tryd.func10, Tryd.ntmps10
  go_wp2_with fail
  refine (sane_any _ HR.out).mono ?_
  rintro e w1 ⟨rfl, b1⟩
  have B1 := Lib.hid b1
  clear b1
  go_wp2_with fail
  refine (CP.out _ B1.out).mono ?_
  rintro e w2 ⟨adp, capp, rfl, hhp, b2⟩
  have K2 := Lib.hid (Keeps.mk (w := w) (W := w2) (B1.out.trans (b2.mono B1.out.size)) hhp ((HR.out.below B1.out).below b2))
  have hcp := hhp.1
  rw [PL.out] at hcp
  clear hhp b2 B1
  go_wp2_with fail
  refine (CQ.out _ K2.out.hb).mono ?_
  rintro e w3 ⟨adq, capq, rfl, hhq, b3⟩
  have K3 := Lib.hid (K2.out.go b3)
  have J3 := Lib.hid (Keeps.mk K3.out.hb hhq K3.out.hr)
  have hcq := hhq.1
  rw [QL.out] at hcq
  clear hhq b3 K2 CP CQ HR
  have smp : Small p := fun x hx => by have := PZ.out x hx; omega
  have smq : Small q := fun x hx => by have := QZ.out x hx; omega
  have cv1 := verx_big S m root n p adp capp w3 hn.2 hs0 hroot K3.out.hh smp K3.out.hr
  have cv2 := fun W (h : Keeps w W adq capq q) => verx_big T m root n q adq capq W hn.2 ht0 hroot h.hh smq h.hr
  rw [PL.out] at cv1
  rw [QL.out] at cv2
  have P1 := fun (h : verX S m root n p = true) => verx_parts h
  have P2 := fun (h : verX T m root n q = true) => verx_parts h
  obtain ⟨r1, hr1⟩ : ∃ r, verX S m root n p = r := ⟨_, rfl⟩
  obtain ⟨r2, hr2⟩ : ∃ r, verX T m root n q = r := ⟨_, rfl⟩
  rw [hr1] at cv1 P1
  rw [hr2] at cv2 P2
  have CV1 := Lib.hid cv1; have CV2 := Lib.hid cv2; have HP1 := Lib.hid P1; have HP2 := Lib.hid P2
  clear cv1 cv2 P1 P2 hr1 hr2 smp smq
  go_wp2_with fail
  refine CV1.out.mono ?_
  rintro e w4 ⟨rfl, b4⟩
  have K4 := Lib.hid (K3.out.go b4); have J4 := Lib.hid (J3.out.go b4)
  clear b4 K3 J3 CV1
  go_wp2_with fail
  refine (CV2.out _ J4.out).mono ?_
  rintro e w5 ⟨rfl, b5⟩
  have K5 := Lib.hid (K4.out.go b5); have J5 := Lib.hid (J4.out.go b5)
  clear b5 K4 J4 CV2
  cases r1 with
  | false =>
    go_wp2_with fail
    go_ret
    exact ⟨rfl, K5.out.hb⟩
  | true =>
    cases r2 with
    | false =>
      go_wp2_with fail
      go_ret
      exact ⟨rfl, K5.out.hb⟩
    | true =>
      by_cases hst : S = T
      · have he : (S.toList == T.toList) = true := by rw [str_eq_iff, decide_eq_true hst]
        have HST := Lib.hid hst
        clear hst
        go_wp2_with fail
        go_ret
        exact ⟨rfl, K5.out.hb⟩
      · have he : (S.toList == T.toList) = false := by rw [str_eq_iff, decide_eq_false hst]
        obtain ⟨hm0, hmn, hS32, hd1, hv1⟩ := HP1.out rfl
        obtain ⟨_, _, hT32, hd2, hv2⟩ := HP2.out rfl
        obtain ⟨I, rfl⟩ := Int.eq_ofNat_of_zero_le hm0
        obtain ⟨N, rfl⟩ := Int.eq_ofNat_of_zero_le (show 0 ≤ n by omega)
        have hI1 : 1 ≤ I := by
          rcases hv1 with ⟨h, e1⟩ | ⟨h, _⟩
          · rcases hv2 with ⟨_, e2⟩ | ⟨h', _⟩
            · exact absurd (e1.trans e2.symm) hst
            · omega
          · omega
        have hv1' : twoR S I N true p.reverse = some (S, root) := by
          rcases hv1 with ⟨h, _⟩ | ⟨_, h⟩
          · omega
          · exact h
        have hv2' : twoR T I N true q.reverse = some (T, root) := by
          rcases hv2 with ⟨h, _⟩ | ⟨_, h⟩
          · omega
          · exact h
        have hcoll := binds2 p.reverse q.reverse I N true S T (S, root) (T, root) (by omega) hS32 hT32 hv1' hv2' rfl hst (allDig_rev hd1) (allDig_rev hd2)
        have hN9 := hn.2
        have cw1 := sides_any p.length p S I N true adp capp w5 (Nat.le_refl _) hI1 (by omega) (by omega) (by omega) K5.out.hh (fun x hx => by have := PZ.out x hx; omega) (by rw [PL.out]; omega) K5.out.hr
        have cw2 := fun W (h : Keeps w W adq capq q) => sides_any q.length q T I N true adq capq W (Nat.le_refl _) hI1 (by omega) (by omega) (by omega) h.hh (fun x hx => by have := QZ.out x hx; omega) (by rw [QL.out]; omega) h.hr
        have hsA := sideR_small p.reverse S I N true (by omega) (fun x hx => by have := PZ.out x (by simpa using hx); omega)
        have hsB := sideR_small q.reverse T I N true (by omega) (fun x hx => by have := QZ.out x (by simpa using hx); omega)
        have hlA := sideR_length p.reverse S I N true
        have hlB := sideR_length q.reverse T I N true
        rw [List.length_reverse, PL.out] at hlA
        rw [List.length_reverse, QL.out] at hlB
        rw [PL.out] at cw1
        rw [QL.out] at cw2
        obtain ⟨A, eA⟩ : ∃ A, sideR S I N true p.reverse = A := ⟨_, rfl⟩
        obtain ⟨B, eB⟩ : ∃ B, sideR T I N true q.reverse = B := ⟨_, rfl⟩
        obtain ⟨vA, evA⟩ : ∃ A, sideV S I N true p.reverse = A := ⟨_, rfl⟩
        obtain ⟨vB, evB⟩ : ∃ B, sideV T I N true q.reverse = B := ⟨_, rfl⟩
        rw [eA] at hcoll cw1 hsA hlA
        rw [eB] at hcoll cw2 hsB hlB
        rw [evA] at cw1
        rw [evB] at cw2
        obtain ⟨la, ela⟩ : ∃ n, A.length = n := ⟨_, rfl⟩
        obtain ⟨lb, elb⟩ : ∃ n, B.length = n := ⟨_, rfl⟩
        rw [ela] at hlA
        rw [elb] at hlB
        have CW1 := Lib.hid cw1; have CW2 := Lib.hid cw2; have HSA := Lib.hid hsA; have HSB := Lib.hid hsB; have LA := Lib.hid ela; have LB := Lib.hid elb; have HCO := Lib.hid hcoll; have HST := Lib.hid hst
        clear hst hm0 hd1 hv1 hd2 hv2 hv1' hv2' hcoll cw1 cw2 hsA hsB ela elb eA eB evA evB HP1 HP2 PZ QZ
        go_wp2_with fail
        refine CW1.out.mono ?_
        rintro e w6 ⟨v6, rfl, ho6, b6⟩
        obtain ⟨ad6, cap6, rfl, hh6⟩ := own_holds la ho6 LA.out (by omega)
        have K6 := Lib.hid (Keeps.mk (K5.out.go b6).hb hh6 (K5.out.go b6).hr); have J6 := Lib.hid (J5.out.go b6)
        clear ho6 b6 hh6 K5 J5 CW1
        go_wp2_with fail
        refine (CW2.out _ J6.out).mono ?_
        rintro e w7 ⟨v7, rfl, ho7, b7⟩
        obtain ⟨ad7, cap7, rfl, hh7⟩ := own_holds lb ho7 LB.out (by omega)
        have K7 := Lib.hid (K6.out.go b7)
        have cc := collide_any A B ad6 ad7 la lb cap6 cap7 w7 K7.out.hh hh7 LA.out LB.out HSA.out HSB.out K7.out.hr
        rw [HCO.out] at cc
        have CC := Lib.hid cc
        clear ho7 b7 hh7 K6 J6 CW2 cc
        go_wp2_with fail
        refine CC.out.mono ?_
        rintro e w8 ⟨rfl, b8⟩
        have K8 := Lib.hid (K7.out.go b8)
        clear b8
        go_wp2
        go_ret
        exact ⟨rfl, K8.out.hb⟩

theorem xbind_walk0 (a0 : ByteArray) (a1 : Option Addr) (n1 c1 : Nat) (a2 : ByteArray) (a3 : Option Addr) (n3 c3 : Nat) (a4 : Int) (a5 : ByteArray) (a6 : Int) (w : World) (h0 : a0.size ≤ maxLen) (h1 : n1 ≤ maxLen ∧ ∃ t, StrsIn w a1 n1 t) (h2 : a2.size ≤ maxLen) (h3 : n3 ≤ maxLen ∧ ∃ t, StrsIn w a3 n3 t) (l4 : -9223372036854775808 ≤ a4) (u4 : a4 ≤ 9223372036854775807) (h5 : a5.size ≤ maxLen) (l6 : -9223372036854775808 ≤ a6) (u6 : a6 ≤ 9223372036854775807) (hT : HasK w) (hg : 0 < w.heap.size) :
    Calls Tryd.prog 10 #[.string a0, .slice a1 n1 c1, .string a2, .slice a3 n3 c3, .int .i64 a4, .string a5, .int .i64 a6] w fun e w' => e = .returned (.bool true) ∧ Below w.heap.size w w' := by
  obtain ⟨m1, t1, i1⟩ := h1
  obtain ⟨m3, t3, i3⟩ := h3
  exact xbind_walk a0 a1 n1 c1 t1 a2 a3 n3 c3 t3 a4 a5 a6 w h0 m1 i1 h2 m3 i3 ⟨l4, u4⟩ h5 ⟨l6, u6⟩ ⟨hT, hg⟩
end Go.Proofs.YtoaaelnmbpmbeaaDoor
