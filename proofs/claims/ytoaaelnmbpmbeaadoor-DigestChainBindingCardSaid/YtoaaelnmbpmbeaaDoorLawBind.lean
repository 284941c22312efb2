/-
  DigestBinding returns true for all arguments: the walk.
-/
import Derived.Test.YtoaaelnmbpmbeaaDoorColl
namespace Go.Proofs.YtoaaelnmbpmbeaaDoor
open Go Go.Proofs Go.RowKit Go.Lib

theorem strs_below {w W : World} {ad : Option Addr} {n : Nat} {t : Nat → ByteArray} (h : StrsIn w ad n t) (hb : Below w.heap.size w W) : StrsIn W ad n t := by
  rcases h with h | ⟨b, o, rfl, hlt, hc⟩
  · exact Or.inl h
  · exact Or.inr ⟨b, o, rfl, Nat.lt_of_lt_of_le hlt hb.size, fun i hi => ⟨(hb.cell (p := ⟨b, o + i, none⟩) hlt).trans (hc i hi).1, (hc i hi).2⟩⟩
theorem few_call (ad0 : Option Addr) (n0 c0 : Nat) (t : Nat → ByteArray) (N M : Nat) (l : List ByteArray) (hn : n0 ≤ maxLen) (hN : N ≤ 1000) (hM : min n0 N = M) (hl : fewL t M = l) (w W : World) (hI : StrsIn w ad0 n0 t) (hb : Below w.heap.size w W) :
    Calls Tryd.prog 21 #[.slice ad0 n0 c0, .int .i64 (N : Nat)] W fun e w' => ∃ ad cap, e = .returned (.slice ad M cap) ∧ Holds w' ad cap l ∧ Below W.heap.size W w' := by
  have c := few_any ad0 n0 c0 t N hn hN W (strs_below hI hb)
  rw [hM, hl] at c
  refine c.mono ?_
  rintro e w' ⟨v, rfl, ho, hb'⟩
  obtain ⟨ad, cap, rfl, hh⟩ := own_holds M ho (by rw [← hl]; exact fewL_length t M) (by omega)
  exact ⟨ad, cap, rfl, hh, hb'⟩
theorem allDig_rev {p : List ByteArray} (h : allDig p = true) : allDig p.reverse = true := by
  simp only [allDig, List.all_reverse] at h ⊢
  exact h
theorem verb_parts {root : ByteArray} {n i : Int} {s : ByteArray} {p : List ByteArray} (h : verB root n i s p = true) : 0 ≤ i ∧ i < n ∧ allDig p = true ∧ valR n.toNat i.toNat s p.reverse = some root := by
  unfold verB at h
  simp only [Bool.and_eq_true, decide_eq_true_eq] at h
  exact ⟨h.1.1, h.1.2, h.2.1, h.2.2⟩

set_option maxRecDepth 100000 in
set_option maxHeartbeats 4000000 in
theorem bind_walk (root : ByteArray) (n i : Int) (s0 : ByteArray) (ap : Option Addr) (np cp : Nat) (tp : Nat → ByteArray) (t0 : ByteArray) (aq : Option Addr) (nq cq : Nat) (tq : Nat → ByteArray) (w : World)
    (hn : -9223372036854775808 ≤ n ∧ n ≤ 9223372036854775807) (hi : -9223372036854775808 ≤ i ∧ i ≤ 9223372036854775807) (hs0 : s0.size ≤ maxLen) (hnp : np ≤ maxLen) (hIp : StrsIn w ap np tp) (ht0 : t0.size ≤ maxLen) (hnq : nq ≤ maxLen) (hIq : StrsIn w aq nq tq) (hR : Ready w) :
    Calls Tryd.prog 8 #[.string root, .int .i64 n, .int .i64 i, .string s0, .slice ap np cp, .string t0, .slice aq nq cq] w fun e w' => e = .returned (.bool true) ∧ Below w.heap.size w w' := by
  have HR := Lib.hid hR
  clear hR
  obtain ⟨P, hP⟩ : ∃ M, min np 70 = M := ⟨_, rfl⟩
  obtain ⟨Q, hQ⟩ : ∃ M, min nq 70 = M := ⟨_, rfl⟩
  have hP70 : P ≤ 70 := by omega
  have hQ70 : Q ≤ 70 := by omega
  obtain ⟨p, hp⟩ : ∃ l, fewL tp P = l := ⟨_, rfl⟩
  obtain ⟨q, hq⟩ : ∃ l, fewL tq Q = l := ⟨_, rfl⟩
  have hpl : p.length = P := by rw [← hp]; exact fewL_length tp P
  have hql : q.length = Q := by rw [← hq]; exact fewL_length tq Q
  have hpz : ∀ x ∈ p, x.size ≤ 60 := by rw [← hp]; exact fewL_small tp P
  have hqz : ∀ x ∈ q, x.size ≤ 60 := by rw [← hq]; exact fewL_small tq Q
  have cp' := fun W hb => few_call ap np cp tp 70 P p hnp (by decide) hP hp w W hIp hb
  have cq' := fun W hb => few_call aq nq cq tq 70 Q q hnq (by decide) hQ hq w W hIq hb
  unfold maxLen at hs0 ht0
  obtain ⟨ms, hms⟩ : ∃ m, m = min s0.size 60 := ⟨_, rfl⟩
  obtain ⟨mt, hmt⟩ : ∃ m, m = min t0.size 60 := ⟨_, rfl⟩
  have hs1 : min (s0.size : Int) 60 = (ms : Int) := by omega
  have hs2 : (if (60 : Int) < (s0.size : Int) then (60 : Int) else (s0.size : Int)) = (ms : Int) := by split <;> omega
  have ht1 : min (t0.size : Int) 60 = (mt : Int) := by omega
  have ht2 : (if (60 : Int) < (t0.size : Int) then (60 : Int) else (t0.size : Int)) = (mt : Int) := by split <;> omega
  obtain ⟨S, hS⟩ : ∃ C, cut60 s0 = C := ⟨_, rfl⟩
  obtain ⟨T, hT⟩ : ∃ C, cut60 t0 = C := ⟨_, rfl⟩
  have hSe : s0.extract 0 ms = S := by rw [← hS, hms]; rfl
  have hTe : t0.extract 0 mt = T := by rw [← hT, hmt]; rfl
  have hSz : S.size ≤ 60 := by rw [← hS]; exact cut60_size s0
  have hTz : T.size ≤ 60 := by rw [← hT]; exact cut60_size t0
  have hsl1 := slice_to 9 Tryd.underlying9 s0 ms (by omega) S hSe
  have hsl2 := slice_to 9 Tryd.underlying9 t0 mt (by omega) T hTe
  have PL := Lib.hid hpl; have QL := Lib.hid hql; have PZ := Lib.hid hpz; have QZ := Lib.hid hqz; have CP := Lib.hid cp'; have CQ := Lib.hid cq'
  clear hP hQ hp hq hpl hql hpz hqz cp' cq' hms hmt hS hT hSe hTe hIp hIq hnp hnq
  go_enter Tryd.func8, Tryd.ntmps8
  go_wp2_with fail
  refine (sane_any _ HR.out).mono ?_
  rintro e w1 ⟨rfl, b1⟩
  have B1 := Lib.hid b1
  clear b1
  go_wp2_with fail
  refine (CP.out _ B1.out).mono ?_
  rintro e w2 ⟨adp, capp, rfl, hhp, b2⟩
  have K2 := Lib.hid (Keeps.mk (w := w) (W := w2) (B1.out.trans (b2.mono B1.out.size)) hhp ((HR.out.below B1.out).below b2))
  have hcp := hhp.1
  rw [PL.out] at hcp
  clear hhp b2 B1
  go_wp2_with fail
  refine (CQ.out _ K2.out.hb).mono ?_
  rintro e w3 ⟨adq, capq, rfl, hhq, b3⟩
  have K3 := Lib.hid (K2.out.go b3)
  have J3 := Lib.hid (Keeps.mk K3.out.hb hhq K3.out.hr)
  have hcq := hhq.1
  rw [QL.out] at hcq
  clear hhq b3 K2 CP CQ HR
  have smp : Small p := fun x hx => by have := PZ.out x hx; omega
  have smq : Small q := fun x hx => by have := QZ.out x hx; omega
  have cv1 := ver_any root n i S p adp capp w3 hn.2 (by omega) K3.out.hh smp K3.out.hr
  have cv2 := fun W (h : Keeps w W adq capq q) => ver_any root n i T q adq capq W hn.2 (by omega) h.hh smq h.hr
  rw [PL.out] at cv1
  rw [QL.out] at cv2
  have P1 := fun (h : verB root n i S p = true) => verb_parts h
  have P2 := fun (h : verB root n i T q = true) => verb_parts h
  obtain ⟨r1, hr1⟩ : ∃ r, verB root n i S p = r := ⟨_, rfl⟩
  obtain ⟨r2, hr2⟩ : ∃ r, verB root n i T q = r := ⟨_, rfl⟩
  rw [hr1] at cv1 P1
  rw [hr2] at cv2 P2
  have CV1 := Lib.hid cv1; have CV2 := Lib.hid cv2; have HP1 := Lib.hid P1; have HP2 := Lib.hid P2
  clear cv1 cv2 P1 P2 hr1 hr2 smp smq
  go_wp2_with fail
  refine CV1.out.mono ?_
  rintro e w4 ⟨rfl, b4⟩
  have K4 := Lib.hid (K3.out.go b4); have J4 := Lib.hid (J3.out.go b4)
  clear b4 K3 J3 CV1
  go_wp2_with fail
  refine (CV2.out _ J4.out).mono ?_
  rintro e w5 ⟨rfl, b5⟩
  have K5 := Lib.hid (K4.out.go b5); have J5 := Lib.hid (J4.out.go b5)
  clear b5 K4 J4 CV2
  cases r1 with
  | false =>
    go_wp2_with fail
    go_ret
    exact ⟨rfl, K5.out.hb⟩
  | true =>
    cases r2 with
    | false =>
      go_wp2_with fail
      go_ret
      exact ⟨rfl, K5.out.hb⟩
    | true =>
      by_cases hst : S = T
      · have he : (S.toList == T.toList) = true := by rw [str_eq_iff, decide_eq_true hst]
        have HST := Lib.hid hst
        clear hst
        go_wp2_with fail
        go_ret
        exact ⟨rfl, K5.out.hb⟩
      · have he : (S.toList == T.toList) = false := by rw [str_eq_iff, decide_eq_false hst]
        obtain ⟨hi0, hin, hd1, hv1⟩ := HP1.out rfl
        obtain ⟨_, _, hd2, hv2⟩ := HP2.out rfl
        obtain ⟨I, rfl⟩ := Int.eq_ofNat_of_zero_le hi0
        obtain ⟨N, rfl⟩ := Int.eq_ofNat_of_zero_le (show 0 ≤ n by omega)
        simp only [Int.toNat_natCast] at hv1 hv2
        have hcoll := binds p.reverse q.reverse N I S T root hv1 hv2 hst (allDig_rev hd1) (allDig_rev hd2)
        have hin' : I < N := by omega
        have hN9 := hn.2
        have cw1 := way_any p.length p N I S adp capp w5 (Nat.le_refl _) hin' (by omega) (by omega) K5.out.hh (fun x hx => by have := PZ.out x hx; omega) (by rw [PL.out]; omega) K5.out.hr
        have cw2 := fun W (h : Keeps w W adq capq q) => way_any q.length q N I T adq capq W (Nat.le_refl _) hin' (by omega) (by omega) h.hh (fun x hx => by have := QZ.out x hx; omega) (by rw [QL.out]; omega) h.hr
        have hsA := wayR_small p.reverse N I S (by omega) (fun x hx => by have := PZ.out x (by simpa using hx); omega)
        have hsB := wayR_small q.reverse N I T (by omega) (fun x hx => by have := QZ.out x (by simpa using hx); omega)
        have hlA := wayR_length p.reverse N I S
        have hlB := wayR_length q.reverse N I T
        rw [List.length_reverse, PL.out] at hlA
        rw [List.length_reverse, QL.out] at hlB
        rw [PL.out] at cw1
        rw [QL.out] at cw2
        obtain ⟨A, eA⟩ : ∃ A, wayR N I S p.reverse = A := ⟨_, rfl⟩
        obtain ⟨B, eB⟩ : ∃ B, wayR N I T q.reverse = B := ⟨_, rfl⟩
        obtain ⟨vA, evA⟩ : ∃ A, wayV N I S p.reverse = A := ⟨_, rfl⟩
        obtain ⟨vB, evB⟩ : ∃ B, wayV N I T q.reverse = B := ⟨_, rfl⟩
        rw [eA] at hcoll cw1 hsA hlA
        rw [eB] at hcoll cw2 hsB hlB
        rw [evA] at cw1
        rw [evB] at cw2
        obtain ⟨la, ela⟩ : ∃ n, A.length = n := ⟨_, rfl⟩
        obtain ⟨lb, elb⟩ : ∃ n, B.length = n := ⟨_, rfl⟩
        rw [ela] at hlA
        rw [elb] at hlB
        have CW1 := Lib.hid cw1; have CW2 := Lib.hid cw2; have HSA := Lib.hid hsA; have HSB := Lib.hid hsB; have LA := Lib.hid ela; have LB := Lib.hid elb; have HCO := Lib.hid hcoll; have HST := Lib.hid hst
        clear hst hi0 hin hd1 hv1 hd2 hv2 hcoll cw1 cw2 hsA hsB ela elb eA eB evA evB HP1 HP2 PZ QZ
        go_wp2_with fail
        refine CW1.out.mono ?_
        rintro e w6 ⟨v6, rfl, ho6, b6⟩
        obtain ⟨ad6, cap6, rfl, hh6⟩ := own_holds la ho6 LA.out (by omega)
        have K6 := Lib.hid (Keeps.mk (K5.out.go b6).hb hh6 (K5.out.go b6).hr); have J6 := Lib.hid (J5.out.go b6)
        clear ho6 b6 hh6 K5 J5 CW1
        go_wp2_with fail
        refine (CW2.out _ J6.out).mono ?_
        rintro e w7 ⟨v7, rfl, ho7, b7⟩
        obtain ⟨ad7, cap7, rfl, hh7⟩ := own_holds lb ho7 LB.out (by omega)
        have K7 := Lib.hid (K6.out.go b7)
        have cc := collide_any A B ad6 ad7 la lb cap6 cap7 w7 K7.out.hh hh7 LA.out LB.out HSA.out HSB.out K7.out.hr
        rw [HCO.out] at cc
        have CC := Lib.hid cc
        clear ho7 b7 hh7 K6 J6 CW2 cc
        go_wp2_with fail
        refine CC.out.mono ?_
        rintro e w8 ⟨rfl, b8⟩
        have K8 := Lib.hid (K7.out.go b8)
        clear b8
        go_wp2
        go_ret
        exact ⟨rfl, K8.out.hb⟩

theorem bind_walk0 (a0 : ByteArray) (a1 a2 : Int) (a3 : ByteArray) (a4 : Option Addr) (n4 c4 : Nat) (a5 : ByteArray) (a6 : Option Addr) (n6 c6 : Nat) (w : World) (_h0 : a0.size ≤ maxLen) (l1 : -9223372036854775808 ≤ a1) (u1 : a1 ≤ 9223372036854775807) (l2 : -9223372036854775808 ≤ a2) (u2 : a2 ≤ 9223372036854775807) (h3 : a3.size ≤ maxLen) (h4 : n4 ≤ maxLen ∧ ∃ t, StrsIn w a4 n4 t) (h5 : a5.size ≤ maxLen) (h6 : n6 ≤ maxLen ∧ ∃ t, StrsIn w a6 n6 t) (hT : HasK w) (h0 : 0 < w.heap.size) :
    Calls Tryd.prog 8 #[.string a0, .int .i64 a1, .int .i64 a2, .string a3, .slice a4 n4 c4, .string a5, .slice a6 n6 c6] w fun e w' => e = .returned (.bool true) ∧ Below w.heap.size w w' := by
  obtain ⟨m4, t4, i4⟩ := h4
  obtain ⟨m6, t6, i6⟩ := h6
  exact bind_walk a0 a1 a2 a3 a4 n4 c4 t4 a5 a6 n6 c6 t6 w ⟨l1, u1⟩ ⟨l2, u2⟩ h3 m4 i4 h5 m6 i6 ⟨hT, h0⟩
end Go.Proofs.YtoaaelnmbpmbeaaDoor
