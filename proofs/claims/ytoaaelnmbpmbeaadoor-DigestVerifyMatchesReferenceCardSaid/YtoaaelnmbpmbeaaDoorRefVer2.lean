/-
  The contracts of the reference's Verify and VerifyExtension.
-/
import Derived.Test.YtoaaelnmbpmbeaaDoorRefVer
namespace Go.Proofs.YtoaaelnmbpmbeaaDoor
open Go Go.Proofs Go.RowKit Go.Lib

set_option maxHeartbeats 2000000 in
theorem verR_any (root : ByteArray) (n i : Int) (s : ByteArray) (p : List ByteArray) (ad : Option Addr) (cap : Nat) (w : World) (hn : n ≤ 9223372036854775807) (hs : s.size ≤ 1000) (hH : Holds w ad cap p) (hM : Sm p) :
    Calls Tryd.prog 30 #[.string root, .int .i64 n, .int .i64 i, .string s, .slice ad p.length cap] w fun e w' => e = .returned (.bool (verB root n i s p)) ∧ Below w.heap.size w w' := by
  have hd := digR_any p ad cap w hH hM
  by_cases hin : 0 ≤ i ∧ i < n
  · obtain ⟨j, rfl⟩ := Int.eq_ofNat_of_zero_le hin.1
    obtain ⟨N, rfl⟩ := Int.eq_ofNat_of_zero_le (show 0 ≤ n by omega)
    have hv : verB root (N : Int) (j : Int) s p = (allDig p && decide (valF N j s p = some root)) := by
      unfold verB; rw [decide_eq_true hin]; simp
    have hjN : (j : Int) < (N : Int) := hin.2
    have hjN2 : ¬ (N : Int) ≤ (j : Int) := by omega
    have cv := valueR_any p.length p N j s ad cap w (Nat.le_refl _) (by omega) (by omega) hs hH hM
    cases hdg : allDig p with
    | false =>
      rw [hdg] at hv hd
      have HV := Lib.hid hv; have HD := Lib.hid hd
      clear hv hd cv hH hM hdg hin
      go_enter Tryd.func30, Tryd.ntmps30
      go_wp2_with fail
      refine HD.out.mono ?_
      rintro e w' ⟨rfl, rfl⟩
      go_wp2
      go_ret
      exact ⟨ret_bool (by rw [HV.out]; rfl), Below.refl _ _⟩
    | true =>
      rw [hdg] at hv hd
      have HV := Lib.hid hv; have HD := Lib.hid hd; have CV := Lib.hid cv
      clear hv hd cv hH hM hdg hin
      go_enter Tryd.func30, Tryd.ntmps30
      go_wp2_with fail
      refine HD.out.mono ?_
      rintro e w' ⟨rfl, rfl⟩
      go_wp2_with fail
      refine CV.out.mono ?_
      rintro e W1 ⟨v, ok, rfl, hval, _, hb⟩
      have HVAL := Lib.hid hval
      clear hval
      cases ok with
      | false =>
        go_wp2
        go_ret
        exact ⟨ret_bool (by rw [HV.out, HVAL.out]; simp), hb⟩
      | true =>
        go_wp2
        go_ret
        exact ⟨ret_bool (by rw [HV.out, HVAL.out, str_eq_iff]; simp), hb⟩
  · have hv : verB root n i s p = false := by unfold verB; rw [decide_eq_false hin]; rfl
    obtain ⟨dg, hdg⟩ : ∃ d, allDig p = d := ⟨_, rfl⟩
    rw [hdg] at hd
    have HV := Lib.hid hv; have HD := Lib.hid hd
    clear hv hH hM hd hdg
    by_cases h0 : i < 0
    · clear hin
      go_enter Tryd.func30, Tryd.ntmps30
      go_wp2_with fail
      refine HD.out.mono ?_
      rintro e w' ⟨rfl, rfl⟩
      go_wp2
      go_ret
      exact ⟨ret_bool HV.out.symm, Below.refl _ _⟩
    · have h1 : n ≤ i := by omega
      have h2 : ¬ i < n := by omega
      clear hin
      go_enter Tryd.func30, Tryd.ntmps30
      go_wp2_with fail
      refine HD.out.mono ?_
      rintro e w' ⟨rfl, rfl⟩
      go_wp2
      go_ret
      exact ⟨ret_bool HV.out.symm, Below.refl _ _⟩

set_option maxHeartbeats 4000000 in
theorem verxR_any (old : ByteArray) (m : Int) (root : ByteArray) (n : Int) (p : List ByteArray) (ad : Option Addr) (cap : Nat) (w : World) (hn : n ≤ 9223372036854775807) (hH : Holds w ad cap p) (hM : Sm p) :
    Calls Tryd.prog 32 #[.string old, .int .i64 m, .string root, .int .i64 n, .slice ad p.length cap] w fun e w' => e = .returned (.bool (verX old m root n p)) ∧ Below w.heap.size w w' := by
  have hd := digR_any p ad cap w hH hM
  by_cases hin : 0 ≤ m ∧ m ≤ n
  · obtain ⟨j, rfl⟩ := Int.eq_ofNat_of_zero_le hin.1
    obtain ⟨N, rfl⟩ := Int.eq_ofNat_of_zero_le (show 0 ≤ n by omega)
    have hv0 : verX old (j : Int) root (N : Int) p = (decide (old.size = 32 ∧ root.size = 32) && (allDig p && (if (j : Int) = 0 then decide (p = [] ∧ old = rootF []) else decide (twoF old j N true p = some (old, root))))) := by
      unfold verX; rw [decide_eq_true hin]; simp
    have hjN : ¬ (N : Int) < (j : Int) := by omega
    have hjN1 : (j : Int) ≤ (N : Int) := hin.2
    cases hdg : allDig p with
    | false =>
      rw [hdg] at hv0 hd
      have hv : verX old (j : Int) root (N : Int) p = false := by rw [hv0]; simp
      have HV := Lib.hid hv; have HD := Lib.hid hd
      clear hv hd hv0 hH hM hdg hin
      go_enter Tryd.func32, Tryd.ntmps32
      go_wp2_with fail
      refine HD.out.mono ?_
      rintro e w' ⟨rfl, rfl⟩
      go_wp2
      go_ret
      exact ⟨ret_bool (by rw [HV.out]), Below.refl _ _⟩
    | true =>
      rw [hdg] at hv0 hd
      by_cases h1 : old.size = 32
      · have e1 : ((old.size : Int) != 32) = false := by rw [bne_eq_false_iff_eq]; omega
        by_cases h2 : root.size = 32
        · have e2 : ((root.size : Int) != 32) = false := by rw [bne_eq_false_iff_eq]; omega
          rw [decide_eq_true ⟨h1, h2⟩, Bool.true_and, Bool.true_and] at hv0
          by_cases hj0 : j = 0
          · subst hj0
            rw [if_pos (show ((0 : Nat) : Int) = 0 from rfl)] at hv0
            have e3 : (((0 : Nat) : Int) == 0) = true := rfl
            by_cases hp : p = []
            · subst hp
              have hv : verX old ((0 : Nat) : Int) root (N : Int) [] = decide (old = sha ByteArray.empty) := by rw [hv0, rootF_nil]; simp
              have cs := fun W => sumR_any ByteArray.empty (by decide) W
              obtain ⟨D, hD⟩ : ∃ D, sha ByteArray.empty = D := ⟨_, rfl⟩
              rw [hD] at hv cs
              have HV := Lib.hid hv; have HD := Lib.hid hd
              have CS := Lib.hid (show ∀ W, Calls Tryd.prog 14 #[.string { data := #[] }] W _ from cs)
              clear hv hd hv0 hH hM hdg hin cs hD
              go_enter Tryd.func32, Tryd.ntmps32
              go_wp2_with fail
              refine HD.out.mono ?_
              rintro e w' ⟨rfl, rfl⟩
              go_wp2_with fail
              refine (CS.out _).mono ?_
              rintro e w1 ⟨rfl, hb⟩
              go_wp2
              go_ret
              exact ⟨ret_bool (by rw [HV.out, str_eq_iff]), hb⟩
            · have hv : verX old ((0 : Nat) : Int) root (N : Int) p = false := by rw [hv0]; simp [hp]
              have hpl : 0 < p.length := by cases p; exact absurd rfl hp; simp
              have e4 : ((p.length : Int) == 0) = false := by rw [beq_eq_false_iff_ne]; omega
              have HV := Lib.hid hv; have HD := Lib.hid hd
              clear hv hd hv0 hH hM hdg hin
              go_enter Tryd.func32, Tryd.ntmps32
              go_wp2_with fail
              refine HD.out.mono ?_
              rintro e w' ⟨rfl, rfl⟩
              go_wp2_with fail
              go_ret
              exact ⟨ret_bool (by rw [HV.out]), Below.refl _ _⟩
          · rw [if_neg (by omega)] at hv0
            have e3 : ((j : Int) == 0) = false := by rw [beq_eq_false_iff_ne]; omega
            have e3' : 0 < j := by omega
            by_cases hjn : j = N
            · subst hjn
              have e5 : ((j : Int) == (j : Int)) = true := by simp
              rw [show twoF old j j true p = if p = [] then some (old, old) else none by unfold twoF; rw [twoR_whole]; simp] at hv0
              by_cases hp : p = []
              · subst hp
                have hv : verX old (j : Int) root (j : Int) [] = decide (old = root) := by rw [hv0]; simp
                have HV := Lib.hid hv; have HD := Lib.hid hd
                clear hv hd hv0 hH hM hdg hin
                go_enter Tryd.func32, Tryd.ntmps32
                go_wp2_with fail
                refine HD.out.mono ?_
                rintro e w' ⟨rfl, rfl⟩
                go_wp2_with fail
                go_ret
                exact ⟨ret_bool (by rw [HV.out, str_eq_iff]), Below.refl _ _⟩
              · have hv : verX old (j : Int) root (j : Int) p = false := by rw [hv0]; simp [hp]
                have hpl : 0 < p.length := by cases p; exact absurd rfl hp; simp
                have e4 : ((p.length : Int) == 0) = false := by rw [beq_eq_false_iff_ne]; omega
                have HV := Lib.hid hv; have HD := Lib.hid hd
                clear hv hd hv0 hH hM hdg hin
                go_enter Tryd.func32, Tryd.ntmps32
                go_wp2_with fail
                refine HD.out.mono ?_
                rintro e w' ⟨rfl, rfl⟩
                go_wp2_with fail
                go_ret
                exact ⟨ret_bool (by rw [HV.out]), Below.refl _ _⟩
            · have e5 : ((j : Int) == (N : Int)) = false := by rw [beq_eq_false_iff_ne]; omega
              have cb := bothR_any p.length p old j N true ad cap w (Nat.le_refl _) (by omega) (by omega) (by omega) (by omega) hH hM
              have HV := Lib.hid hv0; have HD := Lib.hid hd; have CB := Lib.hid cb
              clear hd hv0 hH hM hdg hin cb
              go_enter Tryd.func32, Tryd.ntmps32
              go_wp2_with fail
              refine HD.out.mono ?_
              rintro e w' ⟨rfl, rfl⟩
              go_wp2_with fail
              refine CB.out.mono ?_
              rintro e W1 ⟨a, b, ok, rfl, hval, _, _, hb⟩
              have HVAL := Lib.hid hval
              clear hval
              cases ok with
              | false =>
                go_wp2
                go_ret
                exact ⟨ret_bool (by rw [HV.out, HVAL.out]; simp), hb⟩
              | true =>
                by_cases ha : a = old
                · have e6 : (a.toList == old.toList) = true := by rw [str_eq_iff, decide_eq_true ha]
                  have HA := Lib.hid ha
                  clear ha
                  go_wp2
                  go_ret
                  exact ⟨ret_bool (by rw [HV.out, HVAL.out, str_eq_iff, HA.out]; simp), hb⟩
                · have e6 : (a.toList == old.toList) = false := by rw [str_eq_iff, decide_eq_false ha]
                  have HA := Lib.hid ha
                  clear ha
                  go_wp2
                  go_ret
                  exact ⟨ret_bool (by rw [HV.out, HVAL.out]; have := HA.out; simp [this]), hb⟩
        · have e2 : ((root.size : Int) != 32) = true := by rw [bne_iff_ne]; omega
          have hv : verX old (j : Int) root (N : Int) p = false := by rw [hv0]; simp [h2]
          have HV := Lib.hid hv; have HD := Lib.hid hd
          clear hv hd hv0 hH hM hdg hin h2
          go_enter Tryd.func32, Tryd.ntmps32
          go_wp2_with fail
          refine HD.out.mono ?_
          rintro e w' ⟨rfl, rfl⟩
          go_wp2
          go_ret
          exact ⟨ret_bool (by rw [HV.out]), Below.refl _ _⟩
      · have e1 : ((old.size : Int) != 32) = true := by rw [bne_iff_ne]; omega
        have hv : verX old (j : Int) root (N : Int) p = false := by rw [hv0]; simp [h1]
        have HV := Lib.hid hv; have HD := Lib.hid hd
        clear hv hd hv0 hH hM hdg hin h1
        go_enter Tryd.func32, Tryd.ntmps32
        go_wp2_with fail
        refine HD.out.mono ?_
        rintro e w' ⟨rfl, rfl⟩
        go_wp2
        go_ret
        exact ⟨ret_bool (by rw [HV.out]), Below.refl _ _⟩
  · have hv : verX old m root n p = false := by unfold verX; rw [decide_eq_false hin]; rfl
    obtain ⟨dg, hdg⟩ : ∃ d, allDig p = d := ⟨_, rfl⟩
    rw [hdg] at hd
    have HV := Lib.hid hv; have HD := Lib.hid hd
    clear hv hH hM hd hdg
    by_cases h0 : m < 0
    · clear hin
      go_enter Tryd.func32, Tryd.ntmps32
      go_wp2_with fail
      refine HD.out.mono ?_
      rintro e w' ⟨rfl, rfl⟩
      go_wp2
      go_ret
      exact ⟨ret_bool HV.out.symm, Below.refl _ _⟩
    · have h1 : n < m := by omega
      have h2 : ¬ m ≤ n := by omega
      clear hin
      go_enter Tryd.func32, Tryd.ntmps32
      go_wp2_with fail
      refine HD.out.mono ?_
      rintro e w' ⟨rfl, rfl⟩
      go_wp2
      go_ret
      exact ⟨ret_bool HV.out.symm, Below.refl _ _⟩
end Go.Proofs.YtoaaelnmbpmbeaaDoor
