/-
  The contract of digest.VerifyExtension.
-/
import Derived.Test.YtoaaelnmbpmbeaaDoorApi
namespace Go.Proofs.YtoaaelnmbpmbeaaDoor
open Go Go.Proofs Go.RowKit Go.Lib

theorem allDig_two (a b : ByteArray) : allDig [a, b] = decide (a.size = 32 ∧ b.size = 32) := by
  rw [Bool.eq_iff_iff]; simp [allDig]
theorem holds_new (w : World) (l : List ByteArray) (t : TypeId) (h : l.length ≤ 1000000) : Holds (w.alloc (.cells (l.map Value.string).toArray t)) (some ⟨w.heap.size, 0, none⟩) l.length l := by
  refine ⟨Nat.le_refl _, by omega, .inr ⟨w.heap.size, 0, rfl, by simp, fun i hi => ?_⟩⟩
  rw [Nat.zero_add, cell_of_row _ _ i _ _ _ (heap_alloc_new w _)]
  simp [hi]

set_option maxRecDepth 100000 in
set_option maxHeartbeats 4000000 in
theorem verx_any (old : ByteArray) (m : Int) (root : ByteArray) (n : Int) (p : List ByteArray) (ad : Option Addr) (cap : Nat) (w : World) (hn : n ≤ 9223372036854775807) (ho : old.size ≤ 1099511627776) (hr : root.size ≤ 1099511627776) (hH : Holds w ad cap p) (hM : Small p) (hR : Ready w) :
    Calls Tryd.prog 31 #[.string old, .int .i64 m, .string root, .int .i64 n, .slice ad p.length cap] w fun e w' => e = .returned (.bool (verX old m root n p)) ∧ Below w.heap.size w w' := by
  by_cases hin : 0 ≤ m ∧ m ≤ n
  · obtain ⟨j, rfl⟩ := Int.eq_ofNat_of_zero_le hin.1
    obtain ⟨N, rfl⟩ := Int.eq_ofNat_of_zero_le (show 0 ≤ n by omega)
    have hjN : (j : Int) ≤ (N : Int) := hin.2
    have hjN2 : ¬ (N : Int) < (j : Int) := by omega
    have hbA : Below w.heap.size w (w.alloc (.cells #[.string old, .string root] 9)) := (Below.refl _ _).alloc (Nat.le_refl _) _
    have hHA : Holds (w.alloc (.cells #[.string old, .string root] 9)) ad cap p := hH.below hbA (Nat.le_refl _)
    have hRA := hR.below hbA
    have hd2 := dig_any [old, root] (some ⟨w.heap.size, 0, none⟩) 2 (w.alloc (.cells #[.string old, .string root] 9)) (holds_new w [old, root] 9 (by simp)) (by intro s hs; simp at hs; rcases hs with rfl | rfl <;> assumption)
    rw [allDig_two] at hd2
    have hd2' : Calls Tryd.prog 48 #[.slice (some ⟨w.heap.size, 0, none⟩) 2 2] (w.alloc (.cells #[.string old, .string root] 9)) _ := hd2
    have hd := dig_any p ad cap (w.alloc (.cells #[.string old, .string root] 9)) hHA hM
    cases hdd : decide (old.size = 32 ∧ root.size = 32) with
    | false =>
      have hv : verX old (j : Int) root (N : Int) p = false := by unfold verX; rw [hdd]; simp
      rw [hdd] at hd2'
      have HV := Lib.hid hv; have HD2 := Lib.hid hd2'; have HBA := Lib.hid hbA
      clear hv hd2 hd2' hd hH hM hR hHA hRA hbA hdd hin
      go_enter Tryd.func31, Tryd.ntmps31
      go_wp2_with fail
      refine HD2.out.mono ?_
      rintro e w' ⟨rfl, rfl⟩
      go_wp2
      go_ret
      exact ⟨ret_bool HV.out.symm, HBA.out⟩
    | true =>
      rw [hdd] at hd2'
      cases hdg : allDig p with
      | false =>
        have hv : verX old (j : Int) root (N : Int) p = false := by unfold verX; rw [hdg]; simp
        rw [hdg] at hd
        have HV := Lib.hid hv; have HD2 := Lib.hid hd2'; have HBA := Lib.hid hbA; have HD := Lib.hid hd
        clear hv hd2 hd2' hd hH hM hR hHA hRA hbA hdd hdg hin
        go_enter Tryd.func31, Tryd.ntmps31
        go_wp2_with fail
        refine HD2.out.mono ?_
        rintro e w' ⟨rfl, rfl⟩
        go_wp2_with fail
        refine HD.out.mono ?_
        rintro e w' ⟨rfl, rfl⟩
        go_wp2
        go_ret
        exact ⟨ret_bool HV.out.symm, HBA.out⟩
      | true =>
        rw [hdg] at hd
        by_cases hj0 : j = 0
        · subst hj0
          have hv : verX old ((0 : Nat) : Int) root (N : Int) p = decide (p = [] ∧ old = rootF []) := by
            unfold verX; rw [hdg, hdd, decide_eq_true hin]; simp
          have cr := root_nil none 0 _ hRA
          have HV := Lib.hid hv; have HD2 := Lib.hid hd2'; have HBA := Lib.hid hbA; have HD := Lib.hid hd; have CR := Lib.hid cr
          clear hd2 hd2' hd hH hM hR hHA hRA hdd hdg hin cr
          by_cases hp : p.length = 0
          · have hpn : p = [] := List.eq_nil_of_length_eq_zero hp
            have hv2 : verX old ((0 : Nat) : Int) root (N : Int) p = decide (old = rootF []) := by rw [hv, hpn]; simp
            have HV2 := Lib.hid hv2
            rw [hp]
            rw [hp] at HD
            clear hv hv2 HV hpn hp
            go_enter Tryd.func31, Tryd.ntmps31
            go_wp2_with fail
            refine HD2.out.mono ?_
            rintro e w' ⟨rfl, rfl⟩
            go_wp2_with fail
            refine HD.out.mono ?_
            rintro e w' ⟨rfl, rfl⟩
            go_wp2_with fail
            refine CR.out.mono ?_
            rintro e W1 ⟨rfl, hb1⟩
            go_wp2
            go_ret
            exact ⟨ret_bool (by rw [HV2.out, str_eq_iff]), HBA.out.trans (hb1.mono HBA.out.size)⟩
          · have hpn : ¬ p = [] := fun h => hp (by rw [h]; rfl)
            have hv2 : verX old ((0 : Nat) : Int) root (N : Int) p = false := by rw [hv]; simp [hpn]
            have HV2 := Lib.hid hv2
            have hp2 : ((p.length : Int) == 0) = false := by rw [beq_eq_false_iff_ne]; omega
            have hp3 : 0 < p.length := by omega
            obtain ⟨pl, hpl⟩ : ∃ n, p.length = n := ⟨_, rfl⟩
            rw [hpl] at hp2 hp3 HD ⊢
            clear hv hv2 HV hpn hp hpl
            go_enter Tryd.func31, Tryd.ntmps31
            go_wp2_with fail
            refine HD2.out.mono ?_
            rintro e w' ⟨rfl, rfl⟩
            go_wp2_with fail
            refine HD.out.mono ?_
            rintro e w' ⟨rfl, rfl⟩
            go_wp2
            go_ret
            exact ⟨ret_bool HV2.out.symm, HBA.out⟩
        · have hv : verX old (j : Int) root (N : Int) p = decide (twoF old j N true p = some (old, root)) := by
            unfold verX; rw [hdg, hdd, decide_eq_true hin, if_neg (by omega)]; simp
          have ct := two_any p.length p old j N true ad cap _ (Nat.le_refl _) (by omega) (by omega) (by omega) ho hHA hM hRA
          have hj1 : ((j : Int) == 0) = false := by rw [beq_eq_false_iff_ne]; omega
          have hj2 : 0 < j := by omega
          have HV := Lib.hid hv; have HD2 := Lib.hid hd2'; have HBA := Lib.hid hbA; have HD := Lib.hid hd; have CT := Lib.hid ct
          clear hv hd2 hd2' hd hH hM hR hHA hRA hdd hdg hin ct
          go_enter Tryd.func31, Tryd.ntmps31
          go_wp2_with fail
          refine HD2.out.mono ?_
          rintro e w' ⟨rfl, rfl⟩
          go_wp2_with fail
          refine HD.out.mono ?_
          rintro e w' ⟨rfl, rfl⟩
          go_wp2_with fail
          refine CT.out.mono ?_
          rintro e W1 ⟨a1, b1, ok, rfl, hval, _, _, hb1⟩
          have HVAL := Lib.hid hval
          clear hval
          cases ok with
          | false =>
            go_wp2
            go_ret
            exact ⟨ret_bool (by rw [HV.out, HVAL.out]; simp), HBA.out.trans (hb1.mono HBA.out.size)⟩
          | true =>
            by_cases ha : a1 = old
            · have ha2 : (a1.toList == old.toList) = true := by rw [str_eq_iff, decide_eq_true ha]
              have hfin : verX old (j : Int) root (N : Int) p = decide (b1 = root) := by rw [HV.out, HVAL.out]; simp [ha]
              have HFIN := Lib.hid hfin
              clear hfin ha
              go_wp2
              go_ret
              exact ⟨ret_bool (by rw [HFIN.out, str_eq_iff]), HBA.out.trans (hb1.mono HBA.out.size)⟩
            · have ha2 : (a1.toList == old.toList) = false := by rw [str_eq_iff, decide_eq_false ha]
              have hfin : verX old (j : Int) root (N : Int) p = false := by rw [HV.out, HVAL.out]; simp [ha]
              have HFIN := Lib.hid hfin
              clear hfin ha
              go_wp2
              go_ret
              exact ⟨ret_bool HFIN.out.symm, HBA.out.trans (hb1.mono HBA.out.size)⟩
  · have hv : verX old m root n p = false := by unfold verX; rw [decide_eq_false hin]; rfl
    have HV := Lib.hid hv
    clear hv hH hM hR
    by_cases h0 : m < 0
    · clear hin
      go_enter Tryd.func31, Tryd.ntmps31
      go_wp2_with fail
      go_ret
      exact ⟨ret_bool HV.out.symm, Below.refl _ _⟩
    · have h1 : n < m := by omega
      clear hin
      go_enter Tryd.func31, Tryd.ntmps31
      go_wp2_with fail
      go_ret
      exact ⟨ret_bool HV.out.symm, Below.refl _ _⟩
end Go.Proofs.YtoaaelnmbpmbeaaDoor
