/-
  Layer 8: the reference's Event, Valid, follows, Times, plainly contracted.
-/
import Derived.Test.YtamefmojocegkaaDoorK01
import Derived.Test.YtamefmojocegkaaDoorK02
import Derived.WalkKit
import Derived.WalkLawsBesides
import Derived.Outline
import Derived.Lib.Hide
import Derived.Below
import Derived.BigQuiet
import Derived.Deep.QuietTactic
import Derived.Laws.Rows
import Derived.Laws.OwnMore
import Derived.OwnWalk
namespace Go.Proofs.YtamefmojocegkaaDoor
open Go Go.Proofs Go.RowKit Go.Lib

set_option maxRecDepth 100000 in
set_option maxHeartbeats 8000000 in
theorem eventR_any (x : Ev) (w : World) :
    Calls Tryd.prog 24 #[x.val] w fun e w' => e = .returned (.bool (evB x)) ∧ Below w.heap.size w w' := by
  obtain ⟨ag, sq, tm, kd, tr, sp, lk, gn, op, vr, pe, bt⟩ := x
  unfold Ev.val
  dsimp only
  obtain ⟨B, hB⟩ : ∃ B, evB ⟨ag, sq, tm, kd, tr, sp, lk, gn, op, vr, pe, bt⟩ = B := ⟨_, rfl⟩
  rw [hB]
  have HB := Lib.hid hB
  clear hB
  go_enter Tryd.func24, Tryd.ntmps24
  cases k1 : inB ag 0 5 with
  | false =>
    have HF := Lib.hid (show B = false by rw [← HB.out]; simp [evB, k1])
    go_wp2_with (go_at_call 42; refine (in_any _ _ _ _).mono ?_; rintro e w' ⟨rfl, rfl⟩)
    go_ret
    exact ⟨by rw [HF.out]; rfl, (Below.refl _ _).alloc (Nat.le_refl _) _⟩
  | true =>
    cases k2 : inB sq 0 999 with
    | false =>
      have HF := Lib.hid (show B = false by rw [← HB.out]; simp [evB, k1, k2])
      go_wp2_with (go_at_call 42; refine (in_any _ _ _ _).mono ?_; rintro e w' ⟨rfl, rfl⟩)
      go_ret
      exact ⟨by rw [HF.out]; rfl, (Below.refl _ _).alloc (Nat.le_refl _) _⟩
    | true =>
      cases k3 : inB tm 0 1000000 with
      | false =>
        have HF := Lib.hid (show B = false by rw [← HB.out]; simp [evB, k1, k2, k3])
        go_wp2_with (go_at_call 42; refine (in_any _ _ _ _).mono ?_; rintro e w' ⟨rfl, rfl⟩)
        go_ret
        exact ⟨by rw [HF.out]; rfl, (Below.refl _ _).alloc (Nat.le_refl _) _⟩
      | true =>
        cases k4 : inB tr 0 999 with
        | false =>
          have HF := Lib.hid (show B = false by rw [← HB.out]; simp [evB, k1, k2, k3, k4])
          go_wp2_with (go_at_call 42; refine (in_any _ _ _ _).mono ?_; rintro e w' ⟨rfl, rfl⟩)
          go_ret
          exact ⟨by rw [HF.out]; rfl, (Below.refl _ _).alloc (Nat.le_refl _) _⟩
        | true =>
          cases k5 : inB sp 0 9 with
          | false =>
            have HF := Lib.hid (show B = false by rw [← HB.out]; simp [evB, k1, k2, k3, k4, k5])
            go_wp2_with (go_at_call 42; refine (in_any _ _ _ _).mono ?_; rintro e w' ⟨rfl, rfl⟩)
            go_ret
            exact ⟨by rw [HF.out]; rfl, (Below.refl _ _).alloc (Nat.le_refl _) _⟩
          | true =>
            cases k6 : inB bt 0 1000 with
            | false =>
              have HF := Lib.hid (show B = false by rw [← HB.out]; simp [evB, k1, k2, k3, k4, k5, k6])
              go_wp2_with (go_at_call 42; refine (in_any _ _ _ _).mono ?_; rintro e w' ⟨rfl, rfl⟩)
              go_ret
              exact ⟨by rw [HF.out]; rfl, (Below.refl _ _).alloc (Nat.le_refl _) _⟩
            | true =>
              cases k7 : (kd == 1) with
              | false =>
                have nk7 : (kd != 1) = true := by unfold bne; rw [k7]; rfl
                cases k8 : (op == 0) with
                | false =>
                  have nk8 : (op != 0) = true := by unfold bne; rw [k8]; rfl
                  have HF := Lib.hid (show B = false by rw [← HB.out]; simp [evB, k1, k2, k3, k4, k5, k6, k7, k8])
                  go_wp2_with (go_at_call 42; refine (in_any _ _ _ _).mono ?_; rintro e w' ⟨rfl, rfl⟩)
                  go_ret
                  exact ⟨by rw [HF.out]; rfl, (Below.refl _ _).alloc (Nat.le_refl _) _⟩
                | true =>
                  have nk8 : (op != 0) = false := by unfold bne; rw [k8]; rfl
                  cases k9 : (vr == 0) with
                  | false =>
                    have nk9 : (vr != 0) = true := by unfold bne; rw [k9]; rfl
                    have HF := Lib.hid (show B = false by rw [← HB.out]; simp [evB, k1, k2, k3, k4, k5, k6, k7, k8, k9])
                    go_wp2_with (go_at_call 42; refine (in_any _ _ _ _).mono ?_; rintro e w' ⟨rfl, rfl⟩)
                    go_ret
                    exact ⟨by rw [HF.out]; rfl, (Below.refl _ _).alloc (Nat.le_refl _) _⟩
                  | true =>
                    have nk9 : (vr != 0) = false := by unfold bne; rw [k9]; rfl
                    cases k10 : (pe == 0) with
                    | false =>
                      have nk10 : (pe != 0) = true := by unfold bne; rw [k10]; rfl
                      have HF := Lib.hid (show B = false by rw [← HB.out]; simp [evB, k1, k2, k3, k4, k5, k6, k7, k8, k9, k10])
                      go_wp2_with (go_at_call 42; refine (in_any _ _ _ _).mono ?_; rintro e w' ⟨rfl, rfl⟩)
                      go_ret
                      exact ⟨by rw [HF.out]; rfl, (Below.refl _ _).alloc (Nat.le_refl _) _⟩
                    | true =>
                      have nk10 : (pe != 0) = false := by unfold bne; rw [k10]; rfl
                      cases k11 : (kd == 2) with
                      | false =>
                        have nk11 : (kd != 2) = true := by unfold bne; rw [k11]; rfl
                        cases k12 : (kd == 3) with
                        | false =>
                          have nk12 : (kd != 3) = true := by unfold bne; rw [k12]; rfl
                          cases k13 : (kd == 4) with
                          | false =>
                            have nk13 : (kd != 4) = true := by unfold bne; rw [k13]; rfl
                            cases k14 : (kd == 5) with
                            | false =>
                              have nk14 : (kd != 5) = true := by unfold bne; rw [k14]; rfl
                              cases k15 : (kd == 6) with
                              | false =>
                                have nk15 : (kd != 6) = true := by unfold bne; rw [k15]; rfl
                                cases k16 : (kd == 7) with
                                | false =>
                                  have nk16 : (kd != 7) = true := by unfold bne; rw [k16]; rfl
                                  have HF := Lib.hid (show B = false by rw [← HB.out]; simp [evB, k1, k2, k3, k4, k5, k6, k7, k8, k9, k10, k11, k12, k13, k14, k15, k16])
                                  go_wp2_with (go_at_call 42; refine (in_any _ _ _ _).mono ?_; rintro e w' ⟨rfl, rfl⟩)
                                  go_ret
                                  exact ⟨by rw [HF.out]; rfl, (Below.refl _ _).alloc (Nat.le_refl _) _⟩
                                | true =>
                                  have nk16 : (kd != 7) = false := by unfold bne; rw [k16]; rfl
                                  cases k17 : inB lk 0 9 with
                                  | false =>
                                    have HF := Lib.hid (show B = false by rw [← HB.out]; simp [evB, k1, k2, k3, k4, k5, k6, k7, k8, k9, k10, k11, k12, k13, k14, k15, k16, k17])
                                    go_wp2_with (go_at_call 42; refine (in_any _ _ _ _).mono ?_; rintro e w' ⟨rfl, rfl⟩)
                                    go_ret
                                    exact ⟨by rw [HF.out]; rfl, (Below.refl _ _).alloc (Nat.le_refl _) _⟩
                                  | true =>
                                    cases k18 : (gn == 0) with
                                    | false =>
                                      have nk18 : (gn != 0) = true := by unfold bne; rw [k18]; rfl
                                      have HF := Lib.hid (show B = false by rw [← HB.out]; simp [evB, k1, k2, k3, k4, k5, k6, k7, k8, k9, k10, k11, k12, k13, k14, k15, k16, k17, k18])
                                      go_wp2_with (go_at_call 42; refine (in_any _ _ _ _).mono ?_; rintro e w' ⟨rfl, rfl⟩)
                                      go_ret
                                      exact ⟨by rw [HF.out]; rfl, (Below.refl _ _).alloc (Nat.le_refl _) _⟩
                                    | true =>
                                      have nk18 : (gn != 0) = false := by unfold bne; rw [k18]; rfl
                                      have HF := Lib.hid (show B = true by rw [← HB.out]; simp [evB, k1, k2, k3, k4, k5, k6, k7, k8, k9, k10, k11, k12, k13, k14, k15, k16, k17, k18])
                                      go_wp2_with (go_at_call 42; refine (in_any _ _ _ _).mono ?_; rintro e w' ⟨rfl, rfl⟩)
                                      go_ret
                                      exact ⟨by rw [HF.out]; rfl, (Below.refl _ _).alloc (Nat.le_refl _) _⟩
                              | true =>
                                have nk15 : (kd != 6) = false := by unfold bne; rw [k15]; rfl
                                cases k19 : inB lk 0 99 with
                                | false =>
                                  have HF := Lib.hid (show B = false by rw [← HB.out]; simp [evB, k1, k2, k3, k4, k5, k6, k7, k8, k9, k10, k11, k12, k13, k14, k15, k19])
                                  go_wp2_with (go_at_call 42; refine (in_any _ _ _ _).mono ?_; rintro e w' ⟨rfl, rfl⟩)
                                  go_ret
                                  exact ⟨by rw [HF.out]; rfl, (Below.refl _ _).alloc (Nat.le_refl _) _⟩
                                | true =>
                                  cases k20 : inB gn 0 99 with
                                  | false =>
                                    have HF := Lib.hid (show B = false by rw [← HB.out]; simp [evB, k1, k2, k3, k4, k5, k6, k7, k8, k9, k10, k11, k12, k13, k14, k15, k19, k20])
                                    go_wp2_with (go_at_call 42; refine (in_any _ _ _ _).mono ?_; rintro e w' ⟨rfl, rfl⟩)
                                    go_ret
                                    exact ⟨by rw [HF.out]; rfl, (Below.refl _ _).alloc (Nat.le_refl _) _⟩
                                  | true =>
                                    have HF := Lib.hid (show B = true by rw [← HB.out]; simp [evB, k1, k2, k3, k4, k5, k6, k7, k8, k9, k10, k11, k12, k13, k14, k15, k19, k20])
                                    go_wp2_with (go_at_call 42; refine (in_any _ _ _ _).mono ?_; rintro e w' ⟨rfl, rfl⟩)
                                    go_ret
                                    exact ⟨by rw [HF.out]; rfl, (Below.refl _ _).alloc (Nat.le_refl _) _⟩
                            | true =>
                              have nk14 : (kd != 5) = false := by unfold bne; rw [k14]; rfl
                              cases k21 : inB lk 0 99 with
                              | false =>
                                have HF := Lib.hid (show B = false by rw [← HB.out]; simp [evB, k1, k2, k3, k4, k5, k6, k7, k8, k9, k10, k11, k12, k13, k14, k21])
                                go_wp2_with (go_at_call 42; refine (in_any _ _ _ _).mono ?_; rintro e w' ⟨rfl, rfl⟩)
                                go_ret
                                exact ⟨by rw [HF.out]; rfl, (Below.refl _ _).alloc (Nat.le_refl _) _⟩
                              | true =>
                                cases k22 : inB gn 0 99 with
                                | false =>
                                  have HF := Lib.hid (show B = false by rw [← HB.out]; simp [evB, k1, k2, k3, k4, k5, k6, k7, k8, k9, k10, k11, k12, k13, k14, k21, k22])
                                  go_wp2_with (go_at_call 42; refine (in_any _ _ _ _).mono ?_; rintro e w' ⟨rfl, rfl⟩)
                                  go_ret
                                  exact ⟨by rw [HF.out]; rfl, (Below.refl _ _).alloc (Nat.le_refl _) _⟩
                                | true =>
                                  have HF := Lib.hid (show B = true by rw [← HB.out]; simp [evB, k1, k2, k3, k4, k5, k6, k7, k8, k9, k10, k11, k12, k13, k14, k21, k22])
                                  go_wp2_with (go_at_call 42; refine (in_any _ _ _ _).mono ?_; rintro e w' ⟨rfl, rfl⟩)
                                  go_ret
                                  exact ⟨by rw [HF.out]; rfl, (Below.refl _ _).alloc (Nat.le_refl _) _⟩
                          | true =>
                            have nk13 : (kd != 4) = false := by unfold bne; rw [k13]; rfl
                            cases k23 : inB lk 0 99 with
                            | false =>
                              have HF := Lib.hid (show B = false by rw [← HB.out]; simp [evB, k1, k2, k3, k4, k5, k6, k7, k8, k9, k10, k11, k12, k13, k23])
                              go_wp2_with (go_at_call 42; refine (in_any _ _ _ _).mono ?_; rintro e w' ⟨rfl, rfl⟩)
                              go_ret
                              exact ⟨by rw [HF.out]; rfl, (Below.refl _ _).alloc (Nat.le_refl _) _⟩
                            | true =>
                              cases k24 : (gn == 0) with
                              | false =>
                                have nk24 : (gn != 0) = true := by unfold bne; rw [k24]; rfl
                                have HF := Lib.hid (show B = false by rw [← HB.out]; simp [evB, k1, k2, k3, k4, k5, k6, k7, k8, k9, k10, k11, k12, k13, k23, k24])
                                go_wp2_with (go_at_call 42; refine (in_any _ _ _ _).mono ?_; rintro e w' ⟨rfl, rfl⟩)
                                go_ret
                                exact ⟨by rw [HF.out]; rfl, (Below.refl _ _).alloc (Nat.le_refl _) _⟩
                              | true =>
                                have nk24 : (gn != 0) = false := by unfold bne; rw [k24]; rfl
                                have HF := Lib.hid (show B = true by rw [← HB.out]; simp [evB, k1, k2, k3, k4, k5, k6, k7, k8, k9, k10, k11, k12, k13, k23, k24])
                                go_wp2_with (go_at_call 42; refine (in_any _ _ _ _).mono ?_; rintro e w' ⟨rfl, rfl⟩)
                                go_ret
                                exact ⟨by rw [HF.out]; rfl, (Below.refl _ _).alloc (Nat.le_refl _) _⟩
                        | true =>
                          have nk12 : (kd != 3) = false := by unfold bne; rw [k12]; rfl
                          cases k25 : inB lk 0 99 with
                          | false =>
                            have HF := Lib.hid (show B = false by rw [← HB.out]; simp [evB, k1, k2, k3, k4, k5, k6, k7, k8, k9, k10, k11, k12, k25])
                            go_wp2_with (go_at_call 42; refine (in_any _ _ _ _).mono ?_; rintro e w' ⟨rfl, rfl⟩)
                            go_ret
                            exact ⟨by rw [HF.out]; rfl, (Below.refl _ _).alloc (Nat.le_refl _) _⟩
                          | true =>
                            cases k26 : (gn == 0) with
                            | false =>
                              have nk26 : (gn != 0) = true := by unfold bne; rw [k26]; rfl
                              have HF := Lib.hid (show B = false by rw [← HB.out]; simp [evB, k1, k2, k3, k4, k5, k6, k7, k8, k9, k10, k11, k12, k25, k26])
                              go_wp2_with (go_at_call 42; refine (in_any _ _ _ _).mono ?_; rintro e w' ⟨rfl, rfl⟩)
                              go_ret
                              exact ⟨by rw [HF.out]; rfl, (Below.refl _ _).alloc (Nat.le_refl _) _⟩
                            | true =>
                              have nk26 : (gn != 0) = false := by unfold bne; rw [k26]; rfl
                              have HF := Lib.hid (show B = true by rw [← HB.out]; simp [evB, k1, k2, k3, k4, k5, k6, k7, k8, k9, k10, k11, k12, k25, k26])
                              go_wp2_with (go_at_call 42; refine (in_any _ _ _ _).mono ?_; rintro e w' ⟨rfl, rfl⟩)
                              go_ret
                              exact ⟨by rw [HF.out]; rfl, (Below.refl _ _).alloc (Nat.le_refl _) _⟩
                      | true =>
                        have nk11 : (kd != 2) = false := by unfold bne; rw [k11]; rfl
                        cases k27 : (lk == 0) with
                        | false =>
                          have nk27 : (lk != 0) = true := by unfold bne; rw [k27]; rfl
                          have HF := Lib.hid (show B = false by rw [← HB.out]; simp [evB, k1, k2, k3, k4, k5, k6, k7, k8, k9, k10, k11, k27])
                          go_wp2_with (go_at_call 42; refine (in_any _ _ _ _).mono ?_; rintro e w' ⟨rfl, rfl⟩)
                          go_ret
                          exact ⟨by rw [HF.out]; rfl, (Below.refl _ _).alloc (Nat.le_refl _) _⟩
                        | true =>
                          have nk27 : (lk != 0) = false := by unfold bne; rw [k27]; rfl
                          cases k28 : (gn == 0) with
                          | false =>
                            have nk28 : (gn != 0) = true := by unfold bne; rw [k28]; rfl
                            have HF := Lib.hid (show B = false by rw [← HB.out]; simp [evB, k1, k2, k3, k4, k5, k6, k7, k8, k9, k10, k11, k27, k28])
                            go_wp2_with (go_at_call 42; refine (in_any _ _ _ _).mono ?_; rintro e w' ⟨rfl, rfl⟩)
                            go_ret
                            exact ⟨by rw [HF.out]; rfl, (Below.refl _ _).alloc (Nat.le_refl _) _⟩
                          | true =>
                            have nk28 : (gn != 0) = false := by unfold bne; rw [k28]; rfl
                            have HF := Lib.hid (show B = true by rw [← HB.out]; simp [evB, k1, k2, k3, k4, k5, k6, k7, k8, k9, k10, k11, k27, k28])
                            go_wp2_with (go_at_call 42; refine (in_any _ _ _ _).mono ?_; rintro e w' ⟨rfl, rfl⟩)
                            go_ret
                            exact ⟨by rw [HF.out]; rfl, (Below.refl _ _).alloc (Nat.le_refl _) _⟩
              | true =>
                have nk7 : (kd != 1) = false := by unfold bne; rw [k7]; rfl
                cases k29 : inB lk (-1) 9 with
                | false =>
                  have HF := Lib.hid (show B = false by rw [← HB.out]; simp [evB, k1, k2, k3, k4, k5, k6, k7, k29])
                  go_wp2_with (go_at_call 42; refine (in_any _ _ _ _).mono ?_; rintro e w' ⟨rfl, rfl⟩)
                  go_ret
                  exact ⟨by rw [HF.out]; rfl, (Below.refl _ _).alloc (Nat.le_refl _) _⟩
                | true =>
                  cases k30 : (lk != sp) with
                  | false =>
                    have HF := Lib.hid (show B = false by rw [← HB.out]; simp [evB, k1, k2, k3, k4, k5, k6, k7, k29, k30])
                    go_wp2_with (go_at_call 42; refine (in_any _ _ _ _).mono ?_; rintro e w' ⟨rfl, rfl⟩)
                    go_ret
                    exact ⟨by rw [HF.out]; rfl, (Below.refl _ _).alloc (Nat.le_refl _) _⟩
                  | true =>
                    cases k31 : (gn == 0) with
                    | false =>
                      have nk31 : (gn != 0) = true := by unfold bne; rw [k31]; rfl
                      have HF := Lib.hid (show B = false by rw [← HB.out]; simp [evB, k1, k2, k3, k4, k5, k6, k7, k29, k30, k31])
                      go_wp2_with (go_at_call 42; refine (in_any _ _ _ _).mono ?_; rintro e w' ⟨rfl, rfl⟩)
                      go_ret
                      exact ⟨by rw [HF.out]; rfl, (Below.refl _ _).alloc (Nat.le_refl _) _⟩
                    | true =>
                      have nk31 : (gn != 0) = false := by unfold bne; rw [k31]; rfl
                      cases k32 : inB op 0 11 with
                      | false =>
                        have HF := Lib.hid (show B = false by rw [← HB.out]; simp [evB, k1, k2, k3, k4, k5, k6, k7, k29, k30, k31, k32])
                        go_wp2_with (go_at_call 42; refine (in_any _ _ _ _).mono ?_; rintro e w' ⟨rfl, rfl⟩)
                        go_ret
                        exact ⟨by rw [HF.out]; rfl, (Below.refl _ _).alloc (Nat.le_refl _) _⟩
                      | true =>
                        cases k33 : inB vr 0 9 with
                        | false =>
                          have HF := Lib.hid (show B = false by rw [← HB.out]; simp [evB, k1, k2, k3, k4, k5, k6, k7, k29, k30, k31, k32, k33])
                          go_wp2_with (go_at_call 42; refine (in_any _ _ _ _).mono ?_; rintro e w' ⟨rfl, rfl⟩)
                          go_ret
                          exact ⟨by rw [HF.out]; rfl, (Below.refl _ _).alloc (Nat.le_refl _) _⟩
                        | true =>
                          cases k34 : inB pe (-1) 19 with
                          | false =>
                            have HF := Lib.hid (show B = false by rw [← HB.out]; simp [evB, k1, k2, k3, k4, k5, k6, k7, k29, k30, k31, k32, k33, k34])
                            go_wp2_with (go_at_call 42; refine (in_any _ _ _ _).mono ?_; rintro e w' ⟨rfl, rfl⟩)
                            go_ret
                            exact ⟨by rw [HF.out]; rfl, (Below.refl _ _).alloc (Nat.le_refl _) _⟩
                          | true =>
                            have HF := Lib.hid (show B = true by rw [← HB.out]; simp [evB, k1, k2, k3, k4, k5, k6, k7, k29, k30, k31, k32, k33, k34])
                            go_wp2_with (go_at_call 42; refine (in_any _ _ _ _).mono ?_; rintro e w' ⟨rfl, rfl⟩)
                            go_ret
                            exact ⟨by rw [HF.out]; rfl, (Below.refl _ _).alloc (Nat.le_refl _) _⟩
end Go.Proofs.YtamefmojocegkaaDoor

namespace Go.Proofs.YtamefmojocegkaaDoor
open Go Go.Proofs Go.RowKit Go.Lib

theorem below_drew8 (n : Nat) (w : World) (d : Nat) : Below n w (w.drewN d) := ⟨rfl, rfl, rfl, Nat.le_refl _, fun _ _ => rfl⟩
set_option maxRecDepth 100000 in
set_option maxHeartbeats 4000000 in
theorem allR_any (ad : Option Addr) (c : Nat) (l : List Int) (hi : Int) (hl : l.length ≤ maxLen) (w : World) (hI : RL KI w ad l) :
    Calls Tryd.prog 43 #[.slice ad l.length c, .int .i64 hi] w fun e w' => e = .returned (.bool (allB l hi)) ∧ w = w' := by
  unfold maxLen at hl
  obtain ⟨B, hB⟩ : ∃ B, allB l hi = B := ⟨_, rfl⟩
  rw [hB]
  have HYES := Lib.hid (fun h : ∀ x ∈ l, inB x 0 hi = true => show B = true by rw [← hB]; exact List.all_eq_true.2 h)
  have HNO := Lib.hid (fun (x : Int) (h : x ∈ l) (h2 : inB x 0 hi = false) => show B = false by rw [← hB]; exact List.all_eq_false.2 ⟨x, h, by simp [h2]⟩)
  have HC := Lib.hid (fun k hk => hI.int k hk)
  clear hB hI
  go_enter Tryd.func43, Tryd.ntmps43
  go_wp2_with fail
  go_loop [5] (fun i => ∃ k : Nat, k ≤ l.length ∧ i = .int .i64 k ∧ Hid (∀ j (hj : j < l.length), j < k → inB l[j] 0 hi = true)) (fun i => l.length - (RowKit.intOf i).toNat)
  case atStart => exact ⟨0, Nat.zero_le _, rfl, Lib.hid (fun j _ h => absurd h (Nat.not_lt_zero _))⟩
  case round =>
    obtain ⟨k, hk, rfl, HK⟩ := hrel
    by_cases hlt : k < l.length
    · have hki : (k : Int) < (l.length : Int) := by omega
      obtain ⟨b, o, e1, _, e2⟩ := HC.out k hlt
      have hik := fun W => at_int8 b o l.length c k hlt W
      have c0 := e2 w (Below.refl _ _)
      have HLT := Lib.hid hlt
      have HX := Lib.hid (fun h : inB l[k] 0 hi = false => HNO.out l[k] (List.getElem_mem hlt) h)
      have HY := Lib.hid (show inB l[k] 0 hi = true → ∀ j (hj : j < l.length), j < k + 1 → inB l[j] 0 hi = true from fun h j hj hjk => by
        rcases Nat.lt_or_ge j k with h9 | h9
        · exact HK.out j hj h9
        · have : j = k := by omega
          subst this
          exact h)
      rw [e1]
      generalize l[k] = x at *
      clear e2 hlt
      cases hx : inB x 0 hi with
      | true =>
        have HZ := Lib.hid (HY.out hx)
        go_wp2_with (go_at_call 42; refine (in_any _ _ _ _).mono ?_; rintro e w' ⟨rfl, rfl⟩)
        go_round
        case rel => exact ⟨k + 1, HLT.out, by go_num, HZ⟩
        case measure => have h9 := HLT.out; simp [RowKit.intOf]; omega
      | false =>
        have HZ := Lib.hid (HX.out hx)
        go_wp2_with (go_at_call 42; refine (in_any _ _ _ _).mono ?_; rintro e w' ⟨rfl, rfl⟩)
        go_ret
        exact ⟨by rw [HZ.out]; rfl, rfl⟩
    · obtain rfl : k = l.length := by omega
      have HF := Lib.hid (HYES.out (fun x hx => by obtain ⟨i, h1, rfl⟩ := List.getElem_of_mem hx; exact HK.out i h1 h1))
      have hki : ¬ (l.length : Int) < (l.length : Int) := by omega
      go_wp2
      go_ret
      exact ⟨by rw [HF.out]; rfl, rfl⟩
end Go.Proofs.YtamefmojocegkaaDoor

namespace Go.Proofs.YtamefmojocegkaaDoor
open Go Go.Proofs Go.RowKit Go.Lib

set_option maxRecDepth 100000 in
set_option maxHeartbeats 8000000 in
theorem validR_any (v : Value) (f : Fl) (hfit : f.fit) (w : World) (hf : FlAt w v f) :
    Calls Tryd.prog 15 #[v] w fun e w' => e = .returned (.bool (flB f)) ∧ Below w.heap.size w w' := by
  obtain ⟨a1, c1, a2, c2, a3, c3, rfl, r1, r2, r3⟩ := hf
  obtain ⟨h1, h2, h3⟩ := hfit
  obtain ⟨dr, lat, lia, sv, tm⟩ := f
  dsimp only at *
  obtain ⟨B, hB⟩ : ∃ B, flB ⟨dr, lat, lia, sv, tm⟩ = B := ⟨_, rfl⟩
  rw [hB]
  have HB := Lib.hid hB
  have HR1 := Lib.hid (fun W (b : Below w.heap.size w W) => r1.below b)
  have HR2 := Lib.hid (fun W (b : Below w.heap.size w W) => r2.below b)
  have HR3 := Lib.hid (fun W (b : Below w.heap.size w W) => r3.below b)
  have HX := Lib.hid (fun o => (Below.refl w.heap.size w).alloc (Nat.le_refl _) o)
  have HM1 := Lib.hid (show dr.length ≤ maxLen by unfold maxLen; omega)
  have HM2 := Lib.hid (show sv.length ≤ maxLen by unfold maxLen; omega)
  have HM3 := Lib.hid (show tm.length ≤ maxLen by unfold maxLen; omega)
  clear hB r1 r2 r3
  go_enter Tryd.func15, Tryd.ntmps15
  cases k1 : inB (dr.length : Int) 1 6 with
  | false =>
    have HF := Lib.hid (show B = false by rw [← HB.out]; simp [flB, k1])
    go_wp2_with (first | (go_at_call 42; ((with_reducible refine (in_any _ _ _ _).mono ?_); rintro e w' ⟨rfl, rfl⟩)) | (go_at_call 43; ((with_reducible refine (allR_any _ _ dr _ (HM1.out) _ (HR1.out _ (HX.out _))).mono ?_); rintro e w' ⟨rfl, rfl⟩)) | (go_at_call 43; ((with_reducible refine (allR_any _ _ tm _ (HM3.out) _ (HR3.out _ (HX.out _))).mono ?_); rintro e w' ⟨rfl, rfl⟩)) | (go_at_call 43; ((with_reducible refine (allR_any _ _ sv _ (HM2.out) _ (HR2.out _ (HX.out _))).mono ?_); rintro e w' ⟨rfl, rfl⟩)))
    go_ret
    exact ⟨by rw [HF.out]; rfl, (Below.refl _ _).alloc (Nat.le_refl _) _⟩
  | true =>
    cases k2 : allB dr 1000 with
    | false =>
      have HF := Lib.hid (show B = false by rw [← HB.out]; simp [flB, k1, k2])
      go_wp2_with (first | (go_at_call 42; ((with_reducible refine (in_any _ _ _ _).mono ?_); rintro e w' ⟨rfl, rfl⟩)) | (go_at_call 43; ((with_reducible refine (allR_any _ _ dr _ (HM1.out) _ (HR1.out _ (HX.out _))).mono ?_); rintro e w' ⟨rfl, rfl⟩)) | (go_at_call 43; ((with_reducible refine (allR_any _ _ tm _ (HM3.out) _ (HR3.out _ (HX.out _))).mono ?_); rintro e w' ⟨rfl, rfl⟩)) | (go_at_call 43; ((with_reducible refine (allR_any _ _ sv _ (HM2.out) _ (HR2.out _ (HX.out _))).mono ?_); rintro e w' ⟨rfl, rfl⟩)))
      go_ret
      exact ⟨by rw [HF.out]; rfl, (Below.refl _ _).alloc (Nat.le_refl _) _⟩
    | true =>
      cases k3 : inB lat 0 1000000 with
      | false =>
        have HF := Lib.hid (show B = false by rw [← HB.out]; simp [flB, k1, k2, k3])
        go_wp2_with (first | (go_at_call 42; ((with_reducible refine (in_any _ _ _ _).mono ?_); rintro e w' ⟨rfl, rfl⟩)) | (go_at_call 43; ((with_reducible refine (allR_any _ _ dr _ (HM1.out) _ (HR1.out _ (HX.out _))).mono ?_); rintro e w' ⟨rfl, rfl⟩)) | (go_at_call 43; ((with_reducible refine (allR_any _ _ tm _ (HM3.out) _ (HR3.out _ (HX.out _))).mono ?_); rintro e w' ⟨rfl, rfl⟩)) | (go_at_call 43; ((with_reducible refine (allR_any _ _ sv _ (HM2.out) _ (HR2.out _ (HX.out _))).mono ?_); rintro e w' ⟨rfl, rfl⟩)))
        go_ret
        exact ⟨by rw [HF.out]; rfl, (Below.refl _ _).alloc (Nat.le_refl _) _⟩
      | true =>
        cases k4 : inB lia 0 2 with
        | false =>
          have HF := Lib.hid (show B = false by rw [← HB.out]; simp [flB, k1, k2, k3, k4])
          go_wp2_with (first | (go_at_call 42; ((with_reducible refine (in_any _ _ _ _).mono ?_); rintro e w' ⟨rfl, rfl⟩)) | (go_at_call 43; ((with_reducible refine (allR_any _ _ dr _ (HM1.out) _ (HR1.out _ (HX.out _))).mono ?_); rintro e w' ⟨rfl, rfl⟩)) | (go_at_call 43; ((with_reducible refine (allR_any _ _ tm _ (HM3.out) _ (HR3.out _ (HX.out _))).mono ?_); rintro e w' ⟨rfl, rfl⟩)) | (go_at_call 43; ((with_reducible refine (allR_any _ _ sv _ (HM2.out) _ (HR2.out _ (HX.out _))).mono ?_); rintro e w' ⟨rfl, rfl⟩)))
          go_ret
          exact ⟨by rw [HF.out]; rfl, (Below.refl _ _).alloc (Nat.le_refl _) _⟩
        | true =>
          by_cases k5 : lia < (dr.length : Int)
          · have nk5 : decide ((dr.length : Int) ≤ lia) = false := decide_eq_false (by omega)
            cases k6 : inB (tm.length : Int) 1 8 with
            | false =>
              have HF := Lib.hid (show B = false by rw [← HB.out]; simp [flB, k1, k2, k3, k4, k5, k6])
              go_wp2_with (first | (go_at_call 42; ((with_reducible refine (in_any _ _ _ _).mono ?_); rintro e w' ⟨rfl, rfl⟩)) | (go_at_call 43; ((with_reducible refine (allR_any _ _ dr _ (HM1.out) _ (HR1.out _ (HX.out _))).mono ?_); rintro e w' ⟨rfl, rfl⟩)) | (go_at_call 43; ((with_reducible refine (allR_any _ _ tm _ (HM3.out) _ (HR3.out _ (HX.out _))).mono ?_); rintro e w' ⟨rfl, rfl⟩)) | (go_at_call 43; ((with_reducible refine (allR_any _ _ sv _ (HM2.out) _ (HR2.out _ (HX.out _))).mono ?_); rintro e w' ⟨rfl, rfl⟩)))
              go_ret
              exact ⟨by rw [HF.out]; rfl, (Below.refl _ _).alloc (Nat.le_refl _) _⟩
            | true =>
              cases k7 : allB tm 3 with
              | false =>
                have HF := Lib.hid (show B = false by rw [← HB.out]; simp [flB, k1, k2, k3, k4, k5, k6, k7])
                go_wp2_with (first | (go_at_call 42; ((with_reducible refine (in_any _ _ _ _).mono ?_); rintro e w' ⟨rfl, rfl⟩)) | (go_at_call 43; ((with_reducible refine (allR_any _ _ dr _ (HM1.out) _ (HR1.out _ (HX.out _))).mono ?_); rintro e w' ⟨rfl, rfl⟩)) | (go_at_call 43; ((with_reducible refine (allR_any _ _ tm _ (HM3.out) _ (HR3.out _ (HX.out _))).mono ?_); rintro e w' ⟨rfl, rfl⟩)) | (go_at_call 43; ((with_reducible refine (allR_any _ _ sv _ (HM2.out) _ (HR2.out _ (HX.out _))).mono ?_); rintro e w' ⟨rfl, rfl⟩)))
                go_ret
                exact ⟨by rw [HF.out]; rfl, (Below.refl _ _).alloc (Nat.le_refl _) _⟩
              | true =>
                cases k8 : inB (sv.length : Int) 1 12 with
                | false =>
                  have HF := Lib.hid (show B = false by rw [← HB.out]; simp [flB, k1, k2, k3, k4, k5, k6, k7, k8])
                  go_wp2_with (first | (go_at_call 42; ((with_reducible refine (in_any _ _ _ _).mono ?_); rintro e w' ⟨rfl, rfl⟩)) | (go_at_call 43; ((with_reducible refine (allR_any _ _ dr _ (HM1.out) _ (HR1.out _ (HX.out _))).mono ?_); rintro e w' ⟨rfl, rfl⟩)) | (go_at_call 43; ((with_reducible refine (allR_any _ _ tm _ (HM3.out) _ (HR3.out _ (HX.out _))).mono ?_); rintro e w' ⟨rfl, rfl⟩)) | (go_at_call 43; ((with_reducible refine (allR_any _ _ sv _ (HM2.out) _ (HR2.out _ (HX.out _))).mono ?_); rintro e w' ⟨rfl, rfl⟩)))
                  go_ret
                  exact ⟨by rw [HF.out]; rfl, (Below.refl _ _).alloc (Nat.le_refl _) _⟩
                | true =>
                  cases k9 : allB sv ((tm.length : Int) - 1) with
                  | false =>
                    have HF := Lib.hid (show B = false by rw [← HB.out]; simp [flB, k1, k2, k3, k4, k5, k6, k7, k8, k9])
                    go_wp2_with (first | (go_at_call 42; ((with_reducible refine (in_any _ _ _ _).mono ?_); rintro e w' ⟨rfl, rfl⟩)) | (go_at_call 43; ((with_reducible refine (allR_any _ _ dr _ (HM1.out) _ (HR1.out _ (HX.out _))).mono ?_); rintro e w' ⟨rfl, rfl⟩)) | (go_at_call 43; ((with_reducible refine (allR_any _ _ tm _ (HM3.out) _ (HR3.out _ (HX.out _))).mono ?_); rintro e w' ⟨rfl, rfl⟩)) | (go_at_call 43; ((with_reducible refine (allR_any _ _ sv _ (HM2.out) _ (HR2.out _ (HX.out _))).mono ?_); rintro e w' ⟨rfl, rfl⟩)))
                    go_ret
                    exact ⟨by rw [HF.out]; rfl, (Below.refl _ _).alloc (Nat.le_refl _) _⟩
                  | true =>
                    have HF := Lib.hid (show B = true by rw [← HB.out]; simp [flB, k1, k2, k3, k4, k5, k6, k7, k8, k9])
                    go_wp2_with (first | (go_at_call 42; ((with_reducible refine (in_any _ _ _ _).mono ?_); rintro e w' ⟨rfl, rfl⟩)) | (go_at_call 43; ((with_reducible refine (allR_any _ _ dr _ (HM1.out) _ (HR1.out _ (HX.out _))).mono ?_); rintro e w' ⟨rfl, rfl⟩)) | (go_at_call 43; ((with_reducible refine (allR_any _ _ tm _ (HM3.out) _ (HR3.out _ (HX.out _))).mono ?_); rintro e w' ⟨rfl, rfl⟩)) | (go_at_call 43; ((with_reducible refine (allR_any _ _ sv _ (HM2.out) _ (HR2.out _ (HX.out _))).mono ?_); rintro e w' ⟨rfl, rfl⟩)))
                    go_ret
                    exact ⟨by rw [HF.out]; rfl, (Below.refl _ _).alloc (Nat.le_refl _) _⟩
          · have nk5 : decide ((dr.length : Int) ≤ lia) = true := decide_eq_true (by omega)
            have mk5 : ¬ lia < (dr.length : Int) := k5
            have HF := Lib.hid (show B = false by rw [← HB.out]; simp [flB, k1, k2, k3, k4, k5])
            go_wp2_with (first | (go_at_call 42; ((with_reducible refine (in_any _ _ _ _).mono ?_); rintro e w' ⟨rfl, rfl⟩)) | (go_at_call 43; ((with_reducible refine (allR_any _ _ dr _ (HM1.out) _ (HR1.out _ (HX.out _))).mono ?_); rintro e w' ⟨rfl, rfl⟩)) | (go_at_call 43; ((with_reducible refine (allR_any _ _ tm _ (HM3.out) _ (HR3.out _ (HX.out _))).mono ?_); rintro e w' ⟨rfl, rfl⟩)) | (go_at_call 43; ((with_reducible refine (allR_any _ _ sv _ (HM2.out) _ (HR2.out _ (HX.out _))).mono ?_); rintro e w' ⟨rfl, rfl⟩)))
            go_ret
            exact ⟨by rw [HF.out]; rfl, (Below.refl _ _).alloc (Nat.le_refl _) _⟩
end Go.Proofs.YtamefmojocegkaaDoor

namespace Go.Proofs.YtamefmojocegkaaDoor
open Go Go.Proofs Go.RowKit Go.Lib

theorem below_three8 (w : World) (o1 o2 o3 : Obj) : Below w.heap.size w (((w.alloc o1).alloc o2).alloc o3) := (((Below.refl _ _).alloc (Nat.le_refl _) _).alloc (by simp) _).alloc (by simp; omega) _
set_option maxRecDepth 100000 in
set_option maxHeartbeats 8000000 in
theorem followsR_any (v : Value) (f : Fl) (a b : Ev) (ha : a.fit) (w : World) (hf : FlAt w v f) :
    Calls Tryd.prog 46 #[v, a.val, b.val] w fun e w' => e = .returned (.tuple #[.bool (folB a b), .int .i64 (folN f.lat a b)]) ∧ Below w.heap.size w w' := by
  obtain ⟨a1, c1, a2, c2, a3, c3, rfl, _, _, _⟩ := hf
  obtain ⟨dr, lat, lia, sv, tm⟩ := f
  obtain ⟨ag1, sq1, tm1, kd1, tr1, sp1, lk1, gn1, op1, vr1, pe1, bt1⟩ := a
  obtain ⟨ag2, sq2, tm2, kd2, tr2, sp2, lk2, gn2, op2, vr2, pe2, bt2⟩ := b
  unfold Ev.val
  unfold Ev.fit at ha
  obtain ⟨ha1, ha2⟩ := ha
  dsimp only at *
  obtain ⟨B, hB⟩ : ∃ B, folB ⟨ag1, sq1, tm1, kd1, tr1, sp1, lk1, gn1, op1, vr1, pe1, bt1⟩ ⟨ag2, sq2, tm2, kd2, tr2, sp2, lk2, gn2, op2, vr2, pe2, bt2⟩ = B := ⟨_, rfl⟩
  obtain ⟨X, hX⟩ : ∃ X, folN lat ⟨ag1, sq1, tm1, kd1, tr1, sp1, lk1, gn1, op1, vr1, pe1, bt1⟩ ⟨ag2, sq2, tm2, kd2, tr2, sp2, lk2, gn2, op2, vr2, pe2, bt2⟩ = X := ⟨_, rfl⟩
  rw [hB, hX]
  have HB := Lib.hid hB
  have HX := Lib.hid hX
  clear hB hX
  go_enter Tryd.func46, Tryd.ntmps46
  by_cases hk : kd1 = 3
  · skip
    have k1 : (kd1 == 3) = true := by rw [beq_iff_eq]; exact hk
    have k2 : (kd1 == 5) = false := by rw [beq_eq_false_iff_ne]; omega
    have k3 : (kd1 == 6) = false := by rw [beq_eq_false_iff_ne]; omega
    have k4 : (kd1 == 1) = false := by rw [beq_eq_false_iff_ne]; omega
    clear hk
    cases k5 : (kd2 == 4) with
    | false =>
      have HF := Lib.hid (show B = false by rw [← HB.out]; simp [folB, k1, k2, k3, k4, k5])
      have HG := Lib.hid (show X = 0 by rw [← HX.out]; simp [folN, k1, k5])
      go_wp2_with fail
      go_ret2
      exact ⟨by rw [HF.out, HG.out]; rfl, below_three8 _ _ _ _⟩
    | true =>
      cases k6 : (lk1 == lk2) with
      | false =>
        have HF := Lib.hid (show B = false by rw [← HB.out]; simp [folB, k1, k2, k3, k4, k5, k6])
        have HG := Lib.hid (show X = 0 by rw [← HX.out]; simp [folN, k1, k5, k6])
        go_wp2_with fail
        go_ret2
        exact ⟨by rw [HF.out, HG.out]; rfl, below_three8 _ _ _ _⟩
      | true =>
        have HF := Lib.hid (show B = true by rw [← HB.out]; simp [folB, k1, k2, k3, k4, k5, k6])
        have HG := Lib.hid (show X = lat by rw [← HX.out]; simp [folN, k1, k5, k6])
        go_wp2_with fail
        go_quiet (fail)
        go_wp2_with fail
        go_ret2
        exact ⟨by rw [HF.out, HG.out]; rfl, (below_three8 _ _ _ _).trans (below_drew8 _ _ _)⟩
  · have hn3 := hk
    clear hk
    by_cases hk : kd1 = 5
    · skip
      have k7 : (kd1 == 3) = false := by rw [beq_eq_false_iff_ne]; omega
      have k8 : (kd1 == 5) = true := by rw [beq_iff_eq]; exact hk
      have k9 : (kd1 == 6) = false := by rw [beq_eq_false_iff_ne]; omega
      have k10 : (kd1 == 1) = false := by rw [beq_eq_false_iff_ne]; omega
      clear hk
      cases k11 : (kd2 == 6) with
      | false =>
        have HF := Lib.hid (show B = false by rw [← HB.out]; simp [folB, k7, k8, k9, k10, k11])
        have HG := Lib.hid (show X = 0 by rw [← HX.out]; simp [folN, k7])
        go_wp2_with fail
        go_ret2
        exact ⟨by rw [HF.out, HG.out]; rfl, below_three8 _ _ _ _⟩
      | true =>
        cases k12 : (lk1 == lk2) with
        | false =>
          have HF := Lib.hid (show B = false by rw [← HB.out]; simp [folB, k7, k8, k9, k10, k11, k12])
          have HG := Lib.hid (show X = 0 by rw [← HX.out]; simp [folN, k7])
          go_wp2_with fail
          go_ret2
          exact ⟨by rw [HF.out, HG.out]; rfl, below_three8 _ _ _ _⟩
        | true =>
          cases k13 : (gn1 == gn2) with
          | false =>
            have HF := Lib.hid (show B = false by rw [← HB.out]; simp [folB, k7, k8, k9, k10, k11, k12, k13])
            have HG := Lib.hid (show X = 0 by rw [← HX.out]; simp [folN, k7])
            go_wp2_with fail
            go_ret2
            exact ⟨by rw [HF.out, HG.out]; rfl, below_three8 _ _ _ _⟩
          | true =>
            have HF := Lib.hid (show B = true by rw [← HB.out]; simp [folB, k7, k8, k9, k10, k11, k12, k13])
            have HG := Lib.hid (show X = 0 by rw [← HX.out]; simp [folN, k7])
            go_wp2_with fail
            go_ret2
            exact ⟨by rw [HF.out, HG.out]; rfl, below_three8 _ _ _ _⟩
    · have hn5 := hk
      clear hk
      by_cases hk : kd1 = 6
      · skip
        have k14 : (kd1 == 3) = false := by rw [beq_eq_false_iff_ne]; omega
        have k15 : (kd1 == 5) = false := by rw [beq_eq_false_iff_ne]; omega
        have k16 : (kd1 == 6) = true := by rw [beq_iff_eq]; exact hk
        have k17 : (kd1 == 1) = false := by rw [beq_eq_false_iff_ne]; omega
        clear hk
        cases k18 : (kd2 == 5) with
        | false =>
          have HF := Lib.hid (show B = false by rw [← HB.out]; simp [folB, k14, k15, k16, k17, k18])
          have HG := Lib.hid (show X = 0 by rw [← HX.out]; simp [folN, k14])
          go_wp2_with fail
          go_ret2
          exact ⟨by rw [HF.out, HG.out]; rfl, below_three8 _ _ _ _⟩
        | true =>
          cases k19 : (lk1 == lk2) with
          | false =>
            have HF := Lib.hid (show B = false by rw [← HB.out]; simp [folB, k14, k15, k16, k17, k18, k19])
            have HG := Lib.hid (show X = 0 by rw [← HX.out]; simp [folN, k14])
            go_wp2_with fail
            go_ret2
            exact ⟨by rw [HF.out, HG.out]; rfl, below_three8 _ _ _ _⟩
          | true =>
            cases k20 : (gn1 + 1 == gn2) with
            | false =>
              have HF := Lib.hid (show B = false by rw [← HB.out]; simp [folB, k14, k15, k16, k17, k18, k19, k20])
              have HG := Lib.hid (show X = 0 by rw [← HX.out]; simp [folN, k14])
              go_wp2_with fail
              go_ret2
              exact ⟨by rw [HF.out, HG.out]; rfl, below_three8 _ _ _ _⟩
            | true =>
              have HF := Lib.hid (show B = true by rw [← HB.out]; simp [folB, k14, k15, k16, k17, k18, k19, k20])
              have HG := Lib.hid (show X = 0 by rw [← HX.out]; simp [folN, k14])
              go_wp2_with fail
              go_ret2
              exact ⟨by rw [HF.out, HG.out]; rfl, below_three8 _ _ _ _⟩
      · have hn6 := hk
        clear hk
        by_cases hk : kd1 = 1
        · skip
          have k21 : (kd1 == 3) = false := by rw [beq_eq_false_iff_ne]; omega
          have k22 : (kd1 == 5) = false := by rw [beq_eq_false_iff_ne]; omega
          have k23 : (kd1 == 6) = false := by rw [beq_eq_false_iff_ne]; omega
          have k24 : (kd1 == 1) = true := by rw [beq_iff_eq]; exact hk
          clear hk
          cases k25 : (kd2 == 1) with
          | false =>
            have HF := Lib.hid (show B = false by rw [← HB.out]; simp [folB, k21, k22, k23, k24, k25])
            have HG := Lib.hid (show X = 0 by rw [← HX.out]; simp [folN, k21])
            go_wp2_with fail
            go_ret2
            exact ⟨by rw [HF.out, HG.out]; rfl, below_three8 _ _ _ _⟩
          | true =>
            cases k26 : (lk2 == sp1) with
            | false =>
              have HF := Lib.hid (show B = false by rw [← HB.out]; simp [folB, k21, k22, k23, k24, k25, k26])
              have HG := Lib.hid (show X = 0 by rw [← HX.out]; simp [folN, k21])
              go_wp2_with fail
              go_ret2
              exact ⟨by rw [HF.out, HG.out]; rfl, below_three8 _ _ _ _⟩
            | true =>
              have HF := Lib.hid (show B = true by rw [← HB.out]; simp [folB, k21, k22, k23, k24, k25, k26])
              have HG := Lib.hid (show X = 0 by rw [← HX.out]; simp [folN, k21])
              go_wp2_with fail
              go_ret2
              exact ⟨by rw [HF.out, HG.out]; rfl, below_three8 _ _ _ _⟩
        · have hn1 := hk
          clear hk
          have k27 : (kd1 == 3) = false := by rw [beq_eq_false_iff_ne]; omega
          have k28 : (kd1 == 5) = false := by rw [beq_eq_false_iff_ne]; omega
          have k29 : (kd1 == 6) = false := by rw [beq_eq_false_iff_ne]; omega
          have k30 : (kd1 == 1) = false := by rw [beq_eq_false_iff_ne]; omega
          have HF := Lib.hid (show B = false by rw [← HB.out]; simp [folB, k27, k28, k29, k30])
          have HG := Lib.hid (show X = 0 by rw [← HX.out]; simp [folN, k27])
          go_wp2_with fail
          go_ret2
          exact ⟨by rw [HF.out, HG.out]; rfl, below_three8 _ _ _ _⟩
end Go.Proofs.YtamefmojocegkaaDoor

namespace Go.Proofs.YtamefmojocegkaaDoor
open Go Go.Proofs Go.RowKit Go.Lib

set_option maxRecDepth 100000 in
set_option maxHeartbeats 8000000 in
theorem shownR_any (v : Value) (f : Fl) (a b : Ev) (s t : Int) (w : World) (hf : FlAt w v f)
    (ha0 : 0 ≤ a.ag) (ha1 : a.ag < (f.dr.length : Int)) (hd0 : 0 ≤ f.drOf a.ag) (hd1 : f.drOf a.ag ≤ 1000)
    (ht0 : 0 ≤ a.tm) (ht1 : a.tm ≤ 1000000) (hu0 : 0 ≤ b.tm) (hu1 : b.tm ≤ 1000000) (hs0 : -17592186044416 ≤ s) (hs1 : s ≤ 17592186044416) (hr0 : -17592186044416 ≤ t) (hr1 : t ≤ 17592186044416) :
    Calls Tryd.prog 53 #[v, a.val, b.val, .int .i64 s, .int .i64 t] w fun e w' => e = .returned (.bool (shB (f.drOf a.ag) (b.tm - a.tm) s t)) ∧ Below w.heap.size w w' := by
  obtain ⟨x1, c1, x2, c2, x3, c3, rfl, hI, _, _⟩ := hf
  obtain ⟨dr, lat, lia, sv, tm⟩ := f
  obtain ⟨ag1, sq1, tm1, kd1, tr1, sp1, lk1, gn1, op1, vr1, pe1, bt1⟩ := a
  obtain ⟨ag2, sq2, tm2, kd2, tr2, sp2, lk2, gn2, op2, vr2, pe2, bt2⟩ := b
  unfold Ev.val
  unfold Fl.drOf at *
  dsimp only at *
  obtain ⟨na, rfl⟩ := Int.eq_ofNat_of_zero_le ha0
  rw [Int.toNat_natCast] at hd0 hd1 ⊢
  have hna : na < dr.length := by omega
  obtain ⟨gb, go_, rfl, hgb, hc⟩ := hI.int na hna
  have hik := fun W => at_int8 gb go_ dr.length c1 na hna W
  have c0 := hc _ (below_three8 w (.cells #[.slice (some ⟨gb, go_, none⟩) dr.length c1, .int .i64 lat, .int .i64 lia, .slice x2 sv.length c2, .slice x3 tm.length c3] 24) (.cells #[.int .i64 ↑na, .int .i64 sq1, .int .i64 tm1, .int .i64 kd1, .int .i64 tr1, .int .i64 sp1, .int .i64 lk1, .int .i64 gn1, .int .i64 op1, .int .i64 vr1, .int .i64 pe1, .int .i64 bt1] 46) (.cells #[.int .i64 ag2, .int .i64 sq2, .int .i64 tm2, .int .i64 kd2, .int .i64 tr2, .int .i64 sp2, .int .i64 lk2, .int .i64 gn2, .int .i64 op2, .int .i64 vr2, .int .i64 pe2, .int .i64 bt2] 46))
  have hg : dr.getD na 0 = dr[na] := by rw [List.getD_eq_getElem?_getD, List.getElem?_eq_getElem hna]; rfl
  rw [hg] at hd0 hd1 ⊢
  have c00 := hc w (Below.refl _ _)
  generalize dr[na] = D at *
  clear hg hc hI ha0
  obtain ⟨p1, p2⟩ := mul_bd (x := tm2 - tm1 - 1) (y := 1000000 - D) (X := 1000001) (Y := 1000000) (by omega) (by omega) (by omega) (by omega) (by decide)
  obtain ⟨q1, q2⟩ := mul_bd (x := tm2 - tm1 + 1) (y := 1000000 + D) (X := 1000001) (Y := 1001000) (by omega) (by omega) (by omega) (by omega) (by decide)
  obtain ⟨B, hB⟩ : ∃ B, shB D (tm2 - tm1) s t = B := ⟨_, rfl⟩
  rw [hB]
  have HB := Lib.hid hB
  clear hB
  go_enter Tryd.func53, Tryd.ntmps53
  have fin : ∀ (W : World), Below w.heap.size w W → Below w.heap.size w W := fun _ h => h
  by_cases h1 : t < s
  · have HF := Lib.hid (show B = false by rw [← HB.out]; unfold shB; rw [decide_eq_true h1]; rfl)
    go_wp2_with fail
    go_ret
    exact ⟨by rw [HF.out]; rfl, below_three8 _ _ _ _⟩
  · by_cases h2 : 1 ≤ tm2 - tm1
    · have e2 : decide (1 ≤ tm2 - tm1) = true := decide_eq_true h2
      by_cases h3 : t - s ≤ (tm2 - tm1 - 1) * (1000000 - D)
      · have HF := Lib.hid (show B = false by rw [← HB.out]; unfold shB; rw [decide_eq_true h3, e2]; simp)
        go_wp2_with fail
        go_ret
        exact ⟨by rw [HF.out]; rfl, below_three8 _ _ _ _⟩
      · have HF := Lib.hid (show B = decide (t - s < (tm2 - tm1 + 1) * (1000000 + D)) by rw [← HB.out]; unfold shB; rw [decide_eq_false h1, decide_eq_false h3, e2]; simp)
        go_wp2_with fail
        go_ret
        exact ⟨by rw [HF.out]; rfl, below_three8 _ _ _ _⟩
    · have e2 : decide (1 ≤ tm2 - tm1) = false := decide_eq_false h2
      have HF := Lib.hid (show B = decide (t - s < (tm2 - tm1 + 1) * (1000000 + D)) by rw [← HB.out]; unfold shB; rw [decide_eq_false h1, e2]; simp)
      go_wp2_with fail
      go_ret
      exact ⟨by rw [HF.out]; rfl, below_three8 _ _ _ _⟩
set_option maxRecDepth 100000 in
set_option maxHeartbeats 4000000 in
theorem timesR_any (ad ad2 : Option Addr) (n c c2 : Nat) (l : List Int) (hl : l.length ≤ maxLen) (w : World) (hI : RL KI w ad2 l) :
    Calls Tryd.prog 52 #[.slice ad n c, .slice ad2 l.length c2] w fun e w' => e = .returned (.bool (timesB n l)) ∧ w = w' := by
  unfold maxLen at hl
  obtain ⟨B, hB⟩ : ∃ B, timesB n l = B := ⟨_, rfl⟩
  rw [hB]
  have HYES := Lib.hid (fun h : ∀ x ∈ l, inB x (-17592186044416) 17592186044416 = true => show B = decide (l.length = n) by rw [← hB]; unfold timesB; rw [List.all_eq_true.2 h]; rfl)
  have HNO := Lib.hid (fun (x : Int) (h : x ∈ l) (h2 : inB x (-17592186044416) 17592186044416 = false) => show B = false by
    rw [← hB]; unfold timesB
    have : l.all (fun v => inB v (-17592186044416) 17592186044416) = false := List.all_eq_false.2 ⟨x, h, by simp [h2]⟩
    rw [this]; rfl)
  have HC := Lib.hid (fun k hk => hI.int k hk)
  clear hB hI
  go_enter Tryd.func52, Tryd.ntmps52
  go_wp2_with fail
  go_loop [5] (fun i => ∃ k : Nat, k ≤ l.length ∧ i = .int .i64 k ∧ Hid (∀ j (hj : j < l.length), j < k → inB l[j] (-17592186044416) 17592186044416 = true)) (fun i => l.length - (RowKit.intOf i).toNat)
  case atStart => exact ⟨0, Nat.zero_le _, rfl, Lib.hid (fun j _ h => absurd h (Nat.not_lt_zero _))⟩
  case round =>
    obtain ⟨k, hk, rfl, HK⟩ := hrel
    by_cases hlt : k < l.length
    · have hki : (k : Int) < (l.length : Int) := by omega
      obtain ⟨b, o, rfl, _, e2⟩ := HC.out k hlt
      have hik := fun W => at_int8 b o l.length c2 k hlt W
      have c0 := e2 w (Below.refl _ _)
      have HLT := Lib.hid hlt
      have HX := Lib.hid (fun h : inB l[k] (-17592186044416) 17592186044416 = false => HNO.out l[k] (List.getElem_mem hlt) h)
      have HY := Lib.hid (show inB l[k] (-17592186044416) 17592186044416 = true → ∀ j (hj : j < l.length), j < k + 1 → inB l[j] (-17592186044416) 17592186044416 = true from fun h j hj hjk => by
        rcases Nat.lt_or_ge j k with h9 | h9
        · exact HK.out j hj h9
        · have : j = k := by omega
          subst this
          exact h)
      generalize l[k] = x at *
      clear e2 hlt
      cases hx : inB x (-17592186044416) 17592186044416 with
      | true =>
        have HZ := Lib.hid (HY.out hx)
        go_wp2_with (go_at_call 42; refine (in_any _ _ _ _).mono ?_; rintro e w' ⟨rfl, rfl⟩)
        go_round
        case rel => exact ⟨k + 1, HLT.out, by go_num, HZ⟩
        case measure => have h9 := HLT.out; simp [RowKit.intOf]; omega
      | false =>
        have HZ := Lib.hid (HX.out hx)
        go_wp2_with (go_at_call 42; refine (in_any _ _ _ _).mono ?_; rintro e w' ⟨rfl, rfl⟩)
        go_ret
        exact ⟨by rw [HZ.out]; rfl, rfl⟩
    · obtain rfl : k = l.length := by omega
      have HF := Lib.hid (HYES.out (fun x hx => by obtain ⟨i, h1, rfl⟩ := List.getElem_of_mem hx; exact HK.out i h1 h1))
      have hki : ¬ (l.length : Int) < (l.length : Int) := by omega
      by_cases hq : l.length = n
      · have k1 : ((l.length : Int) == (n : Int)) = true := by rw [hq]; simp
        have HQ := Lib.hid hq
        clear hq
        go_wp2
        go_ret
        exact ⟨by rw [HF.out, decide_eq_true HQ.out]; rfl, rfl⟩
      · have k1 : ((l.length : Int) == (n : Int)) = false := by rw [beq_eq_false_iff_ne]; omega
        have HQ := Lib.hid hq
        go_wp2
        go_ret
        exact ⟨by rw [HF.out, decide_eq_false HQ.out]; rfl, rfl⟩
end Go.Proofs.YtamefmojocegkaaDoor
