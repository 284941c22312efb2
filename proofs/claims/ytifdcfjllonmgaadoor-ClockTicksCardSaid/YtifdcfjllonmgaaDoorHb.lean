/-
  Layer 8: events; the contract of the reference's Event.
-/
import Derived.Test.YtifdcfjllonmgaaDoorHa
namespace Go.Proofs.YtifdcfjllonmgaaDoor
open Go Go.Proofs Go.RowKit Go.Lib

/-- An event as it lies in memory. -/
structure Ev where
  (ag sq tm kd tr sp lk gn op vr pe bt : Int)
def Ev.cells (e : Ev) : List Value := [.int .i64 e.ag, .int .i64 e.sq, .int .i64 e.tm, .int .i64 e.kd, .int .i64 e.tr, .int .i64 e.sp, .int .i64 e.lk, .int .i64 e.gn, .int .i64 e.op, .int .i64 e.vr, .int .i64 e.pe, .int .i64 e.bt]
def Ev.val (e : Ev) : Value := .agg #[.int .i64 e.ag, .int .i64 e.sq, .int .i64 e.tm, .int .i64 e.kd, .int .i64 e.tr, .int .i64 e.sp, .int .i64 e.lk, .int .i64 e.gn, .int .i64 e.op, .int .i64 e.vr, .int .i64 e.pe, .int .i64 e.bt]
/-- An event is valid. -/
def evB (e : Ev) : Bool :=
  (inB e.ag 0 5 && inB e.sq 0 999 && inB e.tm 0 1000000 && inB e.tr 0 999 && inB e.sp 0 9 && inB e.bt 0 1000) &&
  (if e.kd == 1 then inB e.lk (-1) 9 && e.lk != e.sp && e.gn == 0 && inB e.op 0 11 && inB e.vr 0 9 && inB e.pe (-1) 19
   else (e.op == 0 && e.vr == 0 && e.pe == 0) &&
    (if e.kd == 2 then e.lk == 0 && e.gn == 0
     else if e.kd == 3 || e.kd == 4 then inB e.lk 0 99 && e.gn == 0
     else if e.kd == 5 || e.kd == 6 then inB e.lk 0 99 && inB e.gn 0 99
     else if e.kd == 7 then inB e.lk 0 9 && e.gn == 0
     else false))
theorem in_q (n lo hi : Int) (w : World) :
    Calls Tryd.prog 42 #[.int .i64 n, .int .i64 lo, .int .i64 hi] w fun e w' => e = .returned (.bool (inB n lo hi)) ∧ w' = w := (in_any n lo hi w).mono fun _ _ ⟨h1, h2⟩ => ⟨h1, h2.symm⟩
set_option maxRecDepth 100000 in
set_option maxHeartbeats 8000000 in
theorem eventR_any (x : Ev) (w : World) :
    Calls Tryd.prog 24 #[x.val] w fun e w' => e = .returned (.bool (evB x)) ∧ Below w.heap.size w w' := by
  obtain ⟨ag, sq, tm, kd, tr, sp, lk, gn, op, vr, pe, bt⟩ := x
  unfold Ev.val
  dsimp only
  obtain ⟨B, hB⟩ : ∃ B, evB ⟨ag, sq, tm, kd, tr, sp, lk, gn, op, vr, pe, bt⟩ = B := ⟨_, rfl⟩
  rw [hB]
  have HB := Lib.hid hB
  clear hB
  go_enter Tryd.func24, Tryd.ntmps24
  cases k1 : inB ag 0 5 with
  | false =>
    have HF := Lib.hid (show B = false by rw [← HB.out]; simp [evB, k1])
    go_wp2_with (go_at_call 42; refine (in_any _ _ _ _).mono ?_; rintro e w' ⟨rfl, rfl⟩)
    go_ret
    exact ⟨by rw [HF.out]; rfl, (Below.refl _ _).alloc (Nat.le_refl _) _⟩
  | true =>
    cases k2 : inB sq 0 999 with
    | false =>
      have HF := Lib.hid (show B = false by rw [← HB.out]; simp [evB, k1, k2])
      go_wp2_with (go_at_call 42; refine (in_any _ _ _ _).mono ?_; rintro e w' ⟨rfl, rfl⟩)
      go_ret
      exact ⟨by rw [HF.out]; rfl, (Below.refl _ _).alloc (Nat.le_refl _) _⟩
    | true =>
      cases k3 : inB tm 0 1000000 with
      | false =>
        have HF := Lib.hid (show B = false by rw [← HB.out]; simp [evB, k1, k2, k3])
        go_wp2_with (go_at_call 42; refine (in_any _ _ _ _).mono ?_; rintro e w' ⟨rfl, rfl⟩)
        go_ret
        exact ⟨by rw [HF.out]; rfl, (Below.refl _ _).alloc (Nat.le_refl _) _⟩
      | true =>
        cases k4 : inB tr 0 999 with
        | false =>
          have HF := Lib.hid (show B = false by rw [← HB.out]; simp [evB, k1, k2, k3, k4])
          go_wp2_with (go_at_call 42; refine (in_any _ _ _ _).mono ?_; rintro e w' ⟨rfl, rfl⟩)
          go_ret
          exact ⟨by rw [HF.out]; rfl, (Below.refl _ _).alloc (Nat.le_refl _) _⟩
        | true =>
          cases k5 : inB sp 0 9 with
          | false =>
            have HF := Lib.hid (show B = false by rw [← HB.out]; simp [evB, k1, k2, k3, k4, k5])
            go_wp2_with (go_at_call 42; refine (in_any _ _ _ _).mono ?_; rintro e w' ⟨rfl, rfl⟩)
            go_ret
            exact ⟨by rw [HF.out]; rfl, (Below.refl _ _).alloc (Nat.le_refl _) _⟩
          | true =>
            cases k6 : inB bt 0 1000 with
            | false =>
              have HF := Lib.hid (show B = false by rw [← HB.out]; simp [evB, k1, k2, k3, k4, k5, k6])
              go_wp2_with (go_at_call 42; refine (in_any _ _ _ _).mono ?_; rintro e w' ⟨rfl, rfl⟩)
              go_ret
              exact ⟨by rw [HF.out]; rfl, (Below.refl _ _).alloc (Nat.le_refl _) _⟩
            | true =>
              cases k7 : (kd == 1) with
              | false =>
                have nk7 : (kd != 1) = true := by unfold bne; rw [k7]; rfl
                cases k8 : (op == 0) with
                | false =>
                  have nk8 : (op != 0) = true := by unfold bne; rw [k8]; rfl
                  have HF := Lib.hid (show B = false by rw [← HB.out]; simp [evB, k1, k2, k3, k4, k5, k6, k7, k8])
                  go_wp2_with (go_at_call 42; refine (in_any _ _ _ _).mono ?_; rintro e w' ⟨rfl, rfl⟩)
                  go_ret
                  exact ⟨by rw [HF.out]; rfl, (Below.refl _ _).alloc (Nat.le_refl _) _⟩
                | true =>
                  have nk8 : (op != 0) = false := by unfold bne; rw [k8]; rfl
                  cases k9 : (vr == 0) with
                  | false =>
                    have nk9 : (vr != 0) = true := by unfold bne; rw [k9]; rfl
                    have HF := Lib.hid (show B = false by rw [← HB.out]; simp [evB, k1, k2, k3, k4, k5, k6, k7, k8, k9])
                    go_wp2_with (go_at_call 42; refine (in_any _ _ _ _).mono ?_; rintro e w' ⟨rfl, rfl⟩)
                    go_ret
                    exact ⟨by rw [HF.out]; rfl, (Below.refl _ _).alloc (Nat.le_refl _) _⟩
                  | true =>
                    have nk9 : (vr != 0) = false := by unfold bne; rw [k9]; rfl
                    cases k10 : (pe == 0) with
                    | false =>
                      have nk10 : (pe != 0) = true := by unfold bne; rw [k10]; rfl
                      have HF := Lib.hid (show B = false by rw [← HB.out]; simp [evB, k1, k2, k3, k4, k5, k6, k7, k8, k9, k10])
                      go_wp2_with (go_at_call 42; refine (in_any _ _ _ _).mono ?_; rintro e w' ⟨rfl, rfl⟩)
                      go_ret
                      exact ⟨by rw [HF.out]; rfl, (Below.refl _ _).alloc (Nat.le_refl _) _⟩
                    | true =>
                      have nk10 : (pe != 0) = false := by unfold bne; rw [k10]; rfl
                      cases k11 : (kd == 2) with
                      | false =>
                        have nk11 : (kd != 2) = true := by unfold bne; rw [k11]; rfl
                        cases k12 : (kd == 3) with
                        | false =>
                          have nk12 : (kd != 3) = true := by unfold bne; rw [k12]; rfl
                          cases k13 : (kd == 4) with
                          | false =>
                            have nk13 : (kd != 4) = true := by unfold bne; rw [k13]; rfl
                            cases k14 : (kd == 5) with
                            | false =>
                              have nk14 : (kd != 5) = true := by unfold bne; rw [k14]; rfl
                              cases k15 : (kd == 6) with
                              | false =>
                                have nk15 : (kd != 6) = true := by unfold bne; rw [k15]; rfl
                                cases k16 : (kd == 7) with
                                | false =>
                                  have nk16 : (kd != 7) = true := by unfold bne; rw [k16]; rfl
                                  have HF := Lib.hid (show B = false by rw [← HB.out]; simp [evB, k1, k2, k3, k4, k5, k6, k7, k8, k9, k10, k11, k12, k13, k14, k15, k16])
                                  go_wp2_with (go_at_call 42; refine (in_any _ _ _ _).mono ?_; rintro e w' ⟨rfl, rfl⟩)
                                  go_ret
                                  exact ⟨by rw [HF.out]; rfl, (Below.refl _ _).alloc (Nat.le_refl _) _⟩
                                | true =>
                                  have nk16 : (kd != 7) = false := by unfold bne; rw [k16]; rfl
                                  cases k17 : inB lk 0 9 with
                                  | false =>
                                    have HF := Lib.hid (show B = false by rw [← HB.out]; simp [evB, k1, k2, k3, k4, k5, k6, k7, k8, k9, k10, k11, k12, k13, k14, k15, k16, k17])
                                    go_wp2_with (go_at_call 42; refine (in_any _ _ _ _).mono ?_; rintro e w' ⟨rfl, rfl⟩)
                                    go_ret
                                    exact ⟨by rw [HF.out]; rfl, (Below.refl _ _).alloc (Nat.le_refl _) _⟩
                                  | true =>
                                    cases k18 : (gn == 0) with
                                    | false =>
                                      have nk18 : (gn != 0) = true := by unfold bne; rw [k18]; rfl
                                      have HF := Lib.hid (show B = false by rw [← HB.out]; simp [evB, k1, k2, k3, k4, k5, k6, k7, k8, k9, k10, k11, k12, k13, k14, k15, k16, k17, k18])
                                      go_wp2_with (go_at_call 42; refine (in_any _ _ _ _).mono ?_; rintro e w' ⟨rfl, rfl⟩)
                                      go_ret
                                      exact ⟨by rw [HF.out]; rfl, (Below.refl _ _).alloc (Nat.le_refl _) _⟩
                                    | true =>
                                      have nk18 : (gn != 0) = false := by unfold bne; rw [k18]; rfl
                                      have HF := Lib.hid (show B = true by rw [← HB.out]; simp [evB, k1, k2, k3, k4, k5, k6, k7, k8, k9, k10, k11, k12, k13, k14, k15, k16, k17, k18])
                                      go_wp2_with (go_at_call 42; refine (in_any _ _ _ _).mono ?_; rintro e w' ⟨rfl, rfl⟩)
                                      go_ret
                                      exact ⟨by rw [HF.out]; rfl, (Below.refl _ _).alloc (Nat.le_refl _) _⟩
                              | true =>
                                have nk15 : (kd != 6) = false := by unfold bne; rw [k15]; rfl
                                cases k19 : inB lk 0 99 with
                                | false =>
                                  have HF := Lib.hid (show B = false by rw [← HB.out]; simp [evB, k1, k2, k3, k4, k5, k6, k7, k8, k9, k10, k11, k12, k13, k14, k15, k19])
                                  go_wp2_with (go_at_call 42; refine (in_any _ _ _ _).mono ?_; rintro e w' ⟨rfl, rfl⟩)
                                  go_ret
                                  exact ⟨by rw [HF.out]; rfl, (Below.refl _ _).alloc (Nat.le_refl _) _⟩
                                | true =>
                                  cases k20 : inB gn 0 99 with
                                  | false =>
                                    have HF := Lib.hid (show B = false by rw [← HB.out]; simp [evB, k1, k2, k3, k4, k5, k6, k7, k8, k9, k10, k11, k12, k13, k14, k15, k19, k20])
                                    go_wp2_with (go_at_call 42; refine (in_any _ _ _ _).mono ?_; rintro e w' ⟨rfl, rfl⟩)
                                    go_ret
                                    exact ⟨by rw [HF.out]; rfl, (Below.refl _ _).alloc (Nat.le_refl _) _⟩
                                  | true =>
                                    have HF := Lib.hid (show B = true by rw [← HB.out]; simp [evB, k1, k2, k3, k4, k5, k6, k7, k8, k9, k10, k11, k12, k13, k14, k15, k19, k20])
                                    go_wp2_with (go_at_call 42; refine (in_any _ _ _ _).mono ?_; rintro e w' ⟨rfl, rfl⟩)
                                    go_ret
                                    exact ⟨by rw [HF.out]; rfl, (Below.refl _ _).alloc (Nat.le_refl _) _⟩
                            | true =>
                              have nk14 : (kd != 5) = false := by unfold bne; rw [k14]; rfl
                              cases k21 : inB lk 0 99 with
                              | false =>
                                have HF := Lib.hid (show B = false by rw [← HB.out]; simp [evB, k1, k2, k3, k4, k5, k6, k7, k8, k9, k10, k11, k12, k13, k14, k21])
                                go_wp2_with (go_at_call 42; refine (in_any _ _ _ _).mono ?_; rintro e w' ⟨rfl, rfl⟩)
                                go_ret
                                exact ⟨by rw [HF.out]; rfl, (Below.refl _ _).alloc (Nat.le_refl _) _⟩
                              | true =>
                                cases k22 : inB gn 0 99 with
                                | false =>
                                  have HF := Lib.hid (show B = false by rw [← HB.out]; simp [evB, k1, k2, k3, k4, k5, k6, k7, k8, k9, k10, k11, k12, k13, k14, k21, k22])
                                  go_wp2_with (go_at_call 42; refine (in_any _ _ _ _).mono ?_; rintro e w' ⟨rfl, rfl⟩)
                                  go_ret
                                  exact ⟨by rw [HF.out]; rfl, (Below.refl _ _).alloc (Nat.le_refl _) _⟩
                                | true =>
                                  have HF := Lib.hid (show B = true by rw [← HB.out]; simp [evB, k1, k2, k3, k4, k5, k6, k7, k8, k9, k10, k11, k12, k13, k14, k21, k22])
                                  go_wp2_with (go_at_call 42; refine (in_any _ _ _ _).mono ?_; rintro e w' ⟨rfl, rfl⟩)
                                  go_ret
                                  exact ⟨by rw [HF.out]; rfl, (Below.refl _ _).alloc (Nat.le_refl _) _⟩
                          | true =>
                            have nk13 : (kd != 4) = false := by unfold bne; rw [k13]; rfl
                            cases k23 : inB lk 0 99 with
                            | false =>
                              have HF := Lib.hid (show B = false by rw [← HB.out]; simp [evB, k1, k2, k3, k4, k5, k6, k7, k8, k9, k10, k11, k12, k13, k23])
                              go_wp2_with (go_at_call 42; refine (in_any _ _ _ _).mono ?_; rintro e w' ⟨rfl, rfl⟩)
                              go_ret
                              exact ⟨by rw [HF.out]; rfl, (Below.refl _ _).alloc (Nat.le_refl _) _⟩
                            | true =>
                              cases k24 : (gn == 0) with
                              | false =>
                                have nk24 : (gn != 0) = true := by unfold bne; rw [k24]; rfl
                                have HF := Lib.hid (show B = false by rw [← HB.out]; simp [evB, k1, k2, k3, k4, k5, k6, k7, k8, k9, k10, k11, k12, k13, k23, k24])
                                go_wp2_with (go_at_call 42; refine (in_any _ _ _ _).mono ?_; rintro e w' ⟨rfl, rfl⟩)
                                go_ret
                                exact ⟨by rw [HF.out]; rfl, (Below.refl _ _).alloc (Nat.le_refl _) _⟩
                              | true =>
                                have nk24 : (gn != 0) = false := by unfold bne; rw [k24]; rfl
                                have HF := Lib.hid (show B = true by rw [← HB.out]; simp [evB, k1, k2, k3, k4, k5, k6, k7, k8, k9, k10, k11, k12, k13, k23, k24])
                                go_wp2_with (go_at_call 42; refine (in_any _ _ _ _).mono ?_; rintro e w' ⟨rfl, rfl⟩)
                                go_ret
                                exact ⟨by rw [HF.out]; rfl, (Below.refl _ _).alloc (Nat.le_refl _) _⟩
                        | true =>
                          have nk12 : (kd != 3) = false := by unfold bne; rw [k12]; rfl
                          cases k25 : inB lk 0 99 with
                          | false =>
                            have HF := Lib.hid (show B = false by rw [← HB.out]; simp [evB, k1, k2, k3, k4, k5, k6, k7, k8, k9, k10, k11, k12, k25])
                            go_wp2_with (go_at_call 42; refine (in_any _ _ _ _).mono ?_; rintro e w' ⟨rfl, rfl⟩)
                            go_ret
                            exact ⟨by rw [HF.out]; rfl, (Below.refl _ _).alloc (Nat.le_refl _) _⟩
                          | true =>
                            cases k26 : (gn == 0) with
                            | false =>
                              have nk26 : (gn != 0) = true := by unfold bne; rw [k26]; rfl
                              have HF := Lib.hid (show B = false by rw [← HB.out]; simp [evB, k1, k2, k3, k4, k5, k6, k7, k8, k9, k10, k11, k12, k25, k26])
                              go_wp2_with (go_at_call 42; refine (in_any _ _ _ _).mono ?_; rintro e w' ⟨rfl, rfl⟩)
                              go_ret
                              exact ⟨by rw [HF.out]; rfl, (Below.refl _ _).alloc (Nat.le_refl _) _⟩
                            | true =>
                              have nk26 : (gn != 0) = false := by unfold bne; rw [k26]; rfl
                              have HF := Lib.hid (show B = true by rw [← HB.out]; simp [evB, k1, k2, k3, k4, k5, k6, k7, k8, k9, k10, k11, k12, k25, k26])
                              go_wp2_with (go_at_call 42; refine (in_any _ _ _ _).mono ?_; rintro e w' ⟨rfl, rfl⟩)
                              go_ret
                              exact ⟨by rw [HF.out]; rfl, (Below.refl _ _).alloc (Nat.le_refl _) _⟩
                      | true =>
                        have nk11 : (kd != 2) = false := by unfold bne; rw [k11]; rfl
                        cases k27 : (lk == 0) with
                        | false =>
                          have nk27 : (lk != 0) = true := by unfold bne; rw [k27]; rfl
                          have HF := Lib.hid (show B = false by rw [← HB.out]; simp [evB, k1, k2, k3, k4, k5, k6, k7, k8, k9, k10, k11, k27])
                          go_wp2_with (go_at_call 42; refine (in_any _ _ _ _).mono ?_; rintro e w' ⟨rfl, rfl⟩)
                          go_ret
                          exact ⟨by rw [HF.out]; rfl, (Below.refl _ _).alloc (Nat.le_refl _) _⟩
                        | true =>
                          have nk27 : (lk != 0) = false := by unfold bne; rw [k27]; rfl
                          cases k28 : (gn == 0) with
                          | false =>
                            have nk28 : (gn != 0) = true := by unfold bne; rw [k28]; rfl
                            have HF := Lib.hid (show B = false by rw [← HB.out]; simp [evB, k1, k2, k3, k4, k5, k6, k7, k8, k9, k10, k11, k27, k28])
                            go_wp2_with (go_at_call 42; refine (in_any _ _ _ _).mono ?_; rintro e w' ⟨rfl, rfl⟩)
                            go_ret
                            exact ⟨by rw [HF.out]; rfl, (Below.refl _ _).alloc (Nat.le_refl _) _⟩
                          | true =>
                            have nk28 : (gn != 0) = false := by unfold bne; rw [k28]; rfl
                            have HF := Lib.hid (show B = true by rw [← HB.out]; simp [evB, k1, k2, k3, k4, k5, k6, k7, k8, k9, k10, k11, k27, k28])
                            go_wp2_with (go_at_call 42; refine (in_any _ _ _ _).mono ?_; rintro e w' ⟨rfl, rfl⟩)
                            go_ret
                            exact ⟨by rw [HF.out]; rfl, (Below.refl _ _).alloc (Nat.le_refl _) _⟩
              | true =>
                have nk7 : (kd != 1) = false := by unfold bne; rw [k7]; rfl
                cases k29 : inB lk (-1) 9 with
                | false =>
                  have HF := Lib.hid (show B = false by rw [← HB.out]; simp [evB, k1, k2, k3, k4, k5, k6, k7, k29])
                  go_wp2_with (go_at_call 42; refine (in_any _ _ _ _).mono ?_; rintro e w' ⟨rfl, rfl⟩)
                  go_ret
                  exact ⟨by rw [HF.out]; rfl, (Below.refl _ _).alloc (Nat.le_refl _) _⟩
                | true =>
                  cases k30 : (lk != sp) with
                  | false =>
                    have HF := Lib.hid (show B = false by rw [← HB.out]; simp [evB, k1, k2, k3, k4, k5, k6, k7, k29, k30])
                    go_wp2_with (go_at_call 42; refine (in_any _ _ _ _).mono ?_; rintro e w' ⟨rfl, rfl⟩)
                    go_ret
                    exact ⟨by rw [HF.out]; rfl, (Below.refl _ _).alloc (Nat.le_refl _) _⟩
                  | true =>
                    cases k31 : (gn == 0) with
                    | false =>
                      have nk31 : (gn != 0) = true := by unfold bne; rw [k31]; rfl
                      have HF := Lib.hid (show B = false by rw [← HB.out]; simp [evB, k1, k2, k3, k4, k5, k6, k7, k29, k30, k31])
                      go_wp2_with (go_at_call 42; refine (in_any _ _ _ _).mono ?_; rintro e w' ⟨rfl, rfl⟩)
                      go_ret
                      exact ⟨by rw [HF.out]; rfl, (Below.refl _ _).alloc (Nat.le_refl _) _⟩
                    | true =>
                      have nk31 : (gn != 0) = false := by unfold bne; rw [k31]; rfl
                      cases k32 : inB op 0 11 with
                      | false =>
                        have HF := Lib.hid (show B = false by rw [← HB.out]; simp [evB, k1, k2, k3, k4, k5, k6, k7, k29, k30, k31, k32])
                        go_wp2_with (go_at_call 42; refine (in_any _ _ _ _).mono ?_; rintro e w' ⟨rfl, rfl⟩)
                        go_ret
                        exact ⟨by rw [HF.out]; rfl, (Below.refl _ _).alloc (Nat.le_refl _) _⟩
                      | true =>
                        cases k33 : inB vr 0 9 with
                        | false =>
                          have HF := Lib.hid (show B = false by rw [← HB.out]; simp [evB, k1, k2, k3, k4, k5, k6, k7, k29, k30, k31, k32, k33])
                          go_wp2_with (go_at_call 42; refine (in_any _ _ _ _).mono ?_; rintro e w' ⟨rfl, rfl⟩)
                          go_ret
                          exact ⟨by rw [HF.out]; rfl, (Below.refl _ _).alloc (Nat.le_refl _) _⟩
                        | true =>
                          cases k34 : inB pe (-1) 19 with
                          | false =>
                            have HF := Lib.hid (show B = false by rw [← HB.out]; simp [evB, k1, k2, k3, k4, k5, k6, k7, k29, k30, k31, k32, k33, k34])
                            go_wp2_with (go_at_call 42; refine (in_any _ _ _ _).mono ?_; rintro e w' ⟨rfl, rfl⟩)
                            go_ret
                            exact ⟨by rw [HF.out]; rfl, (Below.refl _ _).alloc (Nat.le_refl _) _⟩
                          | true =>
                            have HF := Lib.hid (show B = true by rw [← HB.out]; simp [evB, k1, k2, k3, k4, k5, k6, k7, k29, k30, k31, k32, k33, k34])
                            go_wp2_with (go_at_call 42; refine (in_any _ _ _ _).mono ?_; rintro e w' ⟨rfl, rfl⟩)
                            go_ret
                            exact ⟨by rw [HF.out]; rfl, (Below.refl _ _).alloc (Nat.le_refl _) _⟩
end Go.Proofs.YtifdcfjllonmgaaDoor
