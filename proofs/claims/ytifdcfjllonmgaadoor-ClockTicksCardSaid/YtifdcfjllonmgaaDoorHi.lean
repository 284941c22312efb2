/-
  Layer 8: the contract of the reference's follows.
-/
import Derived.Test.YtifdcfjllonmgaaDoorHe
import Derived.Deep.QuietTactic
namespace Go.Proofs.YtifdcfjllonmgaaDoor
open Go Go.Proofs Go.RowKit Go.Lib

theorem below_three8 (w : World) (o1 o2 o3 : Obj) : Below w.heap.size w (((w.alloc o1).alloc o2).alloc o3) := (((Below.refl _ _).alloc (Nat.le_refl _) _).alloc (by simp) _).alloc (by simp; omega) _
set_option maxRecDepth 100000 in
set_option maxHeartbeats 8000000 in
theorem followsR_any (v : Value) (f : Fl) (a b : Ev) (ha : a.fit) (w : World) (hf : FlAt w v f) :
    Calls Tryd.prog 46 #[v, a.val, b.val] w fun e w' => e = .returned (.tuple #[.bool (folB a b), .int .i64 (folN f.lat a b)]) ∧ Below w.heap.size w w' := by
  obtain ⟨a1, c1, a2, c2, a3, c3, rfl, _, _, _⟩ := hf
  obtain ⟨dr, lat, lia, sv, tm⟩ := f
  obtain ⟨ag1, sq1, tm1, kd1, tr1, sp1, lk1, gn1, op1, vr1, pe1, bt1⟩ := a
  obtain ⟨ag2, sq2, tm2, kd2, tr2, sp2, lk2, gn2, op2, vr2, pe2, bt2⟩ := b
  unfold Ev.val
  unfold Ev.fit at ha
  obtain ⟨ha1, ha2⟩ := ha
  dsimp only at *
  obtain ⟨B, hB⟩ : ∃ B, folB ⟨ag1, sq1, tm1, kd1, tr1, sp1, lk1, gn1, op1, vr1, pe1, bt1⟩ ⟨ag2, sq2, tm2, kd2, tr2, sp2, lk2, gn2, op2, vr2, pe2, bt2⟩ = B := ⟨_, rfl⟩
  obtain ⟨X, hX⟩ : ∃ X, folN lat ⟨ag1, sq1, tm1, kd1, tr1, sp1, lk1, gn1, op1, vr1, pe1, bt1⟩ ⟨ag2, sq2, tm2, kd2, tr2, sp2, lk2, gn2, op2, vr2, pe2, bt2⟩ = X := ⟨_, rfl⟩
  rw [hB, hX]
  have HB := Lib.hid hB
  have HX := Lib.hid hX
  clear hB hX
  go_enter Tryd.func46, Tryd.ntmps46
  by_cases hk : kd1 = 3
  · skip
    have k1 : (kd1 == 3) = true := by rw [beq_iff_eq]; exact hk
    have k2 : (kd1 == 5) = false := by rw [beq_eq_false_iff_ne]; omega
    have k3 : (kd1 == 6) = false := by rw [beq_eq_false_iff_ne]; omega
    have k4 : (kd1 == 1) = false := by rw [beq_eq_false_iff_ne]; omega
    clear hk
    cases k5 : (kd2 == 4) with
    | false =>
      have HF := Lib.hid (show B = false by rw [← HB.out]; simp [folB, k1, k2, k3, k4, k5])
      have HG := Lib.hid (show X = 0 by rw [← HX.out]; simp [folN, k1, k5])
      go_wp2_with fail
      go_ret2
      exact ⟨by rw [HF.out, HG.out]; rfl, below_three8 _ _ _ _⟩
    | true =>
      cases k6 : (lk1 == lk2) with
      | false =>
        have HF := Lib.hid (show B = false by rw [← HB.out]; simp [folB, k1, k2, k3, k4, k5, k6])
        have HG := Lib.hid (show X = 0 by rw [← HX.out]; simp [folN, k1, k5, k6])
        go_wp2_with fail
        go_ret2
        exact ⟨by rw [HF.out, HG.out]; rfl, below_three8 _ _ _ _⟩
      | true =>
        have HF := Lib.hid (show B = true by rw [← HB.out]; simp [folB, k1, k2, k3, k4, k5, k6])
        have HG := Lib.hid (show X = lat by rw [← HX.out]; simp [folN, k1, k5, k6])
        go_wp2_with fail
        go_quiet (fail)
        go_wp2_with fail
        go_ret2
        exact ⟨by rw [HF.out, HG.out]; rfl, (below_three8 _ _ _ _).trans (below_drew8 _ _ _)⟩
  · have hn3 := hk
    clear hk
    by_cases hk : kd1 = 5
    · skip
      have k7 : (kd1 == 3) = false := by rw [beq_eq_false_iff_ne]; omega
      have k8 : (kd1 == 5) = true := by rw [beq_iff_eq]; exact hk
      have k9 : (kd1 == 6) = false := by rw [beq_eq_false_iff_ne]; omega
      have k10 : (kd1 == 1) = false := by rw [beq_eq_false_iff_ne]; omega
      clear hk
      cases k11 : (kd2 == 6) with
      | false =>
        have HF := Lib.hid (show B = false by rw [← HB.out]; simp [folB, k7, k8, k9, k10, k11])
        have HG := Lib.hid (show X = 0 by rw [← HX.out]; simp [folN, k7])
        go_wp2_with fail
        go_ret2
        exact ⟨by rw [HF.out, HG.out]; rfl, below_three8 _ _ _ _⟩
      | true =>
        cases k12 : (lk1 == lk2) with
        | false =>
          have HF := Lib.hid (show B = false by rw [← HB.out]; simp [folB, k7, k8, k9, k10, k11, k12])
          have HG := Lib.hid (show X = 0 by rw [← HX.out]; simp [folN, k7])
          go_wp2_with fail
          go_ret2
          exact ⟨by rw [HF.out, HG.out]; rfl, below_three8 _ _ _ _⟩
        | true =>
          cases k13 : (gn1 == gn2) with
          | false =>
            have HF := Lib.hid (show B = false by rw [← HB.out]; simp [folB, k7, k8, k9, k10, k11, k12, k13])
            have HG := Lib.hid (show X = 0 by rw [← HX.out]; simp [folN, k7])
            go_wp2_with fail
            go_ret2
            exact ⟨by rw [HF.out, HG.out]; rfl, below_three8 _ _ _ _⟩
          | true =>
            have HF := Lib.hid (show B = true by rw [← HB.out]; simp [folB, k7, k8, k9, k10, k11, k12, k13])
            have HG := Lib.hid (show X = 0 by rw [← HX.out]; simp [folN, k7])
            go_wp2_with fail
            go_ret2
            exact ⟨by rw [HF.out, HG.out]; rfl, below_three8 _ _ _ _⟩
    · have hn5 := hk
      clear hk
      by_cases hk : kd1 = 6
      · skip
        have k14 : (kd1 == 3) = false := by rw [beq_eq_false_iff_ne]; omega
        have k15 : (kd1 == 5) = false := by rw [beq_eq_false_iff_ne]; omega
        have k16 : (kd1 == 6) = true := by rw [beq_iff_eq]; exact hk
        have k17 : (kd1 == 1) = false := by rw [beq_eq_false_iff_ne]; omega
        clear hk
        cases k18 : (kd2 == 5) with
        | false =>
          have HF := Lib.hid (show B = false by rw [← HB.out]; simp [folB, k14, k15, k16, k17, k18])
          have HG := Lib.hid (show X = 0 by rw [← HX.out]; simp [folN, k14])
          go_wp2_with fail
          go_ret2
          exact ⟨by rw [HF.out, HG.out]; rfl, below_three8 _ _ _ _⟩
        | true =>
          cases k19 : (lk1 == lk2) with
          | false =>
            have HF := Lib.hid (show B = false by rw [← HB.out]; simp [folB, k14, k15, k16, k17, k18, k19])
            have HG := Lib.hid (show X = 0 by rw [← HX.out]; simp [folN, k14])
            go_wp2_with fail
            go_ret2
            exact ⟨by rw [HF.out, HG.out]; rfl, below_three8 _ _ _ _⟩
          | true =>
            cases k20 : (gn1 + 1 == gn2) with
            | false =>
              have HF := Lib.hid (show B = false by rw [← HB.out]; simp [folB, k14, k15, k16, k17, k18, k19, k20])
              have HG := Lib.hid (show X = 0 by rw [← HX.out]; simp [folN, k14])
              go_wp2_with fail
              go_ret2
              exact ⟨by rw [HF.out, HG.out]; rfl, below_three8 _ _ _ _⟩
            | true =>
              have HF := Lib.hid (show B = true by rw [← HB.out]; simp [folB, k14, k15, k16, k17, k18, k19, k20])
              have HG := Lib.hid (show X = 0 by rw [← HX.out]; simp [folN, k14])
              go_wp2_with fail
              go_ret2
              exact ⟨by rw [HF.out, HG.out]; rfl, below_three8 _ _ _ _⟩
      · have hn6 := hk
        clear hk
        by_cases hk : kd1 = 1
        · skip
          have k21 : (kd1 == 3) = false := by rw [beq_eq_false_iff_ne]; omega
          have k22 : (kd1 == 5) = false := by rw [beq_eq_false_iff_ne]; omega
          have k23 : (kd1 == 6) = false := by rw [beq_eq_false_iff_ne]; omega
          have k24 : (kd1 == 1) = true := by rw [beq_iff_eq]; exact hk
          clear hk
          cases k25 : (kd2 == 1) with
          | false =>
            have HF := Lib.hid (show B = false by rw [← HB.out]; simp [folB, k21, k22, k23, k24, k25])
            have HG := Lib.hid (show X = 0 by rw [← HX.out]; simp [folN, k21])
            go_wp2_with fail
            go_ret2
            exact ⟨by rw [HF.out, HG.out]; rfl, below_three8 _ _ _ _⟩
          | true =>
            cases k26 : (lk2 == sp1) with
            | false =>
              have HF := Lib.hid (show B = false by rw [← HB.out]; simp [folB, k21, k22, k23, k24, k25, k26])
              have HG := Lib.hid (show X = 0 by rw [← HX.out]; simp [folN, k21])
              go_wp2_with fail
              go_ret2
              exact ⟨by rw [HF.out, HG.out]; rfl, below_three8 _ _ _ _⟩
            | true =>
              have HF := Lib.hid (show B = true by rw [← HB.out]; simp [folB, k21, k22, k23, k24, k25, k26])
              have HG := Lib.hid (show X = 0 by rw [← HX.out]; simp [folN, k21])
              go_wp2_with fail
              go_ret2
              exact ⟨by rw [HF.out, HG.out]; rfl, below_three8 _ _ _ _⟩
        · have hn1 := hk
          clear hk
          have k27 : (kd1 == 3) = false := by rw [beq_eq_false_iff_ne]; omega
          have k28 : (kd1 == 5) = false := by rw [beq_eq_false_iff_ne]; omega
          have k29 : (kd1 == 6) = false := by rw [beq_eq_false_iff_ne]; omega
          have k30 : (kd1 == 1) = false := by rw [beq_eq_false_iff_ne]; omega
          have HF := Lib.hid (show B = false by rw [← HB.out]; simp [folB, k27, k28, k29, k30])
          have HG := Lib.hid (show X = 0 by rw [← HX.out]; simp [folN, k27])
          go_wp2_with fail
          go_ret2
          exact ⟨by rw [HF.out, HG.out]; rfl, below_three8 _ _ _ _⟩
end Go.Proofs.YtifdcfjllonmgaaDoor
