/-
  Layer 8, the program: the tests of two events.
-/
import Derived.Test.YtifdcfjllonmgaaDoorNd
namespace Go.Proofs.YtifdcfjllonmgaaDoor
open Go Go.Proofs Go.RowKit Go.Lib

def lateB (a b : Ev) : Bool := a.ag == b.ag && decide (a.sq < b.sq)
def folwB (a b : Ev) : Bool := a.tr == b.tr && (decide (a.ag < b.ag) || (a.ag == b.ag && decide (a.sq < b.sq)))
def msgB (a b : Ev) : Bool := a.kd == 3 && b.kd == 4 && a.lk == b.lk
def grtB (a b : Ev) : Bool := a.lk == b.lk && ((a.kd == 5 && b.kd == 6 && a.gn == b.gn) || (a.kd == 6 && b.kd == 5 && a.gn + 1 == b.gn))
def chdB (a b : Ev) : Bool := a.kd == 1 && b.kd == 1 && a.sp == b.lk
set_option maxRecDepth 100000 in
set_option maxHeartbeats 8000000 in
theorem follows_u (a b : Ev) (w : World) : Calls Tryd.prog 49 #[a.val, b.val] w fun e w' => e = .returned (.bool (folwB a b)) ∧ Below w.heap.size w w' := by
  obtain ⟨ag1, sq1, tm1, kd1, tr1, sp1, lk1, gn1, op1, vr1, pe1, bt1⟩ := a
  obtain ⟨ag2, sq2, tm2, kd2, tr2, sp2, lk2, gn2, op2, vr2, pe2, bt2⟩ := b
  obtain ⟨R, hR⟩ : ∃ R, folwB ⟨ag1, sq1, tm1, kd1, tr1, sp1, lk1, gn1, op1, vr1, pe1, bt1⟩ ⟨ag2, sq2, tm2, kd2, tr2, sp2, lk2, gn2, op2, vr2, pe2, bt2⟩ = R := ⟨_, rfl⟩
  rw [hR]
  have HR := Lib.hid hR.symm
  unfold Ev.val
  dsimp only at *
  obtain ⟨w1, V1, Z1, K1, B1⟩ := lay8 w [.int .i64 ag1, .int .i64 sq1, .int .i64 tm1, .int .i64 kd1, .int .i64 tr1, .int .i64 sp1, .int .i64 lk1, .int .i64 gn1, .int .i64 op1, .int .i64 vr1, .int .i64 pe1, .int .i64 bt1] 46
  obtain ⟨w2, V2, Z2, K2, B2⟩ := lay8 w1 [.int .i64 ag2, .int .i64 sq2, .int .i64 tm2, .int .i64 kd2, .int .i64 tr2, .int .i64 sp2, .int .i64 lk2, .int .i64 gn2, .int .i64 op2, .int .i64 vr2, .int .i64 pe2, .int .i64 bt2] 46
  rw [Z1] at Z2 K2 B2
  have K1 := K1.up B2 (by omega)
  have HZ := Lib.hid (show Below w.heap.size w w2 from B1.trans (B2.mono (by omega)))
  have y10 := (K1 0 (by simp)).1
  have y11 := (K1 1 (by simp)).1
  have y12 := (K1 2 (by simp)).1
  have y13 := (K1 3 (by simp)).1
  have y14 := (K1 4 (by simp)).1
  have y15 := (K1 5 (by simp)).1
  have y16 := (K1 6 (by simp)).1
  have y17 := (K1 7 (by simp)).1
  have y18 := (K1 8 (by simp)).1
  have y19 := (K1 9 (by simp)).1
  have y110 := (K1 10 (by simp)).1
  have y111 := (K1 11 (by simp)).1
  have y20 := (K2 0 (by simp)).1
  have y21 := (K2 1 (by simp)).1
  have y22 := (K2 2 (by simp)).1
  have y23 := (K2 3 (by simp)).1
  have y24 := (K2 4 (by simp)).1
  have y25 := (K2 5 (by simp)).1
  have y26 := (K2 6 (by simp)).1
  have y27 := (K2 7 (by simp)).1
  have y28 := (K2 8 (by simp)).1
  have y29 := (K2 9 (by simp)).1
  have y210 := (K2 10 (by simp)).1
  have y211 := (K2 11 (by simp)).1
  simp only [List.getElem_cons_zero, List.getElem_cons_succ] at y10 y11 y12 y13 y14 y15 y16 y17 y18 y19 y110 y111 y20 y21 y22 y23 y24 y25 y26 y27 y28 y29 y210 y211
  clear hR K1 K2 B1 B2
  go_enter Tryd.func49, Tryd.ntmps49
  by_cases c1 : tr1 = tr2
  · subst c1
    by_cases c2 : ag1 < ag2
    · have Hc2 := Lib.hid c2
      have c2b : decide (ag1 < ag2) = true := decide_eq_true c2
      clear c2
      go_wp2_with fail
      go_ret
      exact ⟨by rw [HR.out]; have := Hc2.out; simp [folwB, *], HZ.out⟩
    · have Hc2 := Lib.hid c2
      have c2b : decide (ag1 < ag2) = false := decide_eq_false c2
      clear c2
      by_cases c3 : ag1 = ag2
      · subst c3
        go_wp2_with fail
        go_ret
        exact ⟨by rw [HR.out]; have := Hc2.out; simp [folwB, *], HZ.out⟩
      · have Hc3 := Lib.hid c3
        have c3b : (ag1 == ag2) = false := beq_eq_false_iff_ne.2 c3
        clear c3
        go_wp2_with fail
        go_ret
        exact ⟨by rw [HR.out]; have := Hc2.out; have := Hc3.out; simp [folwB, *], HZ.out⟩
  · have Hc1 := Lib.hid c1
    have c1b : (tr1 == tr2) = false := beq_eq_false_iff_ne.2 c1
    clear c1
    go_wp2_with fail
    go_ret
    exact ⟨by rw [HR.out]; have := Hc1.out; simp [folwB, *], HZ.out⟩
set_option maxRecDepth 100000 in
set_option maxHeartbeats 8000000 in
theorem isLater_u (a b : Ev) (w : World) : Calls Tryd.prog 66 #[a.val, b.val] w fun e w' => e = .returned (.bool (lateB a b)) ∧ Below w.heap.size w w' := by
  obtain ⟨ag1, sq1, tm1, kd1, tr1, sp1, lk1, gn1, op1, vr1, pe1, bt1⟩ := a
  obtain ⟨ag2, sq2, tm2, kd2, tr2, sp2, lk2, gn2, op2, vr2, pe2, bt2⟩ := b
  obtain ⟨R, hR⟩ : ∃ R, lateB ⟨ag1, sq1, tm1, kd1, tr1, sp1, lk1, gn1, op1, vr1, pe1, bt1⟩ ⟨ag2, sq2, tm2, kd2, tr2, sp2, lk2, gn2, op2, vr2, pe2, bt2⟩ = R := ⟨_, rfl⟩
  rw [hR]
  have HR := Lib.hid hR.symm
  unfold Ev.val
  dsimp only at *
  obtain ⟨w1, V1, Z1, K1, B1⟩ := lay8 w [.int .i64 ag1, .int .i64 sq1, .int .i64 tm1, .int .i64 kd1, .int .i64 tr1, .int .i64 sp1, .int .i64 lk1, .int .i64 gn1, .int .i64 op1, .int .i64 vr1, .int .i64 pe1, .int .i64 bt1] 46
  obtain ⟨w2, V2, Z2, K2, B2⟩ := lay8 w1 [.int .i64 ag2, .int .i64 sq2, .int .i64 tm2, .int .i64 kd2, .int .i64 tr2, .int .i64 sp2, .int .i64 lk2, .int .i64 gn2, .int .i64 op2, .int .i64 vr2, .int .i64 pe2, .int .i64 bt2] 46
  rw [Z1] at Z2 K2 B2
  have K1 := K1.up B2 (by omega)
  have HZ := Lib.hid (show Below w.heap.size w w2 from B1.trans (B2.mono (by omega)))
  have y10 := (K1 0 (by simp)).1
  have y11 := (K1 1 (by simp)).1
  have y12 := (K1 2 (by simp)).1
  have y13 := (K1 3 (by simp)).1
  have y14 := (K1 4 (by simp)).1
  have y15 := (K1 5 (by simp)).1
  have y16 := (K1 6 (by simp)).1
  have y17 := (K1 7 (by simp)).1
  have y18 := (K1 8 (by simp)).1
  have y19 := (K1 9 (by simp)).1
  have y110 := (K1 10 (by simp)).1
  have y111 := (K1 11 (by simp)).1
  have y20 := (K2 0 (by simp)).1
  have y21 := (K2 1 (by simp)).1
  have y22 := (K2 2 (by simp)).1
  have y23 := (K2 3 (by simp)).1
  have y24 := (K2 4 (by simp)).1
  have y25 := (K2 5 (by simp)).1
  have y26 := (K2 6 (by simp)).1
  have y27 := (K2 7 (by simp)).1
  have y28 := (K2 8 (by simp)).1
  have y29 := (K2 9 (by simp)).1
  have y210 := (K2 10 (by simp)).1
  have y211 := (K2 11 (by simp)).1
  simp only [List.getElem_cons_zero, List.getElem_cons_succ] at y10 y11 y12 y13 y14 y15 y16 y17 y18 y19 y110 y111 y20 y21 y22 y23 y24 y25 y26 y27 y28 y29 y210 y211
  clear hR K1 K2 B1 B2
  go_enter Tryd.func66, Tryd.ntmps66
  by_cases c1 : ag1 = ag2
  · subst c1
    go_wp2_with fail
    go_ret
    exact ⟨by rw [HR.out]; simp [lateB, *], HZ.out⟩
  · have Hc1 := Lib.hid c1
    have c1b : (ag1 == ag2) = false := beq_eq_false_iff_ne.2 c1
    clear c1
    go_wp2_with fail
    go_ret
    exact ⟨by rw [HR.out]; have := Hc1.out; simp [lateB, *], HZ.out⟩
set_option maxRecDepth 100000 in
set_option maxHeartbeats 8000000 in
theorem isMessage_u (a b : Ev) (w : World) : Calls Tryd.prog 69 #[a.val, b.val] w fun e w' => e = .returned (.bool (msgB a b)) ∧ Below w.heap.size w w' := by
  obtain ⟨ag1, sq1, tm1, kd1, tr1, sp1, lk1, gn1, op1, vr1, pe1, bt1⟩ := a
  obtain ⟨ag2, sq2, tm2, kd2, tr2, sp2, lk2, gn2, op2, vr2, pe2, bt2⟩ := b
  obtain ⟨R, hR⟩ : ∃ R, msgB ⟨ag1, sq1, tm1, kd1, tr1, sp1, lk1, gn1, op1, vr1, pe1, bt1⟩ ⟨ag2, sq2, tm2, kd2, tr2, sp2, lk2, gn2, op2, vr2, pe2, bt2⟩ = R := ⟨_, rfl⟩
  rw [hR]
  have HR := Lib.hid hR.symm
  unfold Ev.val
  dsimp only at *
  obtain ⟨w1, V1, Z1, K1, B1⟩ := lay8 w [.int .i64 ag1, .int .i64 sq1, .int .i64 tm1, .int .i64 kd1, .int .i64 tr1, .int .i64 sp1, .int .i64 lk1, .int .i64 gn1, .int .i64 op1, .int .i64 vr1, .int .i64 pe1, .int .i64 bt1] 46
  obtain ⟨w2, V2, Z2, K2, B2⟩ := lay8 w1 [.int .i64 ag2, .int .i64 sq2, .int .i64 tm2, .int .i64 kd2, .int .i64 tr2, .int .i64 sp2, .int .i64 lk2, .int .i64 gn2, .int .i64 op2, .int .i64 vr2, .int .i64 pe2, .int .i64 bt2] 46
  rw [Z1] at Z2 K2 B2
  have K1 := K1.up B2 (by omega)
  have HZ := Lib.hid (show Below w.heap.size w w2 from B1.trans (B2.mono (by omega)))
  have y10 := (K1 0 (by simp)).1
  have y11 := (K1 1 (by simp)).1
  have y12 := (K1 2 (by simp)).1
  have y13 := (K1 3 (by simp)).1
  have y14 := (K1 4 (by simp)).1
  have y15 := (K1 5 (by simp)).1
  have y16 := (K1 6 (by simp)).1
  have y17 := (K1 7 (by simp)).1
  have y18 := (K1 8 (by simp)).1
  have y19 := (K1 9 (by simp)).1
  have y110 := (K1 10 (by simp)).1
  have y111 := (K1 11 (by simp)).1
  have y20 := (K2 0 (by simp)).1
  have y21 := (K2 1 (by simp)).1
  have y22 := (K2 2 (by simp)).1
  have y23 := (K2 3 (by simp)).1
  have y24 := (K2 4 (by simp)).1
  have y25 := (K2 5 (by simp)).1
  have y26 := (K2 6 (by simp)).1
  have y27 := (K2 7 (by simp)).1
  have y28 := (K2 8 (by simp)).1
  have y29 := (K2 9 (by simp)).1
  have y210 := (K2 10 (by simp)).1
  have y211 := (K2 11 (by simp)).1
  simp only [List.getElem_cons_zero, List.getElem_cons_succ] at y10 y11 y12 y13 y14 y15 y16 y17 y18 y19 y110 y111 y20 y21 y22 y23 y24 y25 y26 y27 y28 y29 y210 y211
  clear hR K1 K2 B1 B2
  go_enter Tryd.func69, Tryd.ntmps69
  by_cases c1 : kd1 = 3
  · subst c1
    by_cases c2 : kd2 = 4
    · subst c2
      go_wp2_with fail
      go_ret
      exact ⟨by rw [HR.out]; simp [msgB, *], HZ.out⟩
    · have Hc2 := Lib.hid c2
      have c2b : (kd2 == 4) = false := beq_eq_false_iff_ne.2 c2
      clear c2
      go_wp2_with fail
      go_ret
      exact ⟨by rw [HR.out]; have := Hc2.out; simp [msgB, *], HZ.out⟩
  · have Hc1 := Lib.hid c1
    have c1b : (kd1 == 3) = false := beq_eq_false_iff_ne.2 c1
    clear c1
    go_wp2_with fail
    go_ret
    exact ⟨by rw [HR.out]; have := Hc1.out; simp [msgB, *], HZ.out⟩
set_option maxRecDepth 100000 in
set_option maxHeartbeats 8000000 in
theorem isChild_u (a b : Ev) (w : World) : Calls Tryd.prog 72 #[a.val, b.val] w fun e w' => e = .returned (.bool (chdB a b)) ∧ Below w.heap.size w w' := by
  obtain ⟨ag1, sq1, tm1, kd1, tr1, sp1, lk1, gn1, op1, vr1, pe1, bt1⟩ := a
  obtain ⟨ag2, sq2, tm2, kd2, tr2, sp2, lk2, gn2, op2, vr2, pe2, bt2⟩ := b
  obtain ⟨R, hR⟩ : ∃ R, chdB ⟨ag1, sq1, tm1, kd1, tr1, sp1, lk1, gn1, op1, vr1, pe1, bt1⟩ ⟨ag2, sq2, tm2, kd2, tr2, sp2, lk2, gn2, op2, vr2, pe2, bt2⟩ = R := ⟨_, rfl⟩
  rw [hR]
  have HR := Lib.hid hR.symm
  unfold Ev.val
  dsimp only at *
  obtain ⟨w1, V1, Z1, K1, B1⟩ := lay8 w [.int .i64 ag1, .int .i64 sq1, .int .i64 tm1, .int .i64 kd1, .int .i64 tr1, .int .i64 sp1, .int .i64 lk1, .int .i64 gn1, .int .i64 op1, .int .i64 vr1, .int .i64 pe1, .int .i64 bt1] 46
  obtain ⟨w2, V2, Z2, K2, B2⟩ := lay8 w1 [.int .i64 ag2, .int .i64 sq2, .int .i64 tm2, .int .i64 kd2, .int .i64 tr2, .int .i64 sp2, .int .i64 lk2, .int .i64 gn2, .int .i64 op2, .int .i64 vr2, .int .i64 pe2, .int .i64 bt2] 46
  rw [Z1] at Z2 K2 B2
  have K1 := K1.up B2 (by omega)
  have HZ := Lib.hid (show Below w.heap.size w w2 from B1.trans (B2.mono (by omega)))
  have y10 := (K1 0 (by simp)).1
  have y11 := (K1 1 (by simp)).1
  have y12 := (K1 2 (by simp)).1
  have y13 := (K1 3 (by simp)).1
  have y14 := (K1 4 (by simp)).1
  have y15 := (K1 5 (by simp)).1
  have y16 := (K1 6 (by simp)).1
  have y17 := (K1 7 (by simp)).1
  have y18 := (K1 8 (by simp)).1
  have y19 := (K1 9 (by simp)).1
  have y110 := (K1 10 (by simp)).1
  have y111 := (K1 11 (by simp)).1
  have y20 := (K2 0 (by simp)).1
  have y21 := (K2 1 (by simp)).1
  have y22 := (K2 2 (by simp)).1
  have y23 := (K2 3 (by simp)).1
  have y24 := (K2 4 (by simp)).1
  have y25 := (K2 5 (by simp)).1
  have y26 := (K2 6 (by simp)).1
  have y27 := (K2 7 (by simp)).1
  have y28 := (K2 8 (by simp)).1
  have y29 := (K2 9 (by simp)).1
  have y210 := (K2 10 (by simp)).1
  have y211 := (K2 11 (by simp)).1
  simp only [List.getElem_cons_zero, List.getElem_cons_succ] at y10 y11 y12 y13 y14 y15 y16 y17 y18 y19 y110 y111 y20 y21 y22 y23 y24 y25 y26 y27 y28 y29 y210 y211
  clear hR K1 K2 B1 B2
  go_enter Tryd.func72, Tryd.ntmps72
  by_cases c1 : kd1 = 1
  · subst c1
    by_cases c2 : kd2 = 1
    · subst c2
      go_wp2_with fail
      go_ret
      exact ⟨by rw [HR.out]; simp [chdB, *], HZ.out⟩
    · have Hc2 := Lib.hid c2
      have c2b : (kd2 == 1) = false := beq_eq_false_iff_ne.2 c2
      clear c2
      go_wp2_with fail
      go_ret
      exact ⟨by rw [HR.out]; have := Hc2.out; simp [chdB, *], HZ.out⟩
  · have Hc1 := Lib.hid c1
    have c1b : (kd1 == 1) = false := beq_eq_false_iff_ne.2 c1
    clear c1
    go_wp2_with fail
    go_ret
    exact ⟨by rw [HR.out]; have := Hc1.out; simp [chdB, *], HZ.out⟩
set_option maxRecDepth 100000 in
set_option maxHeartbeats 8000000 in
theorem isGrant_u (a b : Ev) (h0 : -1000 ≤ a.gn) (h1 : a.gn ≤ 1000) (w : World) : Calls Tryd.prog 71 #[a.val, b.val] w fun e w' => e = .returned (.bool (grtB a b)) ∧ Below w.heap.size w w' := by
  obtain ⟨ag1, sq1, tm1, kd1, tr1, sp1, lk1, gn1, op1, vr1, pe1, bt1⟩ := a
  obtain ⟨ag2, sq2, tm2, kd2, tr2, sp2, lk2, gn2, op2, vr2, pe2, bt2⟩ := b
  obtain ⟨R, hR⟩ : ∃ R, grtB ⟨ag1, sq1, tm1, kd1, tr1, sp1, lk1, gn1, op1, vr1, pe1, bt1⟩ ⟨ag2, sq2, tm2, kd2, tr2, sp2, lk2, gn2, op2, vr2, pe2, bt2⟩ = R := ⟨_, rfl⟩
  rw [hR]
  have HR := Lib.hid hR.symm
  unfold Ev.val
  dsimp only at *
  obtain ⟨w1, V1, Z1, K1, B1⟩ := lay8 w [.int .i64 ag1, .int .i64 sq1, .int .i64 tm1, .int .i64 kd1, .int .i64 tr1, .int .i64 sp1, .int .i64 lk1, .int .i64 gn1, .int .i64 op1, .int .i64 vr1, .int .i64 pe1, .int .i64 bt1] 46
  obtain ⟨w2, V2, Z2, K2, B2⟩ := lay8 w1 [.int .i64 ag2, .int .i64 sq2, .int .i64 tm2, .int .i64 kd2, .int .i64 tr2, .int .i64 sp2, .int .i64 lk2, .int .i64 gn2, .int .i64 op2, .int .i64 vr2, .int .i64 pe2, .int .i64 bt2] 46
  rw [Z1] at Z2 K2 B2
  have K1 := K1.up B2 (by omega)
  have HZ := Lib.hid (show Below w.heap.size w w2 from B1.trans (B2.mono (by omega)))
  have y10 := (K1 0 (by simp)).1
  have y11 := (K1 1 (by simp)).1
  have y12 := (K1 2 (by simp)).1
  have y13 := (K1 3 (by simp)).1
  have y14 := (K1 4 (by simp)).1
  have y15 := (K1 5 (by simp)).1
  have y16 := (K1 6 (by simp)).1
  have y17 := (K1 7 (by simp)).1
  have y18 := (K1 8 (by simp)).1
  have y19 := (K1 9 (by simp)).1
  have y110 := (K1 10 (by simp)).1
  have y111 := (K1 11 (by simp)).1
  have y20 := (K2 0 (by simp)).1
  have y21 := (K2 1 (by simp)).1
  have y22 := (K2 2 (by simp)).1
  have y23 := (K2 3 (by simp)).1
  have y24 := (K2 4 (by simp)).1
  have y25 := (K2 5 (by simp)).1
  have y26 := (K2 6 (by simp)).1
  have y27 := (K2 7 (by simp)).1
  have y28 := (K2 8 (by simp)).1
  have y29 := (K2 9 (by simp)).1
  have y210 := (K2 10 (by simp)).1
  have y211 := (K2 11 (by simp)).1
  simp only [List.getElem_cons_zero, List.getElem_cons_succ] at y10 y11 y12 y13 y14 y15 y16 y17 y18 y19 y110 y111 y20 y21 y22 y23 y24 y25 y26 y27 y28 y29 y210 y211
  have hw : IntKind.i64.wrap (gn1 + 1) = gn1 + 1 := IntWalk.i64_in _ (by omega)
  clear hR K1 K2 B1 B2
  go_enter Tryd.func71, Tryd.ntmps71
  by_cases c1 : lk1 = lk2
  · subst c1
    by_cases c2 : kd1 = 5
    · subst c2
      by_cases c3 : kd2 = 6
      · subst c3
        by_cases c4 : gn1 = gn2
        · subst c4
          go_wp2_with fail
          go_ret
          exact ⟨by rw [HR.out]; simp [grtB, *], HZ.out⟩
        · have Hc4 := Lib.hid c4
          have c4b : (gn1 == gn2) = false := beq_eq_false_iff_ne.2 c4
          clear c4
          go_wp2_with fail
          go_ret
          exact ⟨by rw [HR.out]; have := Hc4.out; simp [grtB, *], HZ.out⟩
      · have Hc3 := Lib.hid c3
        have c3b : (kd2 == 6) = false := beq_eq_false_iff_ne.2 c3
        clear c3
        go_wp2_with fail
        go_ret
        exact ⟨by rw [HR.out]; have := Hc3.out; simp [grtB, *], HZ.out⟩
    · have Hc2 := Lib.hid c2
      have c2b : (kd1 == 5) = false := beq_eq_false_iff_ne.2 c2
      clear c2
      by_cases c5 : kd1 = 6
      · subst c5
        by_cases c6 : kd2 = 5
        · subst c6
          by_cases c7 : gn1 + 1 = gn2
          · subst c7
            go_wp2_with fail
            go_ret
            exact ⟨by rw [HR.out]; have := Hc2.out; simp [grtB, *], HZ.out⟩
          · have Hc7 := Lib.hid c7
            have c7b : (gn1 + 1 == gn2) = false := beq_eq_false_iff_ne.2 c7
            clear c7
            go_wp2_with fail
            go_ret
            exact ⟨by rw [HR.out]; have := Hc2.out; have := Hc7.out; simp [grtB, *], HZ.out⟩
        · have Hc6 := Lib.hid c6
          have c6b : (kd2 == 5) = false := beq_eq_false_iff_ne.2 c6
          clear c6
          go_wp2_with fail
          go_ret
          exact ⟨by rw [HR.out]; have := Hc2.out; have := Hc6.out; simp [grtB, *], HZ.out⟩
      · have Hc5 := Lib.hid c5
        have c5b : (kd1 == 6) = false := beq_eq_false_iff_ne.2 c5
        clear c5
        go_wp2_with fail
        go_ret
        exact ⟨by rw [HR.out]; have := Hc2.out; have := Hc5.out; simp [grtB, *], HZ.out⟩
  · have Hc1 := Lib.hid c1
    have c1b : (lk1 == lk2) = false := beq_eq_false_iff_ne.2 c1
    clear c1
    by_cases c8 : kd1 = 5
    · subst c8
      by_cases c9 : kd2 = 6
      · subst c9
        by_cases c10 : gn1 = gn2
        · subst c10
          go_wp2_with fail
          go_ret
          exact ⟨by rw [HR.out]; have := Hc1.out; simp [grtB, *], HZ.out⟩
        · have Hc10 := Lib.hid c10
          have c10b : (gn1 == gn2) = false := beq_eq_false_iff_ne.2 c10
          clear c10
          go_wp2_with fail
          go_ret
          exact ⟨by rw [HR.out]; have := Hc1.out; have := Hc10.out; simp [grtB, *], HZ.out⟩
      · have Hc9 := Lib.hid c9
        have c9b : (kd2 == 6) = false := beq_eq_false_iff_ne.2 c9
        clear c9
        go_wp2_with fail
        go_ret
        exact ⟨by rw [HR.out]; have := Hc1.out; have := Hc9.out; simp [grtB, *], HZ.out⟩
    · have Hc8 := Lib.hid c8
      have c8b : (kd1 == 5) = false := beq_eq_false_iff_ne.2 c8
      clear c8
      by_cases c11 : kd1 = 6
      · subst c11
        by_cases c12 : kd2 = 5
        · subst c12
          by_cases c13 : gn1 + 1 = gn2
          · subst c13
            go_wp2_with fail
            go_ret
            exact ⟨by rw [HR.out]; have := Hc1.out; have := Hc8.out; simp [grtB, *], HZ.out⟩
          · have Hc13 := Lib.hid c13
            have c13b : (gn1 + 1 == gn2) = false := beq_eq_false_iff_ne.2 c13
            clear c13
            go_wp2_with fail
            go_ret
            exact ⟨by rw [HR.out]; have := Hc1.out; have := Hc8.out; have := Hc13.out; simp [grtB, *], HZ.out⟩
        · have Hc12 := Lib.hid c12
          have c12b : (kd2 == 5) = false := beq_eq_false_iff_ne.2 c12
          clear c12
          go_wp2_with fail
          go_ret
          exact ⟨by rw [HR.out]; have := Hc1.out; have := Hc8.out; have := Hc12.out; simp [grtB, *], HZ.out⟩
      · have Hc11 := Lib.hid c11
        have c11b : (kd1 == 6) = false := beq_eq_false_iff_ne.2 c11
        clear c11
        go_wp2_with fail
        go_ret
        exact ⟨by rw [HR.out]; have := Hc1.out; have := Hc8.out; have := Hc11.out; simp [grtB, *], HZ.out⟩
end Go.Proofs.YtifdcfjllonmgaaDoor
