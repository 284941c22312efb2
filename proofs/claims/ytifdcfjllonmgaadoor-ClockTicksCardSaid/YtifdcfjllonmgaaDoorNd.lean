/-
  Layer 8, the program: linked, its closure, isBegin.
-/
import Derived.Test.YtifdcfjllonmgaaDoorNb
namespace Go.Proofs.YtifdcfjllonmgaaDoor
open Go Go.Proofs Go.RowKit Go.Lib

theorem linked_u (ml mn : Int) (w : World) : Calls Tryd.prog 74 #[.int .i64 ml, .int .i64 mn] w fun e w' => e = .returned (.func (.func 81) #[] #[.pointer (some ⟨w.heap.size, 0, none⟩), .pointer (some ⟨w.heap.size + 1, 0, none⟩)]) ∧ (w.alloc (.cells #[.int .i64 ml] 3)).alloc (.cells #[.int .i64 mn] 3) = w' := by
  go_enter Tryd.func74, Tryd.ntmps74
  go_wp2
  go_ret
  exact ⟨rfl, rfl⟩
set_option maxRecDepth 100000 in
set_option maxHeartbeats 8000000 in
theorem linked1_u (x : Ev) (ml mn : Int) (A B : Nat) (w : World) (hA : w.cell? ⟨A, 0, none⟩ = some (.int .i64 ml)) (hB : w.cell? ⟨B, 0, none⟩ = some (.int .i64 mn)) : Calls Tryd.prog 81 #[x.val, .pointer (some ⟨A, 0, none⟩), .pointer (some ⟨B, 0, none⟩)] w fun e w' => e = .returned (.bool (linkB ml mn x)) ∧ Below w.heap.size w w' := by
  obtain ⟨ag, sq, tm, kd, tr, sp, lk, gn, op, vr, pe, bt⟩ := x
  obtain ⟨R, hR⟩ : ∃ R, linkB ml mn ⟨ag, sq, tm, kd, tr, sp, lk, gn, op, vr, pe, bt⟩ = R := ⟨_, rfl⟩
  rw [hR]
  have HR := Lib.hid hR.symm
  unfold Ev.val
  dsimp only
  obtain ⟨w1, V1, Z1, K1, B1⟩ := lay8 w [.int .i64 ag, .int .i64 sq, .int .i64 tm, .int .i64 kd, .int .i64 tr, .int .i64 sp, .int .i64 lk, .int .i64 gn, .int .i64 op, .int .i64 vr, .int .i64 pe, .int .i64 bt] 46
  have HZ := Lib.hid B1
  have y0 := (K1 0 (by simp)).1
  have y1 := (K1 1 (by simp)).1
  have y2 := (K1 2 (by simp)).1
  have y3 := (K1 3 (by simp)).1
  have y4 := (K1 4 (by simp)).1
  have y5 := (K1 5 (by simp)).1
  have y6 := (K1 6 (by simp)).1
  have y7 := (K1 7 (by simp)).1
  have y8 := (K1 8 (by simp)).1
  have y9 := (K1 9 (by simp)).1
  have y10 := (K1 10 (by simp)).1
  have y11 := (K1 11 (by simp)).1
  simp only [List.getElem_cons_zero, List.getElem_cons_succ] at y0 y1 y2 y3 y4 y5 y6 y7 y8 y9 y10 y11
  have hA1 := (B1.cell (p := ⟨A, 0, none⟩) (World.block_lt_of_cell? w ⟨A, 0, none⟩ hA)).trans hA
  have hB1 := (B1.cell (p := ⟨B, 0, none⟩) (World.block_lt_of_cell? w ⟨B, 0, none⟩ hB)).trans hB
  clear hA hB
  clear hR K1 B1
  have C0 := Lib.hid (fun W => isIn_u lk 0 ml W)
  obtain ⟨b1, hb1⟩ : ∃ q, inB lk 0 ml = q := ⟨_, rfl⟩
  rw [hb1] at C0
  have Hb1 := Lib.hid hb1
  clear hb1
  have C1 := Lib.hid (fun W => isIn_u gn 0 mn W)
  obtain ⟨b2, hb2⟩ : ∃ q, inB gn 0 mn = q := ⟨_, rfl⟩
  rw [hb2] at C1
  have Hb2 := Lib.hid hb2
  clear hb2
  go_enter Tryd.func81, Tryd.ntmps81
  cases b1 with
  | false =>
    go_wp2_with (first | (go_at_call 40; (first | (with_reducible refine (C0.out _).mono ?_) | (with_reducible refine (C1.out _).mono ?_)); rintro e z ⟨rfl, rfl⟩))
    go_ret
    exact ⟨by rw [HR.out]; simp [linkB, Hb1.out], HZ.out⟩
  | true =>
    cases b2 with
    | false =>
      go_wp2_with (first | (go_at_call 40; (first | (with_reducible refine (C0.out _).mono ?_) | (with_reducible refine (C1.out _).mono ?_)); rintro e z ⟨rfl, rfl⟩))
      go_ret
      exact ⟨by rw [HR.out]; simp [linkB, Hb2.out], HZ.out⟩
    | true =>
      by_cases eop : op = 0
      · subst eop
        by_cases evr : vr = 0
        · subst evr
          by_cases epe : pe = 0
          · subst epe
            go_wp2_with (first | (go_at_call 40; (first | (with_reducible refine (C0.out _).mono ?_) | (with_reducible refine (C1.out _).mono ?_)); rintro e z ⟨rfl, rfl⟩))
            go_ret
            exact ⟨by rw [HR.out]; simp [linkB, Hb1.out, Hb2.out], HZ.out⟩
          · have Epe := Lib.hid epe
            have epe2 : (pe == 0) = false := beq_eq_false_iff_ne.2 epe
            go_wp2_with (first | (go_at_call 40; (first | (with_reducible refine (C0.out _).mono ?_) | (with_reducible refine (C1.out _).mono ?_)); rintro e z ⟨rfl, rfl⟩))
            go_ret
            exact ⟨by rw [HR.out]; simp [linkB, Epe.out], HZ.out⟩
        · have Evr := Lib.hid evr
          have evr2 : (vr == 0) = false := beq_eq_false_iff_ne.2 evr
          go_wp2_with (first | (go_at_call 40; (first | (with_reducible refine (C0.out _).mono ?_) | (with_reducible refine (C1.out _).mono ?_)); rintro e z ⟨rfl, rfl⟩))
          go_ret
          exact ⟨by rw [HR.out]; simp [linkB, Evr.out], HZ.out⟩
      · have Eop := Lib.hid eop
        have eop2 : (op == 0) = false := beq_eq_false_iff_ne.2 eop
        go_wp2_with (first | (go_at_call 40; (first | (with_reducible refine (C0.out _).mono ?_) | (with_reducible refine (C1.out _).mono ?_)); rintro e z ⟨rfl, rfl⟩))
        go_ret
        exact ⟨by rw [HR.out]; simp [linkB, Eop.out], HZ.out⟩
set_option maxRecDepth 100000 in
set_option maxHeartbeats 8000000 in
theorem isBegin_u (x : Ev) (w : World) : Calls Tryd.prog 73 #[x.val] w fun e w' => e = .returned (.bool (begB x)) ∧ Below w.heap.size w w' := by
  obtain ⟨ag, sq, tm, kd, tr, sp, lk, gn, op, vr, pe, bt⟩ := x
  obtain ⟨R, hR⟩ : ∃ R, begB ⟨ag, sq, tm, kd, tr, sp, lk, gn, op, vr, pe, bt⟩ = R := ⟨_, rfl⟩
  rw [hR]
  have HR := Lib.hid hR.symm
  unfold Ev.val
  dsimp only
  obtain ⟨w1, V1, Z1, K1, B1⟩ := lay8 w [.int .i64 ag, .int .i64 sq, .int .i64 tm, .int .i64 kd, .int .i64 tr, .int .i64 sp, .int .i64 lk, .int .i64 gn, .int .i64 op, .int .i64 vr, .int .i64 pe, .int .i64 bt] 46
  have HZ := Lib.hid B1
  have y0 := (K1 0 (by simp)).1
  have y1 := (K1 1 (by simp)).1
  have y2 := (K1 2 (by simp)).1
  have y3 := (K1 3 (by simp)).1
  have y4 := (K1 4 (by simp)).1
  have y5 := (K1 5 (by simp)).1
  have y6 := (K1 6 (by simp)).1
  have y7 := (K1 7 (by simp)).1
  have y8 := (K1 8 (by simp)).1
  have y9 := (K1 9 (by simp)).1
  have y10 := (K1 10 (by simp)).1
  have y11 := (K1 11 (by simp)).1
  simp only [List.getElem_cons_zero, List.getElem_cons_succ] at y0 y1 y2 y3 y4 y5 y6 y7 y8 y9 y10 y11
  clear hR K1 B1
  have C0 := Lib.hid (fun W => isIn_u lk (-1) 9 W)
  obtain ⟨b1, hb1⟩ : ∃ q, inB lk (-1) 9 = q := ⟨_, rfl⟩
  rw [hb1] at C0
  have Hb1 := Lib.hid hb1
  clear hb1
  have C1 := Lib.hid (fun W => isIn_u op 0 11 W)
  obtain ⟨b2, hb2⟩ : ∃ q, inB op 0 11 = q := ⟨_, rfl⟩
  rw [hb2] at C1
  have Hb2 := Lib.hid hb2
  clear hb2
  have C2 := Lib.hid (fun W => isIn_u vr 0 9 W)
  obtain ⟨b3, hb3⟩ : ∃ q, inB vr 0 9 = q := ⟨_, rfl⟩
  rw [hb3] at C2
  have Hb3 := Lib.hid hb3
  clear hb3
  have C3 := Lib.hid (fun W => isIn_u pe (-1) 19 W)
  obtain ⟨b4, hb4⟩ : ∃ q, inB pe (-1) 19 = q := ⟨_, rfl⟩
  rw [hb4] at C3
  have Hb4 := Lib.hid hb4
  clear hb4
  go_enter Tryd.func73, Tryd.ntmps73
  cases b1 with
  | false =>
    go_wp2_with (first | (go_at_call 40; (first | (with_reducible refine (C0.out _).mono ?_) | (with_reducible refine (C1.out _).mono ?_) | (with_reducible refine (C2.out _).mono ?_) | (with_reducible refine (C3.out _).mono ?_)); rintro e z ⟨rfl, rfl⟩))
    go_ret
    exact ⟨by rw [HR.out]; simp [begB, Hb1.out], HZ.out⟩
  | true =>
    by_cases els : lk = sp
    · subst els
      go_wp2_with (first | (go_at_call 40; (first | (with_reducible refine (C0.out _).mono ?_) | (with_reducible refine (C1.out _).mono ?_) | (with_reducible refine (C2.out _).mono ?_) | (with_reducible refine (C3.out _).mono ?_)); rintro e z ⟨rfl, rfl⟩))
      go_ret
      exact ⟨by rw [HR.out]; simp [begB], HZ.out⟩
    · have els2 : (lk == sp) = false := beq_eq_false_iff_ne.2 els
      by_cases egn : gn = 0
      · subst egn
        cases b2 with
        | false =>
          go_wp2_with (first | (go_at_call 40; (first | (with_reducible refine (C0.out _).mono ?_) | (with_reducible refine (C1.out _).mono ?_) | (with_reducible refine (C2.out _).mono ?_) | (with_reducible refine (C3.out _).mono ?_)); rintro e z ⟨rfl, rfl⟩))
          go_ret
          exact ⟨by rw [HR.out]; simp [begB, Hb2.out], HZ.out⟩
        | true =>
          cases b3 with
          | false =>
            go_wp2_with (first | (go_at_call 40; (first | (with_reducible refine (C0.out _).mono ?_) | (with_reducible refine (C1.out _).mono ?_) | (with_reducible refine (C2.out _).mono ?_) | (with_reducible refine (C3.out _).mono ?_)); rintro e z ⟨rfl, rfl⟩))
            go_ret
            exact ⟨by rw [HR.out]; simp [begB, Hb3.out], HZ.out⟩
          | true =>
            cases b4 with
            | false =>
              go_wp2_with (first | (go_at_call 40; (first | (with_reducible refine (C0.out _).mono ?_) | (with_reducible refine (C1.out _).mono ?_) | (with_reducible refine (C2.out _).mono ?_) | (with_reducible refine (C3.out _).mono ?_)); rintro e z ⟨rfl, rfl⟩))
              go_ret
              exact ⟨by rw [HR.out]; simp [begB, Hb4.out], HZ.out⟩
            | true =>
              go_wp2_with (first | (go_at_call 40; (first | (with_reducible refine (C0.out _).mono ?_) | (with_reducible refine (C1.out _).mono ?_) | (with_reducible refine (C2.out _).mono ?_) | (with_reducible refine (C3.out _).mono ?_)); rintro e z ⟨rfl, rfl⟩))
              go_ret
              exact ⟨by rw [HR.out]; simp [begB, Hb1.out, Hb2.out, Hb3.out, Hb4.out], HZ.out⟩
      · have Egn := Lib.hid egn
        have egn2 : (gn == 0) = false := beq_eq_false_iff_ne.2 egn
        go_wp2_with (first | (go_at_call 40; (first | (with_reducible refine (C0.out _).mono ?_) | (with_reducible refine (C1.out _).mono ?_) | (with_reducible refine (C2.out _).mono ?_) | (with_reducible refine (C3.out _).mono ?_)); rintro e z ⟨rfl, rfl⟩))
        go_ret
        exact ⟨by rw [HR.out]; simp [begB, Egn.out], HZ.out⟩
end Go.Proofs.YtifdcfjllonmgaaDoor
