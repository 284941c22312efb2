/-
  Layer 8, the program: isEvent, Event.
-/
import Derived.Test.YtifdcfjllonmgaaDoorNe
namespace Go.Proofs.YtifdcfjllonmgaaDoor
open Go Go.Proofs Go.RowKit Go.Lib Go.Maps

/-- A function value is the test of an event. -/
def TestAt (W : World) (x : Ev) (v : Value) : Prop := (v = .nilFunc ∧ tstB x = false) ∨ ∃ F lb, v = .func (.func F) #[] lb ∧ (∀ args W, (callFunc F args).run Tryd.prog W = .ok (.enter F args) W) ∧
  ∀ W', Below W.heap.size W W' → Calls Tryd.prog F (#[x.val] ++ lb) W' fun e w' => e = .returned (.bool (tstB x)) ∧ Below W'.heap.size W' w'
theorem held_inj {v u : Value} {ps : List MemPlace} {z : DataW Value} (h : Rv v = some (z, ps)) (hz : z = .held u) : v = u := by
  unfold Rv at h
  injection h with h
  injection h with h1 h2
  rw [hz] at h1
  injection h1
theorem ft_at (vs : Nat → Value) (kd : Int) : (ftD 6 vs).atKey (.int .i64 kd) (.held .nilFunc) =
    .held (if kd = 1 then .func (.func 73) #[] #[] else if kd = 2 then vs 0 else if kd = 3 then vs 1 else if kd = 4 then vs 2 else if kd = 5 then vs 3 else if kd = 6 then vs 4 else if kd = 7 then vs 5 else .nilFunc) := by
  have hD : ftD 6 vs = .map [(.int .i64 1, .held (.func (.func 73) #[] #[])), (.int .i64 2, .held (vs 0)), (.int .i64 3, .held (vs 1)), (.int .i64 4, .held (vs 2)), (.int .i64 5, .held (vs 3)), (.int .i64 6, .held (vs 4)), (.int .i64 7, .held (vs 5))] := by rfl
  rw [hD]
  by_cases h1 : kd = 1
  · subst h1; rfl
  by_cases h2 : kd = 2
  · subst h2; rfl
  by_cases h3 : kd = 3
  · subst h3; rfl
  by_cases h4 : kd = 4
  · subst h4; rfl
  by_cases h5 : kd = 5
  · subst h5; rfl
  by_cases h6 : kd = 6
  · subst h6; rfl
  by_cases h7 : kd = 7
  · subst h7; rfl
  rw [if_neg h1, if_neg h2, if_neg h3, if_neg h4, if_neg h5, if_neg h6, if_neg h7]
  have n1 := Ne.symm h1; have n2 := Ne.symm h2; have n3 := Ne.symm h3; have n4 := Ne.symm h4; have n5 := Ne.symm h5; have n6 := Ne.symm h6; have n7 := Ne.symm h7
  simp [DataW.atKey, Lit.sameKey, n1, n2, n3, n4, n5, n6, n7]
/-- What the map holds at an event's kind. -/
theorem ft_look {W : World} {b : Nat} (h : FtAt 6 W b) (x : Ev) (hk : (Lit.int .i64 x.kd).wf = true) : ∃ v, (Instr.lookup 86 (.map (some b)) (.int .i64 x.kd) false).run Tryd.prog W = .ok v W ∧ TestAt W x v := by
  obtain ⟨vs, hm, hc⟩ := h
  obtain ⟨v, ps, hrun, hv⟩ := hm.lookup (e := 44) keyI Tryd.underlying86 (z := .nilFunc) (by kernel_rfl) (zd := .held .nilFunc) (zp := []) rfl (keyOf_int_mk Tryd.underlying3 hk)
  have e := held_inj hv (ft_at vs x.kd)
  refine ⟨v, hrun, ?_⟩
  subst e
  have lk : ∀ j, j < 6 → ∀ ml mn, lkT (3 * j + 1) = ml → lkT (3 * j + 2) = mn → tstB x = linkB ml mn x → TestAt W x (vs j) := fun j hj ml mn e1 e2 e3 => by
    obtain ⟨A, B, ev, hA, hB⟩ := hc j hj
    rw [e1] at hA
    rw [e2] at hB
    refine .inr ⟨_, _, ev, by intro args W; rfl, fun W' hb => ?_⟩
    rw [e3]
    exact linked1_u x ml mn A B W' ((hb.cell (p := ⟨A, 0, none⟩) (World.block_lt_of_cell? W ⟨A, 0, none⟩ hA)).trans hA) ((hb.cell (p := ⟨B, 0, none⟩) (World.block_lt_of_cell? W ⟨B, 0, none⟩ hB)).trans hB)
  unfold tstB at lk
  by_cases h1 : x.kd = 1
  · rw [if_pos h1]
    refine .inr ⟨_, _, rfl, by intro args W; rfl, fun W' hb => ?_⟩
    have := isBegin_u x W'
    unfold tstB
    rw [if_pos h1]
    exact this
  rw [if_neg h1]
  by_cases h2 : x.kd = 2
  · rw [if_pos h2]; exact lk 0 (by decide) 0 0 rfl rfl (by rw [if_neg h1, if_pos h2])
  rw [if_neg h2]
  by_cases h3 : x.kd = 3
  · rw [if_pos h3]; exact lk 1 (by decide) 99 0 rfl rfl (by rw [if_neg h1, if_neg h2, if_pos h3])
  rw [if_neg h3]
  by_cases h4 : x.kd = 4
  · rw [if_pos h4]; exact lk 2 (by decide) 99 0 rfl rfl (by rw [if_neg h1, if_neg h2, if_neg h3, if_pos h4])
  rw [if_neg h4]
  by_cases h5 : x.kd = 5
  · rw [if_pos h5]; exact lk 3 (by decide) 99 99 rfl rfl (by rw [if_neg h1, if_neg h2, if_neg h3, if_neg h4, if_pos h5])
  rw [if_neg h5]
  by_cases h6 : x.kd = 6
  · rw [if_pos h6]; exact lk 4 (by decide) 99 99 rfl rfl (by rw [if_neg h1, if_neg h2, if_neg h3, if_neg h4, if_neg h5, if_pos h6])
  rw [if_neg h6]
  by_cases h7 : x.kd = 7
  · rw [if_pos h7]; exact lk 5 (by decide) 9 0 rfl rfl (by rw [if_neg h1, if_neg h2, if_neg h3, if_neg h4, if_neg h5, if_neg h6, if_pos h7])
  rw [if_neg h7]
  refine .inl ⟨rfl, ?_⟩
  unfold tstB
  rw [if_neg h1, if_neg h2, if_neg h3, if_neg h4, if_neg h5, if_neg h6, if_neg h7]
set_option maxRecDepth 100000 in
set_option maxHeartbeats 8000000 in
theorem isEvent_u (x : Ev) (hk : (Lit.int .i64 x.kd).wf = true) (b : Nat) (w : World) (hF : FtAt 6 w b) : Calls Tryd.prog 48 #[x.val, .map (some b)] w fun e w' => e = .returned (.bool (evB x)) ∧ Below w.heap.size w w' := by
  obtain ⟨R, hR⟩ : ∃ R, evB x = R := ⟨_, rfl⟩
  rw [hR]
  obtain ⟨w1, V1, Z1, K1, B1⟩ := lay8 w x.cells 46
  obtain ⟨tv, hl, ht⟩ := ft_look (hF.below B1) x hk
  have HT := Lib.hid ht
  have HZ := Lib.hid B1
  have HR := Lib.hid (show R = (tstB x && basB x) by rw [← hR]; exact evB_tst x)
  have HXV := Lib.hid (show ∀ t : Bool, t = tstB x → t = tstB x from fun _ h => h)
  have hXV := Lib.hid (Ev.val_mk x)
  obtain ⟨ag, sq, tm, kd, tr, sp, lk, gn, op, vr, pe, bt⟩ := x
  have V1 := (show w.alloc (.cells #[.int .i64 ag, .int .i64 sq, .int .i64 tm, .int .i64 kd, .int .i64 tr, .int .i64 sp, .int .i64 lk, .int .i64 gn, .int .i64 op, .int .i64 vr, .int .i64 pe, .int .i64 bt] 46) = w1 from V1)
  have K2 := (show CellsAt w1 w.heap.size [.int .i64 ag, .int .i64 sq, .int .i64 tm, .int .i64 kd, .int .i64 tr, .int .i64 sp, .int .i64 lk, .int .i64 gn, .int .i64 op, .int .i64 vr, .int .i64 pe, .int .i64 bt] from K1)
  dsimp only at hl
  unfold basB at HR
  dsimp only at HR
  have y0 := (K2 0 (by simp)).1
  have y1 := (K2 1 (by simp)).1
  have y2 := (K2 2 (by simp)).1
  have y3 := (K2 3 (by simp)).1
  have y4 := (K2 4 (by simp)).1
  have y5 := (K2 5 (by simp)).1
  have y6 := (K2 6 (by simp)).1
  have y7 := (K2 7 (by simp)).1
  have y8 := (K2 8 (by simp)).1
  have y9 := (K2 9 (by simp)).1
  have y10 := (K2 10 (by simp)).1
  have y11 := (K2 11 (by simp)).1
  simp only [List.getElem_cons_zero, List.getElem_cons_succ] at y0 y1 y2 y3 y4 y5 y6 y7 y8 y9 y10 y11
  have HKB := Lib.hid (show ∀ W, Below w1.heap.size w1 W → EvBox W w.heap.size ⟨ag, sq, tm, kd, tr, sp, lk, gn, op, vr, pe, bt⟩ from fun W b => CellsAt.ev (CellsAt.below K1 b))
  have C1 := Lib.hid (fun W => isIn_u ag 0 5 W)
  generalize inB ag 0 5 = b1 at *
  have C2 := Lib.hid (fun W => isIn_u sq 0 999 W)
  generalize inB sq 0 999 = b2 at *
  have C3 := Lib.hid (fun W => isIn_u tm 0 1000000 W)
  generalize inB tm 0 1000000 = b3 at *
  have C4 := Lib.hid (fun W => isIn_u tr 0 999 W)
  generalize inB tr 0 999 = b4 at *
  have C5 := Lib.hid (fun W => isIn_u sp 0 9 W)
  generalize inB sp 0 9 = b5 at *
  have C6 := Lib.hid (fun W => isIn_u bt 0 1000 W)
  generalize inB bt 0 1000 = b6 at *
  clear hR K1 K2 B1 ht hF HXV hk
  obtain ⟨T, hT⟩ : ∃ T, tstB ⟨ag, sq, tm, kd, tr, sp, lk, gn, op, vr, pe, bt⟩ = T := ⟨_, rfl⟩
  unfold TestAt at HT
  rw [hT] at HR HT
  clear hT
  rw [hXV.out] at HT ⊢
  rcases HT.out with ⟨rfl, hf⟩ | ⟨F, lb, rfl, eg, hc⟩
  · clear HT
    have HF := Lib.hid hf
    have hn0 : ∀ W, (binOp BinOp.neq 44 Value.nilFunc Value.nilFunc).run Tryd.prog W = .ok (.bool false) W := fun W => by rfl
    clear hf
    go_enter Tryd.func48, Tryd.ntmps48
    go_wp2_with fail
    go_ret
    exact ⟨by rw [HR.out, HF.out]; rfl, HZ.out⟩
  · clear HT
    have HC := Lib.hid hc
    have hn1 : ∀ W, (binOp BinOp.neq 44 (Value.func (.func F) #[] lb) Value.nilFunc).run Tryd.prog W = .ok (.bool true) W := fun W => by rfl
    clear hc
    cases T with
    | false =>
      go_enter Tryd.func48, Tryd.ntmps48
      go_wp2_with (first | ((with_reducible refine (HC.out _ (Below.refl _ _)).mono ?_); rintro e z ⟨rfl, hz⟩; replace HZ := Lib.hid (HZ.out.trans (hz.mono HZ.out.size)); clear y0 y1 y2 y3 y4 y5 y6 y7 y8 y9 y10 y11; obtain ⟨y0, y1, y2, y3, y4, y5, y6, y7, y8, y9, y10, y11⟩ := HKB.out _ hz; clear hz) | (go_at_call 40; (first | (with_reducible refine (C1.out _).mono ?_) | (with_reducible refine (C2.out _).mono ?_) | (with_reducible refine (C3.out _).mono ?_) | (with_reducible refine (C4.out _).mono ?_) | (with_reducible refine (C5.out _).mono ?_) | (with_reducible refine (C6.out _).mono ?_)); rintro e z ⟨rfl, rfl⟩))
      go_ret
      exact ⟨by rw [HR.out]; simp, HZ.out⟩
    | true =>
      cases b1 with
      | false =>
        go_enter Tryd.func48, Tryd.ntmps48
        go_wp2_with (first | ((with_reducible refine (HC.out _ (Below.refl _ _)).mono ?_); rintro e z ⟨rfl, hz⟩; replace HZ := Lib.hid (HZ.out.trans (hz.mono HZ.out.size)); clear y0 y1 y2 y3 y4 y5 y6 y7 y8 y9 y10 y11; obtain ⟨y0, y1, y2, y3, y4, y5, y6, y7, y8, y9, y10, y11⟩ := HKB.out _ hz; clear hz) | (go_at_call 40; (first | (with_reducible refine (C1.out _).mono ?_) | (with_reducible refine (C2.out _).mono ?_) | (with_reducible refine (C3.out _).mono ?_) | (with_reducible refine (C4.out _).mono ?_) | (with_reducible refine (C5.out _).mono ?_) | (with_reducible refine (C6.out _).mono ?_)); rintro e z ⟨rfl, rfl⟩))
        go_ret
        exact ⟨by rw [HR.out]; simp, HZ.out⟩
      | true =>
        cases b2 with
        | false =>
          go_enter Tryd.func48, Tryd.ntmps48
          go_wp2_with (first | ((with_reducible refine (HC.out _ (Below.refl _ _)).mono ?_); rintro e z ⟨rfl, hz⟩; replace HZ := Lib.hid (HZ.out.trans (hz.mono HZ.out.size)); clear y0 y1 y2 y3 y4 y5 y6 y7 y8 y9 y10 y11; obtain ⟨y0, y1, y2, y3, y4, y5, y6, y7, y8, y9, y10, y11⟩ := HKB.out _ hz; clear hz) | (go_at_call 40; (first | (with_reducible refine (C1.out _).mono ?_) | (with_reducible refine (C2.out _).mono ?_) | (with_reducible refine (C3.out _).mono ?_) | (with_reducible refine (C4.out _).mono ?_) | (with_reducible refine (C5.out _).mono ?_) | (with_reducible refine (C6.out _).mono ?_)); rintro e z ⟨rfl, rfl⟩))
          go_ret
          exact ⟨by rw [HR.out]; simp, HZ.out⟩
        | true =>
          cases b3 with
          | false =>
            go_enter Tryd.func48, Tryd.ntmps48
            go_wp2_with (first | ((with_reducible refine (HC.out _ (Below.refl _ _)).mono ?_); rintro e z ⟨rfl, hz⟩; replace HZ := Lib.hid (HZ.out.trans (hz.mono HZ.out.size)); clear y0 y1 y2 y3 y4 y5 y6 y7 y8 y9 y10 y11; obtain ⟨y0, y1, y2, y3, y4, y5, y6, y7, y8, y9, y10, y11⟩ := HKB.out _ hz; clear hz) | (go_at_call 40; (first | (with_reducible refine (C1.out _).mono ?_) | (with_reducible refine (C2.out _).mono ?_) | (with_reducible refine (C3.out _).mono ?_) | (with_reducible refine (C4.out _).mono ?_) | (with_reducible refine (C5.out _).mono ?_) | (with_reducible refine (C6.out _).mono ?_)); rintro e z ⟨rfl, rfl⟩))
            go_ret
            exact ⟨by rw [HR.out]; simp, HZ.out⟩
          | true =>
            cases b4 with
            | false =>
              go_enter Tryd.func48, Tryd.ntmps48
              go_wp2_with (first | ((with_reducible refine (HC.out _ (Below.refl _ _)).mono ?_); rintro e z ⟨rfl, hz⟩; replace HZ := Lib.hid (HZ.out.trans (hz.mono HZ.out.size)); clear y0 y1 y2 y3 y4 y5 y6 y7 y8 y9 y10 y11; obtain ⟨y0, y1, y2, y3, y4, y5, y6, y7, y8, y9, y10, y11⟩ := HKB.out _ hz; clear hz) | (go_at_call 40; (first | (with_reducible refine (C1.out _).mono ?_) | (with_reducible refine (C2.out _).mono ?_) | (with_reducible refine (C3.out _).mono ?_) | (with_reducible refine (C4.out _).mono ?_) | (with_reducible refine (C5.out _).mono ?_) | (with_reducible refine (C6.out _).mono ?_)); rintro e z ⟨rfl, rfl⟩))
              go_ret
              exact ⟨by rw [HR.out]; simp, HZ.out⟩
            | true =>
              cases b5 with
              | false =>
                go_enter Tryd.func48, Tryd.ntmps48
                go_wp2_with (first | ((with_reducible refine (HC.out _ (Below.refl _ _)).mono ?_); rintro e z ⟨rfl, hz⟩; replace HZ := Lib.hid (HZ.out.trans (hz.mono HZ.out.size)); clear y0 y1 y2 y3 y4 y5 y6 y7 y8 y9 y10 y11; obtain ⟨y0, y1, y2, y3, y4, y5, y6, y7, y8, y9, y10, y11⟩ := HKB.out _ hz; clear hz) | (go_at_call 40; (first | (with_reducible refine (C1.out _).mono ?_) | (with_reducible refine (C2.out _).mono ?_) | (with_reducible refine (C3.out _).mono ?_) | (with_reducible refine (C4.out _).mono ?_) | (with_reducible refine (C5.out _).mono ?_) | (with_reducible refine (C6.out _).mono ?_)); rintro e z ⟨rfl, rfl⟩))
                go_ret
                exact ⟨by rw [HR.out]; simp, HZ.out⟩
              | true =>
                cases b6 with
                | false =>
                  go_enter Tryd.func48, Tryd.ntmps48
                  go_wp2_with (first | ((with_reducible refine (HC.out _ (Below.refl _ _)).mono ?_); rintro e z ⟨rfl, hz⟩; replace HZ := Lib.hid (HZ.out.trans (hz.mono HZ.out.size)); clear y0 y1 y2 y3 y4 y5 y6 y7 y8 y9 y10 y11; obtain ⟨y0, y1, y2, y3, y4, y5, y6, y7, y8, y9, y10, y11⟩ := HKB.out _ hz; clear hz) | (go_at_call 40; (first | (with_reducible refine (C1.out _).mono ?_) | (with_reducible refine (C2.out _).mono ?_) | (with_reducible refine (C3.out _).mono ?_) | (with_reducible refine (C4.out _).mono ?_) | (with_reducible refine (C5.out _).mono ?_) | (with_reducible refine (C6.out _).mono ?_)); rintro e z ⟨rfl, rfl⟩))
                  go_ret
                  exact ⟨by rw [HR.out]; simp, HZ.out⟩
                | true =>
                  go_enter Tryd.func48, Tryd.ntmps48
                  go_wp2_with (first | ((with_reducible refine (HC.out _ (Below.refl _ _)).mono ?_); rintro e z ⟨rfl, hz⟩; replace HZ := Lib.hid (HZ.out.trans (hz.mono HZ.out.size)); clear y0 y1 y2 y3 y4 y5 y6 y7 y8 y9 y10 y11; obtain ⟨y0, y1, y2, y3, y4, y5, y6, y7, y8, y9, y10, y11⟩ := HKB.out _ hz; clear hz) | (go_at_call 40; (first | (with_reducible refine (C1.out _).mono ?_) | (with_reducible refine (C2.out _).mono ?_) | (with_reducible refine (C3.out _).mono ?_) | (with_reducible refine (C4.out _).mono ?_) | (with_reducible refine (C5.out _).mono ?_) | (with_reducible refine (C6.out _).mono ?_)); rintro e z ⟨rfl, rfl⟩))
                  go_ret
                  exact ⟨by rw [HR.out]; rfl, HZ.out⟩
end Go.Proofs.YtifdcfjllonmgaaDoor
