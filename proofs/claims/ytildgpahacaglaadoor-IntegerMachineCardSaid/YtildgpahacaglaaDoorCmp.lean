/-
  The contracts of package integer's natural.compare and natural.less.
-/
import Derived.Test.YtildgpahacaglaaDoorBackI
import Derived.Test.YtildgpahacaglaaDoorNat3
namespace Go.Proofs.YtildgpahacaglaaDoor
open Go Go.Proofs Go.RowKit Go.Lib

attribute [local go_sem] Oper.semAt_some

theorem results_cell1 {fn : Func} {p : Tmp} {ty : TypeId} (h : fn.results = #[.cell p ty]) (tmps : Array Value) (P : Program) (w : World) :
    (results fn tmps).run P w = ((asAddr (tmps.getD p undef)).run P w).andThen fun a w₁ => (loadVar ty a).run P w₁ := by
  simp only [results, h]
  simp [Sem.run_bind]
theorem below_collected {n : Nat} {w W : World} {D : Nat} {ob : Obj} (h : Below n w W) (hn : n ≤ D) (hD : W.heap[D]? = some ob) (o' : Obj) : Below n w (W.putObj D o') :=
  h.trans ((Below.refl n W).grown (grownBy_putObj' W D o') (by have := (Array.getElem?_eq_some_iff.1 hD).1; omega) (fun k e => by cases e; omega))
theorem keeps_same {R : Nat} {W W' : World} (hs : W.heap.size ≤ W'.heap.size) (h : ∀ j, j < W.heap.size → W'.heap[j]? = W.heap[j]?) : KeepsFrom R W W' :=
  ⟨hs, fun j _ _ hj _ => (h j (Array.getElem?_eq_some_iff.1 hj).1).trans hj⟩
theorem HoldI.same {w W : World} {ad : Option Addr} {cap : Nat} {l : List Nat} (h : HoldI w ad cap l) (hold : ∀ j, j < w.heap.size → W.heap[j]? = w.heap[j]?) : HoldI W ad cap l := by
  obtain ⟨h1, h2, h3⟩ := h
  refine ⟨h1, h2, h3.imp id ?_⟩
  rintro ⟨g, o, e, hg, hn⟩
  refine ⟨g, o, e, ?_, hn.heq (hold g hg)⟩
  rcases Nat.lt_or_ge g W.heap.size with h | h
  · exact h
  · have e1 := hold g hg
    rw [Array.getElem?_eq_none h] at e1
    have e2 := (Array.getElem?_eq_none_iff.1 e1.symm)
    omega
def sgnZ (a b : Int) : Int := if a < b then -1 else if b < a then 1 else 0
set_option maxHeartbeats 2000000 in
theorem cmpC_any (a b : Int) (w : World) : Calls Tryd.prog 71 #[.int .i64 a, .int .i64 b] w fun e w' => e = .returned (.int .i64 (sgnZ a b)) ∧ w = w' := by
  by_cases h1 : a < b
  · have e : sgnZ a b = -1 := by unfold sgnZ; rw [if_pos h1]
    rw [e]
    go_enter Tryd.func71, Tryd.ntmps71
    go_wp2
    go_ret
    exact ⟨rfl, rfl⟩
  · by_cases h2 : b < a
    · have e : sgnZ a b = 1 := by unfold sgnZ; rw [if_neg h1, if_pos h2]
      rw [e]
      go_enter Tryd.func71, Tryd.ntmps71
      go_wp2
      go_ret
      exact ⟨rfl, rfl⟩
    · have e : sgnZ a b = 0 := by unfold sgnZ; rw [if_neg h1, if_neg h2]
      rw [e]
      go_enter Tryd.func71, Tryd.ntmps71
      go_wp2
      go_ret
      exact ⟨rfl, rfl⟩

set_option maxRecDepth 100000 in
set_option maxHeartbeats 4000000 in
theorem compare_in (n x y : Nat) (ad1 ad2 : Option Addr) (c1 c2 n1 n2 : Nat) (w : World) (h1 : NatAt w ad1 n1 c1 x) (h2 : NatAt w ad2 n2 c2 y) :
    CallsIn Fence.wide n Tryd.prog 50 #[.slice ad1 n1 c1, .slice ad2 n2 c2] w fun e w' => e = .returned (.int .i64 (cmpI x y)) ∧ Below w.heap.size w w' := by
  obtain ⟨e1, H1⟩ := h1
  obtain ⟨e2, H2⟩ := h2
  have ha := grps_lt x
  have hb := grps_lt y
  have va := valG_grps x
  have vb := valG_grps y
  have l1 := fun h => lenG_lt (m := x) (n := y) h
  have l2 := fun h => lenG_lt (m := y) (n := x) h
  obtain ⟨a, hae⟩ : ∃ a, grps x = a := ⟨_, rfl⟩
  obtain ⟨b, hbe⟩ : ∃ b, grps y = b := ⟨_, rfl⟩
  rw [hae] at ha va H1 e1 l1 l2
  rw [hbe] at hb vb H2 e2 l1 l2
  rw [e1, e2] at l1 l2
  have hlen1 : n1 ≤ 1099511627776 := by have := H1.2.1; omega
  have hlen2 : n2 ≤ 1099511627776 := by have := H2.2.1; omega
  obtain ⟨R, hR⟩ : ∃ R, cmpI x y = R := ⟨_, rfl⟩
  rw [hR]
  have hlt : x < y → R = -1 := fun h => by rw [← hR]; unfold cmpI; rw [if_pos h]
  have hgt : y < x → R = 1 := fun h => by rw [← hR]; unfold cmpI; rw [if_neg (by omega), if_pos h]
  have heq : x = y → R = 0 := fun h => by rw [← hR]; unfold cmpI; rw [if_neg (by omega), if_neg (by omega)]
  clear hR hae hbe
  by_cases hnn : n1 = n2
  · subst hnn
    have hz : ((n1 : Int) != (n1 : Int)) = false := by simp
    have hend : a.drop 0 = b.drop 0 → R = 0 := fun h => heq (by rw [← va, ← vb]; simp only [List.drop_zero] at h; rw [h])
    have hdf : ∀ m, m < n1 → a.drop (m + 1) = b.drop (m + 1) → (a.getD m 0 = b.getD m 0 → a.drop m = b.drop m) ∧ (a.getD m 0 ≠ b.getD m 0 → sgnZ ((a.getD m 0 : Nat) : Int) ((b.getD m 0 : Nat) : Int) = R) := by
      intro m hm hd
      refine ⟨dropG_next m (by omega) (by omega) hd, fun hne => ?_⟩
      unfold sgnZ
      rcases Nat.lt_or_ge (a.getD m 0) (b.getD m 0) with h | h
      · rw [if_pos (by omega), hlt (by rw [← va, ← vb]; exact topG_lt ha m (by omega) (by omega) hd h)]
      · rw [if_neg (by omega), if_pos (by omega), hgt (by rw [← va, ← vb]; exact topG_lt hb m (by omega) (by omega) hd.symm (by omega))]
    obtain ⟨W0, hW0⟩ : ∃ W0, ((w.alloc (.cells #[.slice ad2 n1 c2] 49)).alloc (.cells #[.int .i64 0] 3)).alloc (.cells #[.slice ad1 n1 c1] 49) = W0 := ⟨_, rfl⟩
    have hsz : W0.heap.size = w.heap.size + 3 := by rw [← hW0]; simp
    have hbel : Below w.heap.size w W0 := by rw [← hW0]; exact (((Below.refl _ _).alloc (Nat.le_refl _) _).alloc (by simp) _).alloc (by simp; omega) _
    have hb0 : Boxed W0 w.heap.size 49 (.slice ad2 n1 c2) := by rw [← hW0]; exact ((Boxed.new w _ _).alloc _).alloc _
    have hb1 : Boxed W0 (w.heap.size + 1) 3 (.int .i64 0) := by
      rw [← hW0]
      have := Boxed.new (w.alloc (.cells #[.slice ad2 n1 c2] 49)) 3 (.int .i64 0)
      rw [World.size_alloc] at this
      exact this.alloc _
    have hb2 : Boxed W0 (w.heap.size + 2) 49 (.slice ad1 n1 c1) := by
      rw [← hW0]
      have := Boxed.new ((w.alloc (.cells #[.slice ad2 n1 c2] 49)).alloc (.cells #[.int .i64 0] 3)) 49 (.slice ad1 n1 c1)
      rw [World.size_alloc, World.size_alloc] at this
      exact this
    have hH1 := H1.below hbel (Nat.le_refl _)
    have hstart : a.drop (n1 - 0) = b.drop (n1 - 0) := by rw [List.drop_of_length_le (by omega), List.drop_of_length_le (by omega)]
    have HW0 := Lib.hid hW0; have HEND := Lib.hid hend; have HDF := Lib.hid hdf; have HB0 := Lib.hid hb0; have HB1 := Lib.hid hb1; have HB2 := Lib.hid hb2; have HBL := Lib.hid hbel; have HH1 := Lib.hid hH1; have HH2 := Lib.hid H2; have E1 := Lib.hid e1; have E2 := Lib.hid e2; have HSTART := Lib.hid hstart
    have HK0 := Lib.hid H1
    clear hW0 hend hdf hb0 hb1 hb2 hbel hH1 H1 H2 e1 e2 hstart hlt hgt heq l1 l2 ha hb va vb
    refine callsIn_of_wp_marks Tryd.func50 rfl trivial ?_ rfl
    simp only [Tryd.ntmps50, List.size_toArray, List.length_cons, List.length_nil, Nat.reduceAdd, Nat.reduceSub, Array.replicate_succ, Array.replicate_zero, List.push_toArray, List.append_toArray, List.nil_append, List.cons_append]
    gi_wp2_with (refine ⟨trivial, (fun h => by cases h), ?_⟩; gi_at_call 60; refine (callsIn_wide.2 (backN_any _ _ _ _)).mono ?_; rintro e w' ⟨rfl, rfl⟩)
    rw [HW0.out]
    refine rangeFunc_nat (gf := 78) (lb := #[.pointer (some ⟨w.heap.size + 2, 0, none⟩)]) rfl (enters_of Tryd.func78 (by kernel_rfl) rfl)
      n1 (fun k => #[Value.int .i64 ((n1 - 1 - k : Nat) : Int), Value.int .i64 ((a.getD (n1 - 1 - k) 0 : Nat) : Int)]) (fun _ => rfl) (fun j => j < w.heap.size ∨ j = w.heap.size + 2) (fun j hj => by omega)
      ?seq (fun k W => (Boxed W w.heap.size 49 (.slice ad2 n1 c2) ∧ Boxed W (w.heap.size + 1) 3 (.int .i64 0) ∧ a.drop (n1 - k) = b.drop (n1 - k)) ∧ Below w.heap.size w W)
      (fun c W => (c = .ret ∧ Boxed W (w.heap.size + 1) 3 (.int .i64 R)) ∧ Below w.heap.size w W) ?own ?ownx ⟨⟨HB0.out, HB1.out, HSTART.out⟩, HBL.out⟩ ?round ?done ?stop
    case seq =>
      intro l J Jx W hY hJ hold
      refine backN1_in (n - 1) l (w.heap.size + 2) n1 c1 hlen1 a E1.out ad1 _ (.inr rfl) ?_ J Jx hY W ((World.cell?_of_block (hold (w.heap.size + 2) (by omega))).trans HB2.out.cell) ?_ hJ
      · rintro h0 g o rfl
        obtain ⟨g', o', e, hg, _⟩ := HK0.out.at (by rw [E1.out]; exact h0)
        cases e
        exact .inl hg
      · exact HH1.out.same hold
    case own => exact OwnFrom.and (OwnFrom.and ((boxed_own _ _ _).from _) (OwnFrom.and ((boxed_own _ _ _).from _) (fun _ _ _ _ h _ _ => h))) (ownFrom_below (Nat.le_refl _) (by omega))
    case ownx => exact OwnFrom.and (OwnFrom.and (fun _ _ _ _ h _ _ => h) ((boxed_own _ _ _).from _)) (ownFrom_below (Nat.le_refl _) (by omega))
    case round =>
      rintro l k W W2 hk ⟨⟨bx0, bx1, hd⟩, hbl⟩
      gi_wp2
      refine ⟨trivial, ?_⟩
      obtain ⟨m, hm⟩ : ∃ m, n1 - 1 - k = m := ⟨_, rfl⟩
      have hm1 : n1 - k = m + 1 := by omega
      rw [hm]
      rw [hm1] at hd
      have hml : m < n1 := by omega
      have hx := HDF.out m hml hd
      have hmb : m < b.length := by rw [E2.out]; exact hml
      obtain ⟨g2, o2, rfl, hg2, hs2⟩ := HH2.out.at (by omega)
      have cb := (hs2.below hbl hg2) m hmb
      have j2 := fun w => atN g2 o2 n1 c2 m (m : Int) rfl hml w
      have c0 := bx0.cell
      have c1' := bx1.cell
      have f1' := bx1.frozen
      obtain ⟨x', hx'⟩ : ∃ z, a.getD m 0 = z := ⟨_, rfl⟩
      obtain ⟨y', hy'⟩ : ∃ z, b.getD m 0 = z := ⟨_, rfl⟩
      rw [hx', hy'] at hx
      rw [hy'] at cb
      rw [show a[m]?.getD 0 = x' by rw [← List.getD_eq_getElem?_getD]; exact hx']
      have HX := Lib.hid hx; have BX0 := Lib.hid bx0; have BX1 := Lib.hid bx1; have HBW := Lib.hid hbl
      have hmk : m = n1 - (k + 1) := by omega
      have HMK := Lib.hid hmk
      clear hx hd hs2 hmb hx' hy' bx0 bx1 hm hm1 hmk
      by_cases hxy : x' = y'
      · have e1 : ((x' : Int) != (y' : Int)) = false := by rw [bne_eq_false_iff_eq]; omega
        have hd2 := HX.out.1 hxy
        have HD2 := Lib.hid hd2
        clear hd2 hxy
        gi_wp2
        exact ⟨KeepsFrom.refl _ _, fun _ _ => rfl, ⟨BX0.out, BX1.out, by rw [← HMK.out]; exact HD2.out⟩, HBW.out⟩
      · have e1 : ((x' : Int) != (y' : Int)) = true := by rw [bne_iff_ne]; omega
        have cc := fun W => cmpC_any (x' : Int) (y' : Int) W
        rw [HX.out.2 hxy] at cc
        have CC := Lib.hid cc
        clear cc hxy
        gi_wp2_with (refine ⟨trivial, (fun h => by cases h), ?_⟩; gi_at_call 71; refine CallsIn.inRound l ((callsIn_wide.2 (CC.out _)).mono ?_); rintro e w' ⟨rfl, rfl⟩)
        exact ⟨(KeepsOthers.setCell _ _ _).from _, ⟨rfl, BX1.out.set _⟩, HBW.out.setCell (p := ⟨w.heap.size + 1, 0, none⟩) (by simp) _⟩
    case done =>
      rintro W ⟨⟨_, bx1, hd⟩, hbl⟩ hD
      rw [hsz] at hD
      have hR0 : R = 0 := HEND.out (by rw [Nat.sub_self] at hd; exact hd)
      subst hR0
      have c1' := bx1.cell
      have f1' := bx1.frozen
      have hD2 : (W.setCell ⟨w.heap.size + 1, 0, none⟩ (.int .i64 0)).heap[w.heap.size + 3]? = some (.deferred (some [])) := (Below.heap_setCell _ _ _ _ (by show w.heap.size + 3 ≠ w.heap.size + 1; omega)).trans hD
      have BX := Lib.hid (bx1.set (.int .i64 0)); have HD2 := Lib.hid hD2; have HBW := Lib.hid (hbl.setCell (p := ⟨w.heap.size + 1, 0, none⟩) (by simp) (.int .i64 0))
      clear hD2 hD hd bx1 hbl
      dsimp only
      gi_wp2
      refine ⟨by simp, .inl ⟨_, _, rfl, run_takeDeferred HD2.out, ?_⟩⟩
      have c5 := cell_kept BX.out.cell (grownBy_putObj' _ (w.heap.size + 3) (.deferred none)) (fun r e => by cases e; exact ⟨_, HD2.out, rfl⟩)
      refine ⟨.int .i64 0, ?_, rfl, below_collected HBW.out (by omega) HD2.out _⟩
      rw [results_cell1 rfl]
      simp [go_sem, c5]
    case stop =>
      rintro c W ⟨⟨rfl, bx1⟩, hbl⟩ hD
      have BX := Lib.hid bx1; have HD2 := Lib.hid hD; have HBW := Lib.hid hbl
      clear hD bx1 hbl
      dsimp only
      gi_wp2
      refine ⟨by simp, .inl ⟨_, _, rfl, run_takeDeferred HD2.out, ?_⟩⟩
      have c5 := cell_kept BX.out.cell (grownBy_putObj' _ (W0.heap.size) (.deferred none)) (fun r e => by cases e; exact ⟨_, HD2.out, rfl⟩)
      refine ⟨.int .i64 R, ?_, rfl, below_collected HBW.out (by omega) HD2.out _⟩
      rw [results_cell1 rfl]
      simp [go_sem, c5]
  · have hz : ((n1 : Int) != (n2 : Int)) = true := by rw [bne_iff_ne]; omega
    have hs : sgnZ (n1 : Int) (n2 : Int) = R := by
      unfold sgnZ
      by_cases h : n1 < n2
      · rw [if_pos (by omega), hlt (l1 h)]
      · rw [if_neg (by omega), if_pos (by omega), hgt (l2 (by omega))]
    have cc := fun W => cmpC_any (n1 : Int) (n2 : Int) W
    rw [hs] at cc
    have CC := Lib.hid cc
    clear cc hs hlt hgt heq l1 l2 ha hb va vb H1 H2 e1 e2 hnn
    refine callsIn_wide.2 ?_
    go_enter Tryd.func50, Tryd.ntmps50
    go_wp2_with fail
    refine (CC.out _).mono ?_
    rintro e w1 ⟨rfl, rfl⟩
    go_wp2
    refine bodyPost_ret (v := .int .i64 R) ?_ rfl ⟨rfl, ?_⟩
    · rw [results_cell1 rfl]
      simp [go_sem]
    · first
        | exact ((Below.refl _ _).alloc (Nat.le_refl _) _).alloc (by simp) _
        | exact (((Below.refl _ _).alloc (Nat.le_refl _) _).alloc (by simp) _).setCell (by simp) _

theorem compare_any (x y : Nat) (ad1 ad2 : Option Addr) (c1 c2 n1 n2 : Nat) (w : World) (h1 : NatAt w ad1 n1 c1 x) (h2 : NatAt w ad2 n2 c2 y) :
    Calls Tryd.prog 50 #[.slice ad1 n1 c1, .slice ad2 n2 c2] w fun e w' => e = .returned (.int .i64 (cmpI x y)) ∧ Below w.heap.size w w' :=
  callsIn_wide.1 (compare_in 0 x y ad1 ad2 c1 c2 n1 n2 w h1 h2)

set_option maxHeartbeats 2000000 in
theorem less_any (x y : Nat) (ad1 ad2 : Option Addr) (c1 c2 n1 n2 : Nat) (w : World) (h1 : NatAt w ad1 n1 c1 x) (h2 : NatAt w ad2 n2 c2 y) :
    Calls Tryd.prog 46 #[.slice ad1 n1 c1, .slice ad2 n2 c2] w fun e w' => e = .returned (.bool (decide (x < y))) ∧ Below w.heap.size w w' := by
  have c := fun W (e : w = W) => compare_any x y ad1 ad2 c1 c2 n1 n2 W (by rw [← e]; exact h1) (by rw [← e]; exact h2)
  have hd : decide (cmpI x y < 0) = decide (x < y) := by
    rw [decide_eq_decide]; unfold cmpI; split <;> (try split) <;> omega
  obtain ⟨q, hq⟩ : ∃ q, cmpI x y = q := ⟨_, rfl⟩
  rw [hq] at c hd
  have C := Lib.hid c; have HD := Lib.hid hd
  clear c hd hq h1 h2
  go_enter Tryd.func46, Tryd.ntmps46
  go_wp2_with fail
  refine (C.out _ rfl).mono ?_
  rintro e w1 ⟨rfl, b1⟩
  go_wp2
  go_ret
  exact ⟨ret_bool HD.out, b1⟩
end Go.Proofs.YtildgpahacaglaaDoor
