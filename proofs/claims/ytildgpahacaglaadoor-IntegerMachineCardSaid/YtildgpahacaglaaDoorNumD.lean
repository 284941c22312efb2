/-
  The contracts of package integer's numbers: quotients.
-/
import Derived.Test.YtildgpahacaglaaDoorNumC
namespace Go.Proofs.YtildgpahacaglaaDoor
open Go Go.Proofs Go.RowKit Go.Lib

/-- Two numbers are returned. -/
def QRPost (w : World) (q r : Int) (e : Ending) (w' : World) : Prop :=
  ∃ bq Nq aq mq cq Nr ar mr cr, e = .returned (.tuple #[.agg #[.bool bq, .slice aq mq cq], .agg #[.bool false, .slice ar mr cr]]) ∧ intD bq Nq = q ∧ ((Nr : Nat) : Int) = r ∧ NatAt w' aq mq cq Nq ∧ NatAt w' ar mr cr Nr ∧ Below w.heap.size w w'
theorem four_frame (w : World) (b1 b2 : Bool) (a1 a2 : Option Addr) (m1 m2 c1 c2 : Nat) : ∃ W0, (((w.alloc (.cells #[.bool b1, .slice a1 m1 c1] 51)).alloc (.cells #[.bool b2, .slice a2 m2 c2] 51)).alloc (.cells #[.bool false, .slice none 0 0] 51)).alloc (.cells #[.bool false, .slice none 0 0] 51) = W0 ∧
    Below w.heap.size w W0 ∧ W0.heap[w.heap.size]? = some (.cells #[.bool b1, .slice a1 m1 c1] 51) ∧ W0.heap[w.heap.size + 1]? = some (.cells #[.bool b2, .slice a2 m2 c2] 51) ∧ W0.heap[w.heap.size + 2]? = some (.cells #[.bool false, .slice none 0 0] 51) ∧ W0.heap[w.heap.size + 3]? = some (.cells #[.bool false, .slice none 0 0] 51) := by
  obtain ⟨W, hW, hb, h1, h2, h3⟩ := num_frame w b1 b2 a1 a2 m1 m2 c1 c2
  have hs : W.heap.size = w.heap.size + 3 := by rw [← hW]; simp
  rw [hW]
  refine ⟨_, rfl, hb.alloc hb.size _, ?_, ?_, ?_, ?_⟩
  · rw [Below.heap_alloc _ _ _ (by omega)]; exact h1
  · rw [Below.heap_alloc _ _ _ (by omega)]; exact h2
  · rw [Below.heap_alloc _ _ _ (by omega)]; exact h3
  · have := heap_alloc_new W (.cells #[.bool false, .slice none 0 0] 51)
    rw [hs] at this
    exact this
theorem natAbs_intD (b : Bool) (N : Nat) : (intD b N).natAbs = N := by cases b <;> simp [intD]
theorem qr_done {w W0 W : World} {t : TypeId} (b0 : Below w.heap.size w W0) (hR : W0.heap[w.heap.size + 2]? = some (.cells #[.bool false, .slice none 0 0] t)) (hS : W0.heap[w.heap.size + 3]? = some (.cells #[.bool false, .slice none 0 0] t)) (b : Below W0.heap.size W0 W) {ad : Option Addr} {m c n : Nat} (h : NatAt W ad m c n) (x y x' y' : Value) :
    NatAt ((((W.setCell ⟨w.heap.size + 2, 0, none⟩ x).setCell ⟨w.heap.size + 2, 1, none⟩ y).setCell ⟨w.heap.size + 3, 0, none⟩ x').setCell ⟨w.heap.size + 3, 1, none⟩ y') ad m c n ∧ Below w.heap.size w ((((W.setCell ⟨w.heap.size + 2, 0, none⟩ x).setCell ⟨w.heap.size + 2, 1, none⟩ y).setCell ⟨w.heap.size + 3, 0, none⟩ x').setCell ⟨w.heap.size + 3, 1, none⟩ y') := by
  have ha := apart_num h (num_kept hR b)
  have ha' := apart_num h (num_kept hS b)
  exact ⟨(((h.store ha 0 _).store ha 1 _).store ha' 0 _).store ha' 1 _, ((((below_of b0 b).setCell (p := ⟨w.heap.size + 2, 0, none⟩) (by show _ ≤ w.heap.size + 2; omega) _).setCell (p := ⟨w.heap.size + 2, 1, none⟩) (by show _ ≤ w.heap.size + 2; omega) _).setCell (p := ⟨w.heap.size + 3, 0, none⟩) (by show _ ≤ w.heap.size + 3; omega) _).setCell (p := ⟨w.heap.size + 3, 1, none⟩) (by show _ ≤ w.heap.size + 3; omega) _⟩

set_option maxRecDepth 100000 in
set_option maxHeartbeats 8000000 in
theorem div_less (b1 b2 : Bool) (N1 N2 : Nat) (hd : 0 < N2) (hz : b1 = false ∨ N1 % N2 = 0) (a1 a2 : Option Addr) (m1 m2 c1 c2 : Nat) (w : World) (h1 : NatAt w a1 m1 c1 N1) (h2 : NatAt w a2 m2 c2 N2) (l1 : m1 ≤ 900) (l2 : m2 ≤ 900) :
    Calls Tryd.prog 33 #[.agg #[.bool b1, .slice a1 m1 c1], .agg #[.bool b2, .slice a2 m2 c2]] w (QRPost w (intD b1 N1 / intD b2 N2) (intD b1 N1 % intD b2 N2)) := by
  have hp := div_plain (x := intD b1 N1) (y := intD b2 N2) (b := b1) (c := b2) (by rw [natAbs_intD]) (by rw [natAbs_intD]) (by cases b2 <;> simp [intD] <;> omega) (by rw [natAbs_intD, natAbs_intD]; exact hz)
  rw [natAbs_intD, natAbs_intD] at hp
  obtain ⟨W0, hW0, hb0, k1, k2, kR, kS⟩ := four_frame w b1 b2 a1 a2 m1 m2 c1 c2
  have cd := divide_any N1 N2 hd a1 a2 c1 c2 m1 m2 W0 (h1.below hb0 (Nat.le_refl _)) (h2.below hb0 (Nat.le_refl _)) l1 l2
  obtain ⟨X, hX⟩ : ∃ X, intD b1 N1 / intD b2 N2 = X := ⟨_, rfl⟩
  obtain ⟨Y, hY⟩ : ∃ X, intD b1 N1 % intD b2 N2 = X := ⟨_, rfl⟩
  obtain ⟨Q, hQ⟩ : ∃ X, N1 / N2 = X := ⟨_, rfl⟩
  obtain ⟨R, hR⟩ : ∃ X, N1 % N2 = X := ⟨_, rfl⟩
  rw [hX, hY, hQ, hR] at hp
  rw [hQ, hR] at cd
  rw [hX, hY]
  rw [hR] at hz
  have hall := fun W (b : Below W0.heap.size W0 W) => And.intro (num_cells (num_kept k1 b)) (num_cells (num_kept k2 b))
  have HALL := Lib.hid hall
  have HP := Lib.hid hp; have CD := Lib.hid cd; have HW := Lib.hid hW0; have HB0 := Lib.hid hb0; have KR := Lib.hid kR; have KS := Lib.hid kS
  obtain ⟨⟨p1, p2, _, _⟩, ⟨p3, p4, _, _⟩⟩ := hall W0 (Below.refl _ _)
  clear hp cd hW0 hb0 k1 k2 kR kS hall hX hY hQ hR h1 h2
  go_enter Tryd.func33, Tryd.ntmps33
  go_wp2_with (rw [HW.out])
  refine CD.out.mono ?_
  rintro e w5 ⟨aq, cq, mq, ar, cr, mr, rfl, hq, hr, hb⟩
  have hz0 : b1 = false ∨ mr = 0 := hz.imp id (fun h => (grps_nil_iff hr.1).1 h)
  obtain ⟨⟨r1, r2, _, _⟩, ⟨r3, r4, _, _⟩⟩ := HALL.out w5 hb
  obtain ⟨q1, q2, q3, q4⟩ := num_cells (num_kept KR.out hb)
  obtain ⟨q5, q6, q7, q8⟩ := num_cells (num_kept KS.out hb)
  have HQ := Lib.hid hq; have HR := Lib.hid hr; have HB := Lib.hid hb
  clear hq hr hb p1 p2 p3 p4 CD hz
  cases b1
  · clear hz0
    cases b2
    · go_wp2_with fail
      exact bodyPost_ret (v := .tuple #[.agg #[.bool (false != false), .slice aq mq cq], .agg #[.bool false, .slice ar mr cr]]) (by simp [results, Tryd.results33, go_sem, q1, q2, q5, q6]) rfl ⟨(false != false), Q, aq, mq, cq, R, ar, mr, cr, rfl, HP.out.1, HP.out.2, (qr_done HB0.out KR.out KS.out HB.out HQ.out _ _ _ _).1, (qr_done HB0.out KR.out KS.out HB.out HR.out _ _ _ _).1, (qr_done HB0.out KR.out KS.out HB.out HR.out _ _ _ _).2⟩
    · go_wp2_with fail
      exact bodyPost_ret (v := .tuple #[.agg #[.bool (false != true), .slice aq mq cq], .agg #[.bool false, .slice ar mr cr]]) (by simp [results, Tryd.results33, go_sem, q1, q2, q5, q6]) rfl ⟨(false != true), Q, aq, mq, cq, R, ar, mr, cr, rfl, HP.out.1, HP.out.2, (qr_done HB0.out KR.out KS.out HB.out HQ.out _ _ _ _).1, (qr_done HB0.out KR.out KS.out HB.out HR.out _ _ _ _).1, (qr_done HB0.out KR.out KS.out HB.out HR.out _ _ _ _).2⟩
  · obtain rfl : mr = 0 := hz0.resolve_left (by simp)
    cases b2
    · go_wp2_with fail
      exact bodyPost_ret (v := .tuple #[.agg #[.bool (true != false), .slice aq mq cq], .agg #[.bool false, .slice ar 0 cr]]) (by simp [results, Tryd.results33, go_sem, q1, q2, q5, q6]) rfl ⟨(true != false), Q, aq, mq, cq, R, ar, 0, cr, rfl, HP.out.1, HP.out.2, (qr_done HB0.out KR.out KS.out HB.out HQ.out _ _ _ _).1, (qr_done HB0.out KR.out KS.out HB.out HR.out _ _ _ _).1, (qr_done HB0.out KR.out KS.out HB.out HR.out _ _ _ _).2⟩
    · go_wp2_with fail
      exact bodyPost_ret (v := .tuple #[.agg #[.bool (true != true), .slice aq mq cq], .agg #[.bool false, .slice ar 0 cr]]) (by simp [results, Tryd.results33, go_sem, q1, q2, q5, q6]) rfl ⟨(true != true), Q, aq, mq, cq, R, ar, 0, cr, rfl, HP.out.1, HP.out.2, (qr_done HB0.out KR.out KS.out HB.out HQ.out _ _ _ _).1, (qr_done HB0.out KR.out KS.out HB.out HR.out _ _ _ _).1, (qr_done HB0.out KR.out KS.out HB.out HR.out _ _ _ _).2⟩

set_option maxRecDepth 100000 in
set_option maxHeartbeats 8000000 in
theorem div_rest (b2 : Bool) (N1 N2 : Nat) (hd : 0 < N2) (hz : 0 < N1 % N2) (a1 a2 : Option Addr) (m1 m2 c1 c2 : Nat) (w : World) (h1 : NatAt w a1 m1 c1 N1) (h2 : NatAt w a2 m2 c2 N2) (l1 : m1 ≤ 900) (l2 : m2 ≤ 900) :
    Calls Tryd.prog 33 #[.agg #[.bool true, .slice a1 m1 c1], .agg #[.bool b2, .slice a2 m2 c2]] w (QRPost w (intD true N1 / intD b2 N2) (intD true N1 % intD b2 N2)) := by
  have hp := div_more (x := intD true N1) (y := intD b2 N2) (c := b2) (by rw [natAbs_intD]) (by rw [natAbs_intD]) (by cases b2 <;> simp [intD] <;> omega) (by rw [natAbs_intD, natAbs_intD]; exact hz)
  rw [natAbs_intD, natAbs_intD] at hp
  have hrl : N1 % N2 ≤ N2 := Nat.le_of_lt (Nat.mod_lt _ hd)
  have hql : N1 / N2 ≤ N1 := Nat.div_le_self _ _
  obtain ⟨W0, hW0, hb0, k1, k2, kR, kS⟩ := four_frame w true b2 a1 a2 m1 m2 c1 c2
  have cd := divide_any N1 N2 hd a1 a2 c1 c2 m1 m2 W0 (h1.below hb0 (Nat.le_refl _)) (h2.below hb0 (Nat.le_refl _)) l1 l2
  have hn1 := (grps_length_iff m1 N1).1 (Nat.le_of_eq h1.1)
  have hn2 := (grps_length_iff m2 N2).1 (Nat.le_of_eq h2.1)
  obtain ⟨X, hX⟩ : ∃ X, intD true N1 / intD b2 N2 = X := ⟨_, rfl⟩
  obtain ⟨Y, hY⟩ : ∃ X, intD true N1 % intD b2 N2 = X := ⟨_, rfl⟩
  obtain ⟨Q, hQ⟩ : ∃ X, N1 / N2 = X := ⟨_, rfl⟩
  obtain ⟨R, hR⟩ : ∃ X, N1 % N2 = X := ⟨_, rfl⟩
  rw [hX, hY, hQ, hR] at hp
  rw [hQ, hR] at cd
  rw [hX, hY]
  rw [hR] at hz hrl
  rw [hQ] at hql
  have kq2 := fun W (b : Below W0.heap.size W0 W) => (h2.below hb0 (Nat.le_refl _)).below b (Nat.le_refl _)
  have hall := fun W (b : Below W0.heap.size W0 W) => And.intro (num_cells (num_kept k1 b)) (num_cells (num_kept k2 b))
  have HALL := Lib.hid hall; have HQ2 := Lib.hid kq2
  have HP := Lib.hid hp; have CD := Lib.hid cd; have HW := Lib.hid hW0; have HB0 := Lib.hid hb0; have KR := Lib.hid kR; have KS := Lib.hid kS
  obtain ⟨⟨p1, p2, _, _⟩, ⟨p3, p4, _, _⟩⟩ := hall W0 (Below.refl _ _)
  have HLB := Lib.hid (And.intro (Nat.lt_of_le_of_lt hql hn1) (Nat.lt_of_le_of_lt hrl hn2))
  clear hp cd hW0 hb0 k1 k2 kR kS hall hX hY hQ hR h1 h2 hn1 hn2 hql kq2
  go_enter Tryd.func33, Tryd.ntmps33
  go_wp2_with (rw [HW.out])
  refine CD.out.mono ?_
  rintro e w5 ⟨aq, cq, mq, ar, cr, mr, rfl, hq, hr, hb⟩
  have hmr : (0 : Int) < (mr : Int) := by
    have := grps_nil_iff hr.1
    omega
  have hmq : mq ≤ 900 := by have := grps_length_le m1 Q HLB.out.1; have := hq.1; omega
  have hmr9 : mr ≤ 900 := by have := grps_length_le m2 R HLB.out.2; have := hr.1; omega
  have hone : ∀ W : World, NatAt (W.alloc (.cells #[.int .i64 1] 3)) (some ⟨W.heap.size, 0, none⟩) 1 1 1 := fun W => by
    have hg : grps 1 = [1] := by rw [grps_pos (by decide)]; rfl
    refine ⟨by rw [hg]; rfl, ?_⟩
    rw [hg]
    exact ⟨by simp, by simp, .inr ⟨W.heap.size, 0, rfl, by simp, new_num1 .i64 W 1 1 rfl _⟩⟩
  have b6 : Below w5.heap.size w5 (w5.alloc (.cells #[.int .i64 1] 3)) := (Below.refl _ _).alloc (Nat.le_refl _) _
  have cp := plus_any3 Q 1 (Q + 1) 1 (by omega) (by omega) (by omega) aq (some ⟨w5.heap.size, 0, none⟩) cq 1 mq 1 (w5.alloc (.cells #[.int .i64 1] 3)).drew
    ((hq.below b6 (Nat.le_refl _)).below (W' := (w5.alloc (.cells #[.int .i64 1] 3)).drew) (k := (w5.alloc (.cells #[.int .i64 1] 3)).heap.size) ⟨rfl, rfl, rfl, Nat.le_refl _, fun _ _ => rfl⟩ (Nat.le_refl _)) ((hone w5).below (W' := (w5.alloc (.cells #[.int .i64 1] 3)).drew) (k := (w5.alloc (.cells #[.int .i64 1] 3)).heap.size) ⟨rfl, rfl, rfl, Nat.le_refl _, fun _ _ => rfl⟩ (Nat.le_refl _)) (by omega) (by omega)
  have cm := fun W (b : Below w5.heap.size w5 W) => plus_any3 N2 R (N2 - R) (-1) (by omega) (by omega) (by omega) a2 ar c2 cr m2 mr W (HQ2.out W (below_of hb b)) (hr.below b (Nat.le_refl _)) (by omega) (by omega)
  have hc4 := fun W (b : Below w5.heap.size w5 W) => show W.cell? ⟨w.heap.size + 1, 1, none⟩ = some (.slice a2 m2 c2) from (HALL.out W (below_of hb b)).2.2.1
  have CP := Lib.hid cp; have CM := Lib.hid cm; have HC4 := Lib.hid hc4; have B6 := Lib.hid b6
  have r1 := (HALL.out w5 hb).1.1
  have HB := Lib.hid hb
  obtain ⟨G, hG⟩ : ∃ G, N2 - R = G := ⟨_, rfl⟩
  rw [hG] at CM HP
  clear hq hr hb p1 p2 p3 p4 CD cp cm hc4 b6 hone hG hrl hz
  go_wp2_with fail
  go_region_held3 (fun W => W.cell? ⟨w.heap.size + 1, 1, none⟩ = some (.slice a2 m2 c2))
    (first | exact HC4.out _ ⟨rfl, rfl, rfl, Nat.le_refl _, fun _ _ => rfl⟩ | exact HC4.out _ ⟨B6.out.os, B6.out.tape, B6.out.output, B6.out.size, B6.out.block⟩ | exact HC4.out _ hbP | exact HC4.out _ hbM)
    (first | (go_at_call 45; (with_reducible refine CP.out.mono ?_); (rintro e wP ⟨adP, cP, qP, rfl, hmP, hhP, hbP'⟩); have hbP : Below w5.heap.size w5 wP := below_of B6.out ⟨hbP'.os, hbP'.tape, hbP'.output, hbP'.size, hbP'.block⟩) | (go_at_call 45; (with_reducible refine (CM.out _ ?_).mono ?_); exact hbP; (rintro e wM ⟨adM, cM, qM, rfl, hmM, hhM, hbM'⟩); have hbM := below_of hbP hbM'))
  all_goals (
    have HBM := Lib.hid (below_of HB.out hbM)
    obtain ⟨⟨s1, s2, _, _⟩, ⟨s3, s4, _, _⟩⟩ := HALL.out wM HBM.out
    obtain ⟨q1, q2, q3, q4⟩ := num_cells (num_kept KR.out HBM.out)
    obtain ⟨q5, q6, q7, q8⟩ := num_cells (num_kept KS.out HBM.out)
    have HNP := Lib.hid (show NatAt wM adP qP cP (Q + 1) from ⟨hmP, hhP.below hbM' (Nat.le_refl _)⟩)
    have HNM := Lib.hid (show NatAt wM adM qM cM G from ⟨hmM, hhM⟩)
    clear hmP hhP hmM hhM hbM hbM' hbP hbP'
    go_wp2_with fail
    exact bodyPost_ret (v := .tuple #[.agg #[.bool (true != b2), .slice adP qP cP], .agg #[.bool false, .slice adM qM cM]]) (by simp [results, Tryd.results33, go_sem, q1, q2, q5, q6]) rfl ⟨(true != b2), Q + 1, adP, qP, cP, G, adM, qM, cM, rfl, HP.out.1, HP.out.2, (qr_done HB0.out KR.out KS.out HBM.out HNP.out _ _ _ _).1, (qr_done HB0.out KR.out KS.out HBM.out HNM.out _ _ _ _).1, (qr_done HB0.out KR.out KS.out HBM.out HNM.out _ _ _ _).2⟩)
theorem divN_any (b1 b2 : Bool) (N1 N2 : Nat) (hd : 0 < N2) (a1 a2 : Option Addr) (m1 m2 c1 c2 : Nat) (w : World) (h1 : NatAt w a1 m1 c1 N1) (h2 : NatAt w a2 m2 c2 N2) (l1 : m1 ≤ 900) (l2 : m2 ≤ 900) :
    Calls Tryd.prog 33 #[.agg #[.bool b1, .slice a1 m1 c1], .agg #[.bool b2, .slice a2 m2 c2]] w (QRPost w (intD b1 N1 / intD b2 N2) (intD b1 N1 % intD b2 N2)) := by
  by_cases hz : b1 = false ∨ N1 % N2 = 0
  · exact div_less b1 b2 N1 N2 hd hz a1 a2 m1 m2 c1 c2 w h1 h2 l1 l2
  · obtain rfl : b1 = true := by
      cases b1
      · exact (hz (.inl rfl)).elim
      · rfl
    exact div_rest b2 N1 N2 hd (Nat.pos_of_ne_zero (fun e => hz (.inr e))) a1 a2 m1 m2 c1 c2 w h1 h2 l1 l2
end Go.Proofs.YtildgpahacaglaaDoor
