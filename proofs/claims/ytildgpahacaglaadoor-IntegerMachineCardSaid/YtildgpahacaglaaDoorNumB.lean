/-
  The contracts of package integer's numbers: products, sums, differences.
-/
import Derived.Test.YtildgpahacaglaaDoorNumA
namespace Go.Proofs.YtildgpahacaglaaDoor
open Go Go.Proofs Go.RowKit Go.Lib

set_option maxRecDepth 100000 in
set_option maxHeartbeats 8000000 in
theorem gcdN_any (b1 b2 : Bool) (N1 N2 : Nat) (a1 a2 : Option Addr) (m1 m2 c1 c2 : Nat) (w : World) (h1 : NatAt w a1 m1 c1 N1) (h2 : NatAt w a2 m2 c2 N2) (l1 : m1 ≤ 900) (l2 : m2 ≤ 900) (hR : Ready w) :
    Calls Tryd.prog 38 #[.agg #[.bool b1, .slice a1 m1 c1], .agg #[.bool b2, .slice a2 m2 c2]] w (NumPost w ((Nat.gcd N1 N2 : Nat) : Int)) := by
  obtain ⟨W0, hW0, hb0, k1, k2, kR⟩ := num_frame w b1 b2 a1 a2 m1 m2 c1 c2
  have cg := gcd_any3 N1 N2 a1 a2 c1 c2 m1 m2 W0 (h1.below hb0 (Nat.le_refl _)) (h2.below hb0 (Nat.le_refl _)) l1 l2 (hR.below hb0)
  obtain ⟨G, hG⟩ : ∃ G, Nat.gcd N1 N2 = G := ⟨_, rfl⟩
  rw [hG] at cg ⊢
  have CG := Lib.hid cg
  have hall := fun W (b : Below W0.heap.size W0 W) => And.intro (num_cells (num_kept k1 b)) (num_cells (num_kept k2 b))
  have HALL := Lib.hid hall
  have HW := Lib.hid hW0; have HB0 := Lib.hid hb0; have KR := Lib.hid kR
  obtain ⟨⟨p1, p2, _, _⟩, ⟨p3, p4, _, _⟩⟩ := hall W0 (Below.refl _ _)
  clear cg hb0 k1 k2 kR h1 h2 hG hW0 hall
  go_enter Tryd.func38, Tryd.ntmps38
  go_wp2_with (rw [HW.out])
  refine CG.out.mono ?_
  rintro e w5 ⟨ad, cap, m, rfl, hm, hh, hb⟩
  obtain ⟨q1, q2, q3, q4⟩ := num_cells (num_kept KR.out hb)
  have HN := Lib.hid (show NatAt w5 ad m cap _ from ⟨hm, hh⟩); have HB := Lib.hid hb
  clear hm hh hb
  clear CG
  go_wp2_with fail
  obtain ⟨d1, d2⟩ := num_done HB0.out KR.out (by omega) HB.out HN.out (.bool false) (.slice ad m cap)
  exact bodyPost_ret (v := .agg #[.bool false, .slice ad m cap]) (by simp [results, Tryd.results38, go_sem, q1, q2]) rfl ⟨false, G, ad, m, cap, rfl, rfl, d1, d2⟩
set_option maxRecDepth 100000 in
set_option maxHeartbeats 8000000 in
theorem timesN_any (b1 b2 : Bool) (N1 N2 : Nat) (a1 a2 : Option Addr) (m1 m2 c1 c2 : Nat) (w : World) (h1 : NatAt w a1 m1 c1 N1) (h2 : NatAt w a2 m2 c2 N2) (l1 : m1 + m2 ≤ 900) :
    Calls Tryd.prog 30 #[.agg #[.bool b1, .slice a1 m1 c1], .agg #[.bool b2, .slice a2 m2 c2]] w (NumPost w (intD b1 N1 * intD b2 N2)) := by
  obtain ⟨W0, hW0, hb0, k1, k2, kR⟩ := num_frame w b1 b2 a1 a2 m1 m2 c1 c2
  have cg := fun W (b : Below W0.heap.size W0 W) => times_any3 N1 N2 a1 a2 c1 c2 m1 m2 W ((h1.below hb0 (Nat.le_refl _)).below b (Nat.le_refl _)) ((h2.below hb0 (Nat.le_refl _)).below b (Nat.le_refl _)) l1
  have he := intD_mul b1 b2 N1 N2
  obtain ⟨G, hG⟩ : ∃ G, N1 * N2 = G := ⟨_, rfl⟩
  rw [hG] at cg he
  rw [← he]
  have CG := Lib.hid cg
  have hall := fun W (b : Below W0.heap.size W0 W) => And.intro (num_cells (num_kept k1 b)) (num_cells (num_kept k2 b))
  have HALL := Lib.hid hall
  have HW := Lib.hid hW0; have HB0 := Lib.hid hb0; have KR := Lib.hid kR
  obtain ⟨⟨p1, p2, _, _⟩, ⟨p3, p4, _, _⟩⟩ := hall W0 (Below.refl _ _)
  have HC4 := Lib.hid (fun W b => show (W.cell? ⟨w.heap.size, 0, none⟩ = some (.bool b1) ∧ W.cell? ⟨w.heap.size, 1, none⟩ = some (.slice a1 m1 c1)) ∧ (W.cell? ⟨w.heap.size + 1, 0, none⟩ = some (.bool b2) ∧ W.cell? ⟨w.heap.size + 1, 1, none⟩ = some (.slice a2 m2 c2)) from ⟨⟨(HALL.out W b).1.1, (HALL.out W b).1.2.1⟩, ⟨(HALL.out W b).2.1, (HALL.out W b).2.2.1⟩⟩)
  clear cg hb0 k1 k2 kR h1 h2 hG hW0 hall p1 p2 p3 p4 he
  go_enter Tryd.func30, Tryd.ntmps30
  go_wp2_with fail
  rw [HW.out]
  go_region_held3 (fun W => (W.cell? ⟨w.heap.size, 0, none⟩ = some (.bool b1) ∧ W.cell? ⟨w.heap.size, 1, none⟩ = some (.slice a1 m1 c1)) ∧ (W.cell? ⟨w.heap.size + 1, 0, none⟩ = some (.bool b2) ∧ W.cell? ⟨w.heap.size + 1, 1, none⟩ = some (.slice a2 m2 c2)))
    (first | exact HC4.out _ ⟨rfl, rfl, rfl, Nat.le_refl _, fun _ _ => rfl⟩ | exact HC4.out _ hb | (obtain ⟨⟨e1, e2⟩, ⟨e3, e4⟩⟩ := HC4.out _ hb; simp [go_sem, e1, e2, e3, e4]))
    ((go_at_call 47; (with_reducible refine (CG.out _ ?_).mono ?_); exact ⟨rfl, rfl, rfl, Nat.le_refl _, fun _ _ => rfl⟩; (rintro e w5 ⟨ad, cap, m, rfl, hm, hh, hb'⟩); have hb : Below W0.heap.size W0 w5 := ⟨hb'.os, hb'.tape, hb'.output, hb'.size, hb'.block⟩; obtain ⟨q1, q2, q3, q4⟩ := num_cells (num_kept KR.out hb)))
  all_goals (
    obtain ⟨q1, q2, q3, q4⟩ := num_cells (num_kept KR.out hb)
    have HN := Lib.hid (show NatAt w5 ad m cap _ from ⟨hm, hh⟩); have HB := Lib.hid hb
    clear hm hh hb
    go_wp2
    obtain ⟨d1, d2⟩ := num_done HB0.out KR.out (by omega) HB.out HN.out (.bool (b1 != b2)) (.slice ad m cap)
    exact bodyPost_ret (v := .agg #[.bool (b1 != b2), .slice ad m cap]) (by simp [results, Tryd.results30, go_sem, q1, q2]; cases b1 <;> cases b2 <;> rfl) rfl ⟨(b1 != b2), G, ad, m, cap, rfl, rfl, d1, d2⟩)
set_option maxRecDepth 100000 in
set_option maxHeartbeats 8000000 in
theorem plus_PP (N1 N2 : Nat) (a1 a2 : Option Addr) (m1 m2 c1 c2 : Nat) (w : World) (h1 : NatAt w a1 m1 c1 N1) (h2 : NatAt w a2 m2 c2 N2) (l1 : m1 ≤ 900) (l2 : m2 ≤ 900) :
    Calls Tryd.prog 28 #[.agg #[.bool false, .slice a1 m1 c1], .agg #[.bool false, .slice a2 m2 c2]] w (NumPost w (intD false N1 + intD false N2)) := by
  obtain ⟨W0, hW0, hb0, k1, k2, kR⟩ := num_frame w false false a1 a2 m1 m2 c1 c2
  have cg := fun W (b : Below W0.heap.size W0 W) => plus_any3 N1 N2 (N1 + N2) (1) (by omega) (by omega) (by omega) a1 a2 c1 c2 m1 m2 W ((h1.below hb0 (Nat.le_refl _)).below b (Nat.le_refl _)) ((h2.below hb0 (Nat.le_refl _)).below b (Nat.le_refl _)) (by omega) (by omega)
  have he : intD false (N1 + N2) = intD false N1 + intD false N2 := by simp [intD] <;> omega
  obtain ⟨G, hG⟩ : ∃ G, N1 + N2 = G := ⟨_, rfl⟩
  rw [hG] at cg he
  rw [← he]
  have CG := Lib.hid cg
  have hall := fun W (b : Below W0.heap.size W0 W) => And.intro (num_cells (num_kept k1 b)) (num_cells (num_kept k2 b))
  have HALL := Lib.hid hall
  have HW := Lib.hid hW0; have HB0 := Lib.hid hb0; have KR := Lib.hid kR
  obtain ⟨⟨p1, p2, _, _⟩, ⟨p3, p4, _, _⟩⟩ := hall W0 (Below.refl _ _)
  have HC4 := Lib.hid (fun W b => show (W.cell? ⟨w.heap.size, 0, none⟩ = some (.bool false) ∧ W.cell? ⟨w.heap.size, 1, none⟩ = some (.slice a1 m1 c1)) ∧ (W.cell? ⟨w.heap.size + 1, 0, none⟩ = some (.bool false) ∧ W.cell? ⟨w.heap.size + 1, 1, none⟩ = some (.slice a2 m2 c2)) from ⟨⟨(HALL.out W b).1.1, (HALL.out W b).1.2.1⟩, ⟨(HALL.out W b).2.1, (HALL.out W b).2.2.1⟩⟩)
  clear cg hb0 k1 k2 kR h1 h2 hG hW0 hall he
  go_enter Tryd.func28, Tryd.ntmps28
  go_wp2_with (rw [HW.out])
  go_region_held3 (fun W => (W.cell? ⟨w.heap.size, 0, none⟩ = some (.bool false) ∧ W.cell? ⟨w.heap.size, 1, none⟩ = some (.slice a1 m1 c1)) ∧ (W.cell? ⟨w.heap.size + 1, 0, none⟩ = some (.bool false) ∧ W.cell? ⟨w.heap.size + 1, 1, none⟩ = some (.slice a2 m2 c2)))
    (first | exact HC4.out _ ⟨rfl, rfl, rfl, Nat.le_refl _, fun _ _ => rfl⟩ | exact HC4.out _ hb | (obtain ⟨⟨e1, e2⟩, ⟨e3, e4⟩⟩ := HC4.out _ hb; simp [go_sem, e1, e2, e3, e4]))
    ((go_at_call 45; (with_reducible refine (CG.out _ ?_).mono ?_); exact ⟨rfl, rfl, rfl, Nat.le_refl _, fun _ _ => rfl⟩; (rintro e w5 ⟨ad, cap, m, rfl, hm, hh, hb'⟩); have hb : Below W0.heap.size W0 w5 := ⟨hb'.os, hb'.tape, hb'.output, hb'.size, hb'.block⟩; obtain ⟨q1, q2, q3, q4⟩ := num_cells (num_kept KR.out hb)))
  all_goals (
    obtain ⟨q1, q2, q3, q4⟩ := num_cells (num_kept KR.out hb)
    have HN := Lib.hid (show NatAt w5 ad m cap _ from ⟨hm, hh⟩); have HB := Lib.hid hb
    clear hm hh hb
    go_wp2
    obtain ⟨d1, d2⟩ := num_done HB0.out KR.out (by omega) HB.out HN.out (.bool false) (.slice ad m cap)
    exact bodyPost_ret (v := .agg #[.bool false, .slice ad m cap]) (by simp [results, Tryd.results28, go_sem, q1, q2]) rfl ⟨false, G, ad, m, cap, rfl, rfl, d1, d2⟩)
set_option maxRecDepth 100000 in
set_option maxHeartbeats 8000000 in
theorem plus_MM (N1 N2 : Nat) (a1 a2 : Option Addr) (m1 m2 c1 c2 : Nat) (w : World) (h1 : NatAt w a1 m1 c1 N1) (h2 : NatAt w a2 m2 c2 N2) (l1 : m1 ≤ 900) (l2 : m2 ≤ 900) :
    Calls Tryd.prog 28 #[.agg #[.bool true, .slice a1 m1 c1], .agg #[.bool true, .slice a2 m2 c2]] w (NumPost w (intD true N1 + intD true N2)) := by
  obtain ⟨W0, hW0, hb0, k1, k2, kR⟩ := num_frame w true true a1 a2 m1 m2 c1 c2
  have cg := fun W (b : Below W0.heap.size W0 W) => plus_any3 N1 N2 (N1 + N2) (1) (by omega) (by omega) (by omega) a1 a2 c1 c2 m1 m2 W ((h1.below hb0 (Nat.le_refl _)).below b (Nat.le_refl _)) ((h2.below hb0 (Nat.le_refl _)).below b (Nat.le_refl _)) (by omega) (by omega)
  have he : intD true (N1 + N2) = intD true N1 + intD true N2 := by simp [intD] <;> omega
  obtain ⟨G, hG⟩ : ∃ G, N1 + N2 = G := ⟨_, rfl⟩
  rw [hG] at cg he
  rw [← he]
  have CG := Lib.hid cg
  have hall := fun W (b : Below W0.heap.size W0 W) => And.intro (num_cells (num_kept k1 b)) (num_cells (num_kept k2 b))
  have HALL := Lib.hid hall
  have HW := Lib.hid hW0; have HB0 := Lib.hid hb0; have KR := Lib.hid kR
  obtain ⟨⟨p1, p2, _, _⟩, ⟨p3, p4, _, _⟩⟩ := hall W0 (Below.refl _ _)
  have HC4 := Lib.hid (fun W b => show (W.cell? ⟨w.heap.size, 0, none⟩ = some (.bool true) ∧ W.cell? ⟨w.heap.size, 1, none⟩ = some (.slice a1 m1 c1)) ∧ (W.cell? ⟨w.heap.size + 1, 0, none⟩ = some (.bool true) ∧ W.cell? ⟨w.heap.size + 1, 1, none⟩ = some (.slice a2 m2 c2)) from ⟨⟨(HALL.out W b).1.1, (HALL.out W b).1.2.1⟩, ⟨(HALL.out W b).2.1, (HALL.out W b).2.2.1⟩⟩)
  clear cg hb0 k1 k2 kR h1 h2 hG hW0 hall he
  go_enter Tryd.func28, Tryd.ntmps28
  go_wp2_with (rw [HW.out])
  go_region_held3 (fun W => (W.cell? ⟨w.heap.size, 0, none⟩ = some (.bool true) ∧ W.cell? ⟨w.heap.size, 1, none⟩ = some (.slice a1 m1 c1)) ∧ (W.cell? ⟨w.heap.size + 1, 0, none⟩ = some (.bool true) ∧ W.cell? ⟨w.heap.size + 1, 1, none⟩ = some (.slice a2 m2 c2)))
    (first | exact HC4.out _ ⟨rfl, rfl, rfl, Nat.le_refl _, fun _ _ => rfl⟩ | exact HC4.out _ hb | (obtain ⟨⟨e1, e2⟩, ⟨e3, e4⟩⟩ := HC4.out _ hb; simp [go_sem, e1, e2, e3, e4]))
    ((go_at_call 45; (with_reducible refine (CG.out _ ?_).mono ?_); exact ⟨rfl, rfl, rfl, Nat.le_refl _, fun _ _ => rfl⟩; (rintro e w5 ⟨ad, cap, m, rfl, hm, hh, hb'⟩); have hb : Below W0.heap.size W0 w5 := ⟨hb'.os, hb'.tape, hb'.output, hb'.size, hb'.block⟩; obtain ⟨q1, q2, q3, q4⟩ := num_cells (num_kept KR.out hb)))
  all_goals (
    obtain ⟨q1, q2, q3, q4⟩ := num_cells (num_kept KR.out hb)
    have HN := Lib.hid (show NatAt w5 ad m cap _ from ⟨hm, hh⟩); have HB := Lib.hid hb
    clear hm hh hb
    go_wp2
    obtain ⟨d1, d2⟩ := num_done HB0.out KR.out (by omega) HB.out HN.out (.bool true) (.slice ad m cap)
    exact bodyPost_ret (v := .agg #[.bool true, .slice ad m cap]) (by simp [results, Tryd.results28, go_sem, q1, q2]) rfl ⟨true, G, ad, m, cap, rfl, rfl, d1, d2⟩)
set_option maxRecDepth 100000 in
set_option maxHeartbeats 8000000 in
theorem plus_PML (N1 N2 : Nat) (a1 a2 : Option Addr) (m1 m2 c1 c2 : Nat) (w : World) (h1 : NatAt w a1 m1 c1 N1) (h2 : NatAt w a2 m2 c2 N2) (l1 : m1 ≤ 900) (l2 : m2 ≤ 900) (hlt : N1 < N2) :
    Calls Tryd.prog 28 #[.agg #[.bool false, .slice a1 m1 c1], .agg #[.bool true, .slice a2 m2 c2]] w (NumPost w (intD false N1 + intD true N2)) := by
  obtain ⟨W0, hW0, hb0, k1, k2, kR⟩ := num_frame w false true a1 a2 m1 m2 c1 c2
  have cg := fun W (b : Below W0.heap.size W0 W) => plus_any3 N2 N1 (N2 - N1) (-1) (by omega) (by omega) (by omega) a2 a1 c2 c1 m2 m1 W ((h2.below hb0 (Nat.le_refl _)).below b (Nat.le_refl _)) ((h1.below hb0 (Nat.le_refl _)).below b (Nat.le_refl _)) (by omega) (by omega)
  have he : intD true (N2 - N1) = intD false N1 + intD true N2 := by simp [intD] <;> omega
  obtain ⟨G, hG⟩ : ∃ G, N2 - N1 = G := ⟨_, rfl⟩
  rw [hG] at cg he
  rw [← he]
  have cl := less_any N1 N2 a1 a2 c1 c2 m1 m2 W0 (h1.below hb0 (Nat.le_refl _)) (h2.below hb0 (Nat.le_refl _))
  rw [show decide (N1 < N2) = true from decide_eq_true hlt] at cl
  have CG := Lib.hid cg
  have CL := Lib.hid cl
  have hall := fun W (b : Below W0.heap.size W0 W) => And.intro (num_cells (num_kept k1 b)) (num_cells (num_kept k2 b))
  have HALL := Lib.hid hall
  have HW := Lib.hid hW0; have HB0 := Lib.hid hb0; have KR := Lib.hid kR
  obtain ⟨⟨p1, p2, _, _⟩, ⟨p3, p4, _, _⟩⟩ := hall W0 (Below.refl _ _)
  have HC4 := Lib.hid (fun W b => show (W.cell? ⟨w.heap.size, 0, none⟩ = some (.bool false) ∧ W.cell? ⟨w.heap.size, 1, none⟩ = some (.slice a1 m1 c1)) ∧ (W.cell? ⟨w.heap.size + 1, 0, none⟩ = some (.bool true) ∧ W.cell? ⟨w.heap.size + 1, 1, none⟩ = some (.slice a2 m2 c2)) from ⟨⟨(HALL.out W b).1.1, (HALL.out W b).1.2.1⟩, ⟨(HALL.out W b).2.1, (HALL.out W b).2.2.1⟩⟩)
  clear cg hb0 k1 k2 kR h1 h2 hG hW0 hall he cl
  go_enter Tryd.func28, Tryd.ntmps28
  go_wp2_with (rw [HW.out])
  refine CL.out.mono ?_
  rintro e wz ⟨rfl, bz⟩
  obtain ⟨⟨r1, r2⟩, ⟨r3, r4⟩⟩ := HC4.out wz bz
  have BZ := Lib.hid bz
  have KZ := Lib.hid (num_kept KR.out bz)
  clear p1 p2 p3 p4 bz CL
  go_wp2_with fail
  go_region_held3 (fun W => (W.cell? ⟨w.heap.size, 0, none⟩ = some (.bool false) ∧ W.cell? ⟨w.heap.size, 1, none⟩ = some (.slice a1 m1 c1)) ∧ (W.cell? ⟨w.heap.size + 1, 0, none⟩ = some (.bool true) ∧ W.cell? ⟨w.heap.size + 1, 1, none⟩ = some (.slice a2 m2 c2)))
    (first | exact HC4.out _ ⟨BZ.out.os, BZ.out.tape, BZ.out.output, BZ.out.size, BZ.out.block⟩ | exact HC4.out _ (below_of BZ.out hb) | (obtain ⟨⟨e1, e2⟩, ⟨e3, e4⟩⟩ := HC4.out _ (below_of BZ.out hb); simp [go_sem, e1, e2, e3, e4]))
    ((go_at_call 45; (with_reducible refine (CG.out _ ?_).mono ?_); exact ⟨BZ.out.os, BZ.out.tape, BZ.out.output, BZ.out.size, BZ.out.block⟩; (rintro e w5 ⟨ad, cap, m, rfl, hm, hh, hb'⟩); have hb : Below wz.heap.size wz w5 := ⟨hb'.os, hb'.tape, hb'.output, hb'.size, hb'.block⟩; obtain ⟨q1, q2, q3, q4⟩ := num_cells (num_kept KZ.out hb)))
  all_goals (
    obtain ⟨q1, q2, q3, q4⟩ := num_cells (num_kept KZ.out hb)
    have HN := Lib.hid (show NatAt w5 ad m cap _ from ⟨hm, hh⟩); have HB := Lib.hid (below_of BZ.out hb)
    clear hm hh hb
    go_wp2
    obtain ⟨d1, d2⟩ := num_done HB0.out KR.out (by omega) HB.out HN.out (.bool true) (.slice ad m cap)
    exact bodyPost_ret (v := .agg #[.bool true, .slice ad m cap]) (by simp [results, Tryd.results28, go_sem, q1, q2]) rfl ⟨true, G, ad, m, cap, rfl, rfl, d1, d2⟩)
set_option maxRecDepth 100000 in
set_option maxHeartbeats 8000000 in
theorem plus_PMG (N1 N2 : Nat) (a1 a2 : Option Addr) (m1 m2 c1 c2 : Nat) (w : World) (h1 : NatAt w a1 m1 c1 N1) (h2 : NatAt w a2 m2 c2 N2) (l1 : m1 ≤ 900) (l2 : m2 ≤ 900) (hlt : ¬ N1 < N2) :
    Calls Tryd.prog 28 #[.agg #[.bool false, .slice a1 m1 c1], .agg #[.bool true, .slice a2 m2 c2]] w (NumPost w (intD false N1 + intD true N2)) := by
  obtain ⟨W0, hW0, hb0, k1, k2, kR⟩ := num_frame w false true a1 a2 m1 m2 c1 c2
  have cg := fun W (b : Below W0.heap.size W0 W) => plus_any3 N1 N2 (N1 - N2) (-1) (by omega) (by omega) (by omega) a1 a2 c1 c2 m1 m2 W ((h1.below hb0 (Nat.le_refl _)).below b (Nat.le_refl _)) ((h2.below hb0 (Nat.le_refl _)).below b (Nat.le_refl _)) (by omega) (by omega)
  have he : intD false (N1 - N2) = intD false N1 + intD true N2 := by simp [intD] <;> omega
  obtain ⟨G, hG⟩ : ∃ G, N1 - N2 = G := ⟨_, rfl⟩
  rw [hG] at cg he
  rw [← he]
  have cl := less_any N1 N2 a1 a2 c1 c2 m1 m2 W0 (h1.below hb0 (Nat.le_refl _)) (h2.below hb0 (Nat.le_refl _))
  rw [show decide (N1 < N2) = false from decide_eq_false hlt] at cl
  have CG := Lib.hid cg
  have CL := Lib.hid cl
  have hall := fun W (b : Below W0.heap.size W0 W) => And.intro (num_cells (num_kept k1 b)) (num_cells (num_kept k2 b))
  have HALL := Lib.hid hall
  have HW := Lib.hid hW0; have HB0 := Lib.hid hb0; have KR := Lib.hid kR
  obtain ⟨⟨p1, p2, _, _⟩, ⟨p3, p4, _, _⟩⟩ := hall W0 (Below.refl _ _)
  have HC4 := Lib.hid (fun W b => show (W.cell? ⟨w.heap.size, 0, none⟩ = some (.bool false) ∧ W.cell? ⟨w.heap.size, 1, none⟩ = some (.slice a1 m1 c1)) ∧ (W.cell? ⟨w.heap.size + 1, 0, none⟩ = some (.bool true) ∧ W.cell? ⟨w.heap.size + 1, 1, none⟩ = some (.slice a2 m2 c2)) from ⟨⟨(HALL.out W b).1.1, (HALL.out W b).1.2.1⟩, ⟨(HALL.out W b).2.1, (HALL.out W b).2.2.1⟩⟩)
  clear cg hb0 k1 k2 kR h1 h2 hG hW0 hall he cl
  go_enter Tryd.func28, Tryd.ntmps28
  go_wp2_with (rw [HW.out])
  refine CL.out.mono ?_
  rintro e wz ⟨rfl, bz⟩
  obtain ⟨⟨r1, r2⟩, ⟨r3, r4⟩⟩ := HC4.out wz bz
  have BZ := Lib.hid bz
  have KZ := Lib.hid (num_kept KR.out bz)
  clear p1 p2 p3 p4 bz CL
  go_wp2_with fail
  go_region_held3 (fun W => (W.cell? ⟨w.heap.size, 0, none⟩ = some (.bool false) ∧ W.cell? ⟨w.heap.size, 1, none⟩ = some (.slice a1 m1 c1)) ∧ (W.cell? ⟨w.heap.size + 1, 0, none⟩ = some (.bool true) ∧ W.cell? ⟨w.heap.size + 1, 1, none⟩ = some (.slice a2 m2 c2)))
    (first | exact HC4.out _ ⟨BZ.out.os, BZ.out.tape, BZ.out.output, BZ.out.size, BZ.out.block⟩ | exact HC4.out _ (below_of BZ.out hb) | (obtain ⟨⟨e1, e2⟩, ⟨e3, e4⟩⟩ := HC4.out _ (below_of BZ.out hb); simp [go_sem, e1, e2, e3, e4]))
    ((go_at_call 45; (with_reducible refine (CG.out _ ?_).mono ?_); exact ⟨BZ.out.os, BZ.out.tape, BZ.out.output, BZ.out.size, BZ.out.block⟩; (rintro e w5 ⟨ad, cap, m, rfl, hm, hh, hb'⟩); have hb : Below wz.heap.size wz w5 := ⟨hb'.os, hb'.tape, hb'.output, hb'.size, hb'.block⟩; obtain ⟨q1, q2, q3, q4⟩ := num_cells (num_kept KZ.out hb)))
  all_goals (
    obtain ⟨q1, q2, q3, q4⟩ := num_cells (num_kept KZ.out hb)
    have HN := Lib.hid (show NatAt w5 ad m cap _ from ⟨hm, hh⟩); have HB := Lib.hid (below_of BZ.out hb)
    clear hm hh hb
    go_wp2
    obtain ⟨d1, d2⟩ := num_done HB0.out KR.out (by omega) HB.out HN.out (.bool false) (.slice ad m cap)
    exact bodyPost_ret (v := .agg #[.bool false, .slice ad m cap]) (by simp [results, Tryd.results28, go_sem, q1, q2]) rfl ⟨false, G, ad, m, cap, rfl, rfl, d1, d2⟩)
set_option maxRecDepth 100000 in
set_option maxHeartbeats 8000000 in
theorem plus_MPL (N1 N2 : Nat) (a1 a2 : Option Addr) (m1 m2 c1 c2 : Nat) (w : World) (h1 : NatAt w a1 m1 c1 N1) (h2 : NatAt w a2 m2 c2 N2) (l1 : m1 ≤ 900) (l2 : m2 ≤ 900) (hlt : N1 < N2) :
    Calls Tryd.prog 28 #[.agg #[.bool true, .slice a1 m1 c1], .agg #[.bool false, .slice a2 m2 c2]] w (NumPost w (intD true N1 + intD false N2)) := by
  obtain ⟨W0, hW0, hb0, k1, k2, kR⟩ := num_frame w true false a1 a2 m1 m2 c1 c2
  have cg := fun W (b : Below W0.heap.size W0 W) => plus_any3 N2 N1 (N2 - N1) (-1) (by omega) (by omega) (by omega) a2 a1 c2 c1 m2 m1 W ((h2.below hb0 (Nat.le_refl _)).below b (Nat.le_refl _)) ((h1.below hb0 (Nat.le_refl _)).below b (Nat.le_refl _)) (by omega) (by omega)
  have he : intD false (N2 - N1) = intD true N1 + intD false N2 := by simp [intD] <;> omega
  obtain ⟨G, hG⟩ : ∃ G, N2 - N1 = G := ⟨_, rfl⟩
  rw [hG] at cg he
  rw [← he]
  have cl := less_any N1 N2 a1 a2 c1 c2 m1 m2 W0 (h1.below hb0 (Nat.le_refl _)) (h2.below hb0 (Nat.le_refl _))
  rw [show decide (N1 < N2) = true from decide_eq_true hlt] at cl
  have CG := Lib.hid cg
  have CL := Lib.hid cl
  have hall := fun W (b : Below W0.heap.size W0 W) => And.intro (num_cells (num_kept k1 b)) (num_cells (num_kept k2 b))
  have HALL := Lib.hid hall
  have HW := Lib.hid hW0; have HB0 := Lib.hid hb0; have KR := Lib.hid kR
  obtain ⟨⟨p1, p2, _, _⟩, ⟨p3, p4, _, _⟩⟩ := hall W0 (Below.refl _ _)
  have HC4 := Lib.hid (fun W b => show (W.cell? ⟨w.heap.size, 0, none⟩ = some (.bool true) ∧ W.cell? ⟨w.heap.size, 1, none⟩ = some (.slice a1 m1 c1)) ∧ (W.cell? ⟨w.heap.size + 1, 0, none⟩ = some (.bool false) ∧ W.cell? ⟨w.heap.size + 1, 1, none⟩ = some (.slice a2 m2 c2)) from ⟨⟨(HALL.out W b).1.1, (HALL.out W b).1.2.1⟩, ⟨(HALL.out W b).2.1, (HALL.out W b).2.2.1⟩⟩)
  clear cg hb0 k1 k2 kR h1 h2 hG hW0 hall he cl
  go_enter Tryd.func28, Tryd.ntmps28
  go_wp2_with (rw [HW.out])
  refine CL.out.mono ?_
  rintro e wz ⟨rfl, bz⟩
  obtain ⟨⟨r1, r2⟩, ⟨r3, r4⟩⟩ := HC4.out wz bz
  have BZ := Lib.hid bz
  have KZ := Lib.hid (num_kept KR.out bz)
  clear p1 p2 p3 p4 bz CL
  go_wp2_with fail
  go_region_held3 (fun W => (W.cell? ⟨w.heap.size, 0, none⟩ = some (.bool true) ∧ W.cell? ⟨w.heap.size, 1, none⟩ = some (.slice a1 m1 c1)) ∧ (W.cell? ⟨w.heap.size + 1, 0, none⟩ = some (.bool false) ∧ W.cell? ⟨w.heap.size + 1, 1, none⟩ = some (.slice a2 m2 c2)))
    (first | exact HC4.out _ ⟨BZ.out.os, BZ.out.tape, BZ.out.output, BZ.out.size, BZ.out.block⟩ | exact HC4.out _ (below_of BZ.out hb) | (obtain ⟨⟨e1, e2⟩, ⟨e3, e4⟩⟩ := HC4.out _ (below_of BZ.out hb); simp [go_sem, e1, e2, e3, e4]))
    ((go_at_call 45; (with_reducible refine (CG.out _ ?_).mono ?_); exact ⟨BZ.out.os, BZ.out.tape, BZ.out.output, BZ.out.size, BZ.out.block⟩; (rintro e w5 ⟨ad, cap, m, rfl, hm, hh, hb'⟩); have hb : Below wz.heap.size wz w5 := ⟨hb'.os, hb'.tape, hb'.output, hb'.size, hb'.block⟩; obtain ⟨q1, q2, q3, q4⟩ := num_cells (num_kept KZ.out hb)))
  all_goals (
    obtain ⟨q1, q2, q3, q4⟩ := num_cells (num_kept KZ.out hb)
    have HN := Lib.hid (show NatAt w5 ad m cap _ from ⟨hm, hh⟩); have HB := Lib.hid (below_of BZ.out hb)
    clear hm hh hb
    go_wp2
    obtain ⟨d1, d2⟩ := num_done HB0.out KR.out (by omega) HB.out HN.out (.bool false) (.slice ad m cap)
    exact bodyPost_ret (v := .agg #[.bool false, .slice ad m cap]) (by simp [results, Tryd.results28, go_sem, q1, q2]) rfl ⟨false, G, ad, m, cap, rfl, rfl, d1, d2⟩)
set_option maxRecDepth 100000 in
set_option maxHeartbeats 8000000 in
theorem plus_MPG (N1 N2 : Nat) (a1 a2 : Option Addr) (m1 m2 c1 c2 : Nat) (w : World) (h1 : NatAt w a1 m1 c1 N1) (h2 : NatAt w a2 m2 c2 N2) (l1 : m1 ≤ 900) (l2 : m2 ≤ 900) (hlt : ¬ N1 < N2) :
    Calls Tryd.prog 28 #[.agg #[.bool true, .slice a1 m1 c1], .agg #[.bool false, .slice a2 m2 c2]] w (NumPost w (intD true N1 + intD false N2)) := by
  obtain ⟨W0, hW0, hb0, k1, k2, kR⟩ := num_frame w true false a1 a2 m1 m2 c1 c2
  have cg := fun W (b : Below W0.heap.size W0 W) => plus_any3 N1 N2 (N1 - N2) (-1) (by omega) (by omega) (by omega) a1 a2 c1 c2 m1 m2 W ((h1.below hb0 (Nat.le_refl _)).below b (Nat.le_refl _)) ((h2.below hb0 (Nat.le_refl _)).below b (Nat.le_refl _)) (by omega) (by omega)
  have he : intD true (N1 - N2) = intD true N1 + intD false N2 := by simp [intD] <;> omega
  obtain ⟨G, hG⟩ : ∃ G, N1 - N2 = G := ⟨_, rfl⟩
  rw [hG] at cg he
  rw [← he]
  have cl := less_any N1 N2 a1 a2 c1 c2 m1 m2 W0 (h1.below hb0 (Nat.le_refl _)) (h2.below hb0 (Nat.le_refl _))
  rw [show decide (N1 < N2) = false from decide_eq_false hlt] at cl
  have CG := Lib.hid cg
  have CL := Lib.hid cl
  have hall := fun W (b : Below W0.heap.size W0 W) => And.intro (num_cells (num_kept k1 b)) (num_cells (num_kept k2 b))
  have HALL := Lib.hid hall
  have HW := Lib.hid hW0; have HB0 := Lib.hid hb0; have KR := Lib.hid kR
  obtain ⟨⟨p1, p2, _, _⟩, ⟨p3, p4, _, _⟩⟩ := hall W0 (Below.refl _ _)
  have HC4 := Lib.hid (fun W b => show (W.cell? ⟨w.heap.size, 0, none⟩ = some (.bool true) ∧ W.cell? ⟨w.heap.size, 1, none⟩ = some (.slice a1 m1 c1)) ∧ (W.cell? ⟨w.heap.size + 1, 0, none⟩ = some (.bool false) ∧ W.cell? ⟨w.heap.size + 1, 1, none⟩ = some (.slice a2 m2 c2)) from ⟨⟨(HALL.out W b).1.1, (HALL.out W b).1.2.1⟩, ⟨(HALL.out W b).2.1, (HALL.out W b).2.2.1⟩⟩)
  clear cg hb0 k1 k2 kR h1 h2 hG hW0 hall he cl
  go_enter Tryd.func28, Tryd.ntmps28
  go_wp2_with (rw [HW.out])
  refine CL.out.mono ?_
  rintro e wz ⟨rfl, bz⟩
  obtain ⟨⟨r1, r2⟩, ⟨r3, r4⟩⟩ := HC4.out wz bz
  have BZ := Lib.hid bz
  have KZ := Lib.hid (num_kept KR.out bz)
  clear p1 p2 p3 p4 bz CL
  go_wp2_with fail
  go_region_held3 (fun W => (W.cell? ⟨w.heap.size, 0, none⟩ = some (.bool true) ∧ W.cell? ⟨w.heap.size, 1, none⟩ = some (.slice a1 m1 c1)) ∧ (W.cell? ⟨w.heap.size + 1, 0, none⟩ = some (.bool false) ∧ W.cell? ⟨w.heap.size + 1, 1, none⟩ = some (.slice a2 m2 c2)))
    (first | exact HC4.out _ ⟨BZ.out.os, BZ.out.tape, BZ.out.output, BZ.out.size, BZ.out.block⟩ | exact HC4.out _ (below_of BZ.out hb) | (obtain ⟨⟨e1, e2⟩, ⟨e3, e4⟩⟩ := HC4.out _ (below_of BZ.out hb); simp [go_sem, e1, e2, e3, e4]))
    ((go_at_call 45; (with_reducible refine (CG.out _ ?_).mono ?_); exact ⟨BZ.out.os, BZ.out.tape, BZ.out.output, BZ.out.size, BZ.out.block⟩; (rintro e w5 ⟨ad, cap, m, rfl, hm, hh, hb'⟩); have hb : Below wz.heap.size wz w5 := ⟨hb'.os, hb'.tape, hb'.output, hb'.size, hb'.block⟩; obtain ⟨q1, q2, q3, q4⟩ := num_cells (num_kept KZ.out hb)))
  all_goals (
    obtain ⟨q1, q2, q3, q4⟩ := num_cells (num_kept KZ.out hb)
    have HN := Lib.hid (show NatAt w5 ad m cap _ from ⟨hm, hh⟩); have HB := Lib.hid (below_of BZ.out hb)
    clear hm hh hb
    go_wp2
    obtain ⟨d1, d2⟩ := num_done HB0.out KR.out (by omega) HB.out HN.out (.bool true) (.slice ad m cap)
    exact bodyPost_ret (v := .agg #[.bool true, .slice ad m cap]) (by simp [results, Tryd.results28, go_sem, q1, q2]) rfl ⟨true, G, ad, m, cap, rfl, rfl, d1, d2⟩)
theorem plusN_any (b1 b2 : Bool) (N1 N2 : Nat) (a1 a2 : Option Addr) (m1 m2 c1 c2 : Nat) (w : World) (h1 : NatAt w a1 m1 c1 N1) (h2 : NatAt w a2 m2 c2 N2) (l1 : m1 ≤ 900) (l2 : m2 ≤ 900) :
    Calls Tryd.prog 28 #[.agg #[.bool b1, .slice a1 m1 c1], .agg #[.bool b2, .slice a2 m2 c2]] w (NumPost w (intD b1 N1 + intD b2 N2)) := by
  cases b1 <;> cases b2
  · exact plus_PP N1 N2 a1 a2 m1 m2 c1 c2 w h1 h2 l1 l2
  · by_cases h : N1 < N2
    · exact plus_PML N1 N2 a1 a2 m1 m2 c1 c2 w h1 h2 l1 l2 h
    · exact plus_PMG N1 N2 a1 a2 m1 m2 c1 c2 w h1 h2 l1 l2 h
  · by_cases h : N1 < N2
    · exact plus_MPL N1 N2 a1 a2 m1 m2 c1 c2 w h1 h2 l1 l2 h
    · exact plus_MPG N1 N2 a1 a2 m1 m2 c1 c2 w h1 h2 l1 l2 h
  · exact plus_MM N1 N2 a1 a2 m1 m2 c1 c2 w h1 h2 l1 l2
set_option maxRecDepth 100000 in
set_option maxHeartbeats 8000000 in
theorem minusN_any (b1 b2 : Bool) (N1 N2 : Nat) (a1 a2 : Option Addr) (m1 m2 c1 c2 : Nat) (w : World) (h1 : NatAt w a1 m1 c1 N1) (h2 : NatAt w a2 m2 c2 N2) (l1 : m1 ≤ 900) (l2 : m2 ≤ 900) :
    Calls Tryd.prog 29 #[.agg #[.bool b1, .slice a1 m1 c1], .agg #[.bool b2, .slice a2 m2 c2]] w (NumPost w (intD b1 N1 - intD b2 N2)) := by
  obtain ⟨W0, hW0, hb0, k1, k2, kR⟩ := num_frame w b1 b2 a1 a2 m1 m2 c1 c2
  have cg := plusN_any b1 (!b2) N1 N2 a1 a2 m1 m2 c1 c2 W0 (h1.below hb0 (Nat.le_refl _)) (h2.below hb0 (Nat.le_refl _)) l1 l2
  have he : intD b1 N1 + intD (!b2) N2 = intD b1 N1 - intD b2 N2 := by cases b2 <;> simp [intD] <;> omega
  rw [he] at cg
  obtain ⟨X, hX⟩ : ∃ X, intD b1 N1 - intD b2 N2 = X := ⟨_, rfl⟩
  rw [hX] at cg ⊢
  have hl1 := fun W (b : Below W0.heap.size W0 W) => num_kept k1 b
  have CG := Lib.hid cg
  have hall := fun W (b : Below W0.heap.size W0 W) => And.intro (num_cells (num_kept k1 b)) (num_cells (num_kept k2 b))
  have HALL := Lib.hid hall
  have HW := Lib.hid hW0; have HB0 := Lib.hid hb0; have KR := Lib.hid kR
  obtain ⟨⟨p1, p2, _, _⟩, ⟨p3, p4, _, _⟩⟩ := hall W0 (Below.refl _ _)
  clear cg hb0 k2 kR h1 h2 hX hW0 hall he hl1
  go_enter Tryd.func29, Tryd.ntmps29
  go_wp2_with (rw [HW.out])
  refine CG.out.mono ?_
  rintro e w5 ⟨neg, G, ad, m, cap, rfl, hg, hn, hb⟩
  obtain ⟨q1, q2, q3, q4⟩ := num_cells (num_kept KR.out hb)
  have HG := Lib.hid hg; have HN := Lib.hid hn; have HB := Lib.hid hb
  clear CG hn hb hg
  go_wp2_with fail
  obtain ⟨d1, d2⟩ := num_done HB0.out KR.out (by omega) HB.out HN.out (.bool neg) (.slice ad m cap)
  exact bodyPost_ret (v := .agg #[.bool neg, .slice ad m cap]) (by simp [results, Tryd.results29, go_sem, q1, q2]) rfl ⟨neg, G, ad, m, cap, rfl, HG.out, d1, d2⟩
end Go.Proofs.YtildgpahacaglaaDoor
