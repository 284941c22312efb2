/-
  UnitMatchesReference: its walk.
-/
import Derived.Test.YtcglcgphgahnpaaGreatDoorJ25
import Derived.Test.YtcglcgphgahnpaaGreatDoorJ37
namespace Go.Proofs.YtcglcgphgahnpaaGreatDoor
open Go Go.Proofs Go.RowKit Go.Lib
theorem qtys_elem : Tryz.prog.underlying 32 = some (.slice (Tryz.prog.elem 32)) := by kernel_rfl
theorem qtys_cells (w : World) : (Go.sizeOf (Tryz.prog.elem 32)).run Tryz.prog w = .ok 6 w := by kernel_rfl
theorem at_qtys (g n k : Nat) (hk : k < n) (w : World) : (Instr.indexAt 32 (.slice (some ⟨g, 0, none⟩) n n) (.int .i64 (k : Int))).run Tryz.prog w = .ok (.pointer (some ⟨g, 6 * k, none⟩)) w := by
 rw [run_indexAt_slice w 32 _ _ _ _ _ qtys_elem, if_pos (by omega)]
 simp [qtys_cells, add_at, Result.andThen]
def QtyAt (W : World) (G k : Nat) (g : Qt) : Prop :=
 W.cell? ⟨G, 6 * k, none⟩ = some (.string g.n) ∧ W.cell? ⟨G, 6 * k + 1, none⟩ = some (.string g.d) ∧ W.cell? ⟨G, 6 * k + 2, none⟩ = some (.int .i64 g.t) ∧ W.cell? ⟨G, 6 * k + 3, none⟩ = some (.int .i64 g.b) ∧ W.cell? ⟨G, 6 * k + 4, none⟩ = some (.int .i64 g.m) ∧ W.cell? ⟨G, 6 * k + 5, none⟩ = some (.int .i64 g.c)
theorem Set5.ready {W : World} (h : Set5 W) : Ready W := h.1
theorem cells_lt5 {W : World} {B : Nat} {v : Value} {vs : List Value} (h : CellsAt W B (v :: vs)) : B < W.heap.size := World.block_lt_of_cell? W ⟨B, 0, none⟩ (h 0 (Nat.zero_lt_succ _)).1
theorem eq_self6 (q : Qt) (W : World) : (Op.equalIn 10000 27 (.agg #[.string q.n, .string q.d, .int .i64 q.t, .int .i64 q.b, .int .i64 q.m, .int .i64 q.c]) (.agg #[.string q.n, .string q.d, .int .i64 q.t, .int .i64 q.b, .int .i64 q.m, .int .i64 q.c])).run Tryz.prog W = .ok true W := by
 rw [eq_qty6, decide_eq_true (show q.n = q.n ∧ q.d = q.d ∧ q.t = q.t ∧ q.b = q.b ∧ q.m = q.m ∧ q.c = q.c from ⟨rfl, rfl, rfl, rfl, rfl, rfl⟩)]
set_option maxRecDepth 100000 in
set_option maxHeartbeats 200000000 in
theorem unitMatches_walk (xn xd : ByteArray) (xt xb xm xc : Int) (yn yd : ByteArray) (yt yb ym yc : Int) (m0 m1 m2 m3 n0 n1 n2 n3 : Int) (hxn : xn.size ≤ maxLen) (hxd : xd.size ≤ maxLen) (hyn : yn.size ≤ maxLen) (hyd : yd.size ≤ maxLen) (am0 : -9223372036854775808 ≤ m0) (cm0 : m0 ≤ 9223372036854775807) (am1 : -9223372036854775808 ≤ m1) (cm1 : m1 ≤ 9223372036854775807) (am2 : -9223372036854775808 ≤ m2) (cm2 : m2 ≤ 9223372036854775807) (am3 : -9223372036854775808 ≤ m3) (cm3 : m3 ≤ 9223372036854775807) (an0 : -9223372036854775808 ≤ n0) (cn0 : n0 ≤ 9223372036854775807) (an1 : -9223372036854775808 ≤ n1) (cn1 : n1 ≤ 9223372036854775807) (an2 : -9223372036854775808 ≤ n2) (cn2 : n2 ≤ 9223372036854775807) (an3 : -9223372036854775808 ≤ n3) (cn3 : n3 ≤ 9223372036854775807) (w : World) (hR : Set5 w) : Calls Tryz.prog 3 #[.agg #[.string xn, .string xd, .int .i64 xt, .int .i64 xb, .int .i64 xm, .int .i64 xc], .agg #[.string yn, .string yd, .int .i64 yt, .int .i64 yb, .int .i64 ym, .int .i64 yc], .agg #[.int .i64 m0, .int .i64 m1, .int .i64 m2, .int .i64 m3], .agg #[.int .i64 n0, .int .i64 n1, .int .i64 n2, .int .i64 n3]] w fun e w' => e = .returned (.bool true) ∧ Below w.heap.size w w' := by
 obtain ⟨W0, hW0, b0', s0, hcc⟩ := lay4 w (.string xn) [.string xd, .int .i64 xt, .int .i64 xb, .int .i64 xm, .int .i64 xc] 27 (.string yn) [.string yd, .int .i64 yt, .int .i64 yb, .int .i64 ym, .int .i64 yc] 27 (.int .i64 m0) [.int .i64 m1, .int .i64 m2, .int .i64 m3] 28 (.int .i64 n0) [.int .i64 n1, .int .i64 n2, .int .i64 n3] 28
 have mm := fun W => made_any5 m0 m1 m2 m3 am0 cm0 am1 cm1 am2 cm2 am3 cm3 W
 have mn := fun W => made_any5 n0 n1 n2 n3 an0 cn0 an1 cn1 an2 cn2 an3 cn3 W
 have cux := fun W => cut_any5 xn xd xt xb xm xc hxn hxd W
 have cuy := fun W => cut_any5 yn yd yt yb ym yc hyn hyd W
 have op := made_ok m0 m1 m2 m3; have oq := made_ok n0 n1 n2 n3
 generalize madeQt m0 m1 m2 m3 = p at *
 generalize madeQt n0 n1 n2 n3 = q at *
 have SP := hid (And.intro (Qt.short_ok op) (Qt.short_ok oq))
 have HW := hid hW0; have B0 := hid b0'; have HC := hid hcc; have HR := hid (hR.below b0'); have LOW := hid (show w.heap.size ≤ w.heap.size from Nat.le_refl _)
 have SANE := hid (fun W h => sane_any5 W h); have Mm := hid mm; have Mn := hid mn; have CUX := hid cux; have CUY := hid cuy
 clear hW0 b0' s0 hcc hR mm mn cux cuy op oq hxn hxd hyn hyd am0 cm0 am1 cm1 am2 cm2 am3 cm3 an0 cn0 an1 cn1 an2 cn2 an3 cn3
 go_enter Tryz.func3, Tryz.ntmps3
 have P0 := hid (Below.refl W0.heap.size W0)
 have E0 := hid (fun W (b : Below W0.heap.size W0 W) => And.intro (HC.out W b).2.2.2 (And.intro (HC.out W b).2.2.1 (And.intro (HC.out W b).2.1 (And.intro (HC.out W b).1 trivial))))
 go_wp2_with (rw [HW.out])
 refine (SANE.out _ (HR.out.below P0.out)).mono ?_
 rintro e z1 ⟨rfl, b1⟩
 have B1 := hid b1
 have P1 := hid (below_up P0.out b1)
 have E1 := hid (fun W (b : Below z1.heap.size z1 W) => E0.out W (below_up B1.out b))
 clear b1
 go_upto_region 2 with fail
 go_cut [10] from 26 to 34 (fun sa wx => ∃ G : Nat, sa = .slice (some ⟨G, 0, none⟩) 4 4 ∧ Hid (CellsAt wx G [.string (cut70 xn), .string (cut70 xd), .int .i64 xt, .int .i64 xb, .int .i64 xm, .int .i64 xc, .string (cut70 yn), .string (cut70 yd), .int .i64 yt, .int .i64 yb, .int .i64 ym, .int .i64 yc, .string p.n, .string p.d, .int .i64 p.t, .int .i64 p.b, .int .i64 p.m, .int .i64 p.c, .string q.n, .string q.d, .int .i64 q.t, .int .i64 q.b, .int .i64 q.m, .int .i64 q.c]) ∧ Hid (Below z1.heap.size z1 wx))
 case first =>
  have K := hid (show ∀ W, Below z1.heap.size z1 W → ((W.cell? ⟨w.heap.size, 0, none⟩ = some (.string xn) ∧ W.cell? ⟨w.heap.size, 1, none⟩ = some (.string xd) ∧ W.cell? ⟨w.heap.size, 2, none⟩ = some (.int .i64 xt) ∧ W.cell? ⟨w.heap.size, 3, none⟩ = some (.int .i64 xb) ∧ W.cell? ⟨w.heap.size, 4, none⟩ = some (.int .i64 xm) ∧ W.cell? ⟨w.heap.size, 5, none⟩ = some (.int .i64 xc)) ∧ (W.cell? ⟨w.heap.size + 1, 0, none⟩ = some (.string yn) ∧ W.cell? ⟨w.heap.size + 1, 1, none⟩ = some (.string yd) ∧ W.cell? ⟨w.heap.size + 1, 2, none⟩ = some (.int .i64 yt) ∧ W.cell? ⟨w.heap.size + 1, 3, none⟩ = some (.int .i64 yb) ∧ W.cell? ⟨w.heap.size + 1, 4, none⟩ = some (.int .i64 ym) ∧ W.cell? ⟨w.heap.size + 1, 5, none⟩ = some (.int .i64 yc)) ∧ (W.cell? ⟨w.heap.size + 1 + 1, 0, none⟩ = some (.int .i64 m0) ∧ W.cell? ⟨w.heap.size + 1 + 1, 1, none⟩ = some (.int .i64 m1) ∧ W.cell? ⟨w.heap.size + 1 + 1, 2, none⟩ = some (.int .i64 m2) ∧ W.cell? ⟨w.heap.size + 1 + 1, 3, none⟩ = some (.int .i64 m3)) ∧ (W.cell? ⟨w.heap.size + 1 + 1 + 1, 0, none⟩ = some (.int .i64 n0) ∧ W.cell? ⟨w.heap.size + 1 + 1 + 1, 1, none⟩ = some (.int .i64 n1) ∧ W.cell? ⟨w.heap.size + 1 + 1 + 1, 2, none⟩ = some (.int .i64 n2) ∧ W.cell? ⟨w.heap.size + 1 + 1 + 1, 3, none⟩ = some (.int .i64 n3))) from fun W b => ⟨(six_facts (E1.out W b).2.2.2.1).1, (six_facts (E1.out W b).2.2.1).1, (four_facts (E1.out W b).2.1).1, (four_facts (E1.out W b).1).1⟩)
  have HRz := hid (HR.out.below P1.out)
  have g := Below.refl z1.heap.size z1
  go_region_held3 (fun W => (W.cell? ⟨w.heap.size, 0, none⟩ = some (.string xn) ∧ W.cell? ⟨w.heap.size, 1, none⟩ = some (.string xd) ∧ W.cell? ⟨w.heap.size, 2, none⟩ = some (.int .i64 xt) ∧ W.cell? ⟨w.heap.size, 3, none⟩ = some (.int .i64 xb) ∧ W.cell? ⟨w.heap.size, 4, none⟩ = some (.int .i64 xm) ∧ W.cell? ⟨w.heap.size, 5, none⟩ = some (.int .i64 xc)) ∧ (W.cell? ⟨w.heap.size + 1, 0, none⟩ = some (.string yn) ∧ W.cell? ⟨w.heap.size + 1, 1, none⟩ = some (.string yd) ∧ W.cell? ⟨w.heap.size + 1, 2, none⟩ = some (.int .i64 yt) ∧ W.cell? ⟨w.heap.size + 1, 3, none⟩ = some (.int .i64 yb) ∧ W.cell? ⟨w.heap.size + 1, 4, none⟩ = some (.int .i64 ym) ∧ W.cell? ⟨w.heap.size + 1, 5, none⟩ = some (.int .i64 yc)) ∧ (W.cell? ⟨w.heap.size + 1 + 1, 0, none⟩ = some (.int .i64 m0) ∧ W.cell? ⟨w.heap.size + 1 + 1, 1, none⟩ = some (.int .i64 m1) ∧ W.cell? ⟨w.heap.size + 1 + 1, 2, none⟩ = some (.int .i64 m2) ∧ W.cell? ⟨w.heap.size + 1 + 1, 3, none⟩ = some (.int .i64 m3)) ∧ (W.cell? ⟨w.heap.size + 1 + 1 + 1, 0, none⟩ = some (.int .i64 n0) ∧ W.cell? ⟨w.heap.size + 1 + 1 + 1, 1, none⟩ = some (.int .i64 n1) ∧ W.cell? ⟨w.heap.size + 1 + 1 + 1, 2, none⟩ = some (.int .i64 n2) ∧ W.cell? ⟨w.heap.size + 1 + 1 + 1, 3, none⟩ = some (.int .i64 n3))) (first | exact K.out _ g | exact K.out _ ⟨g.os, g.tape, g.output, g.size, g.block⟩ | exact K.out _ (g.alloc g.size _)) (first | (go_at_call 11; (with_reducible refine (CUX.out _).mono ?_); (rintro e y ⟨rfl, k'⟩); (have g : Below z1.heap.size z1 y := below_up (by first | exact g | exact ⟨g.os, g.tape, g.output, g.size, g.block⟩) k')) | (go_at_call 11; (with_reducible refine (CUY.out _).mono ?_); (rintro e y ⟨rfl, k'⟩); (have g : Below z1.heap.size z1 y := below_up (by first | exact g | exact ⟨g.os, g.tape, g.output, g.size, g.block⟩) k')) | (go_at_call 12; (with_reducible refine (Mm.out _).mono ?_); (rintro e y ⟨rfl, k'⟩); (have g : Below z1.heap.size z1 y := below_up (by first | exact g | exact ⟨g.os, g.tape, g.output, g.size, g.block⟩) k')) | (go_at_call 12; (with_reducible refine (Mn.out _).mono ?_); (rintro e y ⟨rfl, k'⟩); (have g : Below z1.heap.size z1 y := below_up (by first | exact g | exact ⟨g.os, g.tape, g.output, g.size, g.block⟩) k')))
  all_goals (
   have g2 : Below z1.heap.size z1 _ := (show Below z1.heap.size z1 _ by first | exact g | exact ⟨g.os, g.tape, g.output, g.size, g.block⟩)
   go_wp2_with fail
   go_meet
   first | exact ⟨_, rfl, hid (cellsAt_new rfl), hid (g2.alloc g2.size _)⟩ | exact ⟨_, rfl, hid (cellsAt_new (by simp)), hid (g2.alloc g2.size _)⟩ | exact ⟨_, rfl, hid (cellsAt_new (by simp)).drew, hid ((g2.alloc g2.size _).trans ⟨rfl, rfl, rfl, Nat.le_refl _, fun _ _ => rfl⟩)⟩)
 obtain ⟨G, rfl, HG, hbx⟩ := hcut
 generalize wc = zg at *
 have PG := hid (below_up P1.out hbx.out)
 have HRG := hid (HR.out.below PG.out)
 have HZQ := hid (show ∀ k : Nat, k < 4 → ∃ g : Qt, g.short ∧ ∀ W, Below zg.heap.size zg W → QtyAt W G k g from fun k hk => by
  have e : k = 0 ∨ k = 1 ∨ k = 2 ∨ k = 3 := by omega
  rcases e with rfl | rfl | rfl | rfl
  · exact ⟨cutQt ⟨xn, xd, xt, xb, xm, xc⟩, cutQt_short _, fun W b => by
     have h := CellsAt.below HG.out b
     exact ⟨(h 0 (by simp)).1, (h 1 (by simp)).1, (h 2 (by simp)).1, (h 3 (by simp)).1, (h 4 (by simp)).1, (h 5 (by simp)).1⟩⟩
  · exact ⟨cutQt ⟨yn, yd, yt, yb, ym, yc⟩, cutQt_short _, fun W b => by
     have h := CellsAt.below HG.out b
     exact ⟨(h 6 (by simp)).1, (h 7 (by simp)).1, (h 8 (by simp)).1, (h 9 (by simp)).1, (h 10 (by simp)).1, (h 11 (by simp)).1⟩⟩
  · exact ⟨p, SP.out.1, fun W b => by
     have h := CellsAt.below HG.out b
     exact ⟨(h 12 (by simp)).1, (h 13 (by simp)).1, (h 14 (by simp)).1, (h 15 (by simp)).1, (h 16 (by simp)).1, (h 17 (by simp)).1⟩⟩
  exact ⟨q, SP.out.2, fun W b => by
   have h := CellsAt.below HG.out b
   exact ⟨(h 18 (by simp)).1, (h 19 (by simp)).1, (h 20 (by simp)).1, (h 21 (by simp)).1, (h 22 (by simp)).1, (h 23 (by simp)).1⟩⟩)
 clear hbx HG CUX CUY Mm Mn HC SANE
 go_wp2_with fail
 go_loopw [11] (fun i wr => ∃ k : Nat, k ≤ 4 ∧ i = .int .i64 k ∧ Hid (Below zg.heap.size zg wr)) (fun i _ => 4 - (RowKit.intOf i).toNat)
 case atStart => exact ⟨0, by omega, rfl, hid (Below.refl _ _)⟩
 obtain ⟨k, hk, rfl, HBW⟩ := hrel
 by_cases hk4 : k < 4
 · skip
   generalize wr = zo at *
   obtain ⟨g1, hgs, hgc⟩ := HZQ.out k hk4
   have HRO := hid (HRG.out.below HBW.out)
   have HG1 := hid (show ∀ W, Below zo.heap.size zo W → (W.cell? ⟨G, 6 * k, none⟩ = some (.string g1.n) ∧ W.cell? ⟨G, 6 * k + 1, none⟩ = some (.string g1.d) ∧ W.cell? ⟨G, 6 * k + 2, none⟩ = some (.int .i64 g1.t) ∧ W.cell? ⟨G, 6 * k + 3, none⟩ = some (.int .i64 g1.b) ∧ W.cell? ⟨G, 6 * k + 4, none⟩ = some (.int .i64 g1.m) ∧ W.cell? ⟨G, 6 * k + 5, none⟩ = some (.int .i64 g1.c)) from fun W b => hgc W (below_up HBW.out b))
   have HGS := hid hgs
   have hki : (k : Int) < 4 := by omega
   have HIK := hid (fun W => at_qtys G 4 k hk4 W)
   have HK4 := hid hk4; have HKI := hid hki
   have cv := fun W h => valid_u g1.n g1.d g1.t g1.b g1.m g1.c (Nat.le_trans hgs.1 (by decide)) (Nat.le_trans hgs.2 (by decide)) W h
   have cw := fun W => validUR_any g1.n g1.d g1.t g1.b g1.m g1.c (Nat.le_trans hgs.1 (by decide)) (Nat.le_trans hgs.2 (by decide)) W
   have cx := fun W => validUnit_u g1.t g1.b g1.m g1.c W
   have cy := fun W => validUnitR_any g1.t g1.b g1.m g1.c W
   generalize okU g1.n g1.d g1.t g1.b g1.m g1.c = VB at *
   generalize okE g1.t g1.b g1.m g1.c = VE at *
   have CV := hid cv; have CW := hid cw; have CX := hid cx; have CY := hid cy
   clear hgc hk hgs cv cw cx cy hk4
   go_upto_region 6 with fail
   clear hki
   go_cut [66] from 41 to 66 (fun sv wx => sv = .bool false ∧ Hid (Below zo.heap.size zo wx))
   case first =>
    as_aux_lemma =>
    have hik := HIK.out
    have g := Below.refl zo.heap.size zo
    go_region_held3 (fun W => (W.cell? ⟨G, 6 * k, none⟩ = some (.string g1.n) ∧ W.cell? ⟨G, 6 * k + 1, none⟩ = some (.string g1.d) ∧ W.cell? ⟨G, 6 * k + 2, none⟩ = some (.int .i64 g1.t) ∧ W.cell? ⟨G, 6 * k + 3, none⟩ = some (.int .i64 g1.b) ∧ W.cell? ⟨G, 6 * k + 4, none⟩ = some (.int .i64 g1.m) ∧ W.cell? ⟨G, 6 * k + 5, none⟩ = some (.int .i64 g1.c))) (first | exact HG1.out _ g | exact HG1.out _ ⟨g.os, g.tape, g.output, g.size, g.block⟩) (first | (go_at_call 13; (with_reducible refine (CV.out _ ?_).mono ?_); (first | exact (HRO.out.below g).1 | exact (HRO.out.below ⟨g.os, g.tape, g.output, g.size, g.block⟩).1); (rintro e y ⟨rfl, k'⟩); (have g : Below zo.heap.size zo y := below_up (by first | exact g | exact ⟨g.os, g.tape, g.output, g.size, g.block⟩) k')) | (go_at_call 14; (with_reducible refine (CW.out _).mono ?_); (rintro e y ⟨rfl, k'⟩); (have g : Below zo.heap.size zo y := below_up (by first | exact g | exact ⟨g.os, g.tape, g.output, g.size, g.block⟩) k')) | (go_at_call 15; (with_reducible refine (CX.out _).mono ?_); (rintro e y ⟨rfl, k'⟩); (have g : Below zo.heap.size zo y := below_up (by first | exact g | exact ⟨g.os, g.tape, g.output, g.size, g.block⟩) k')) | (go_at_call 16; (with_reducible refine (CY.out _).mono ?_); (rintro e y ⟨rfl, k'⟩); (have g : Below zo.heap.size zo y := below_up (by first | exact g | exact ⟨g.os, g.tape, g.output, g.size, g.block⟩) k')))
    all_goals (go_wp2_with fail; go_meet; first | exact ⟨rfl, hid g⟩ | exact ⟨rfl, hid ⟨g.os, g.tape, g.output, g.size, g.block⟩⟩)
   obtain ⟨rfl, hbx⟩ := hcut
   generalize wc = zp at *
   have BP := hbx
   have HRP := hid (HRO.out.below hbx.out)
   clear hbx CV CW CX CY
   go_wp2_with fail
   go_loopw [12] (fun i wr => ∃ k : Nat, k ≤ 4 ∧ i = .int .i64 k ∧ Hid (Below zp.heap.size zp wr)) (fun i _ => 4 - (RowKit.intOf i).toNat)
   case atStart => exact ⟨0, by omega, rfl, hid (Below.refl _ _)⟩
   obtain ⟨j, hj, rfl, HBV⟩ := hrel
   by_cases hj4 : j < 4
   · skip
     generalize wr = zi at *
     obtain ⟨g2, hgs2, hgc2⟩ := HZQ.out j hj4
     have hgs := HGS.out
     have HRI := hid (HRP.out.below HBV.out)
     have K3 := hid (show ∀ W, Below zi.heap.size zi W → (W.cell? ⟨G, 6 * k, none⟩ = some (.string g1.n) ∧ W.cell? ⟨G, 6 * k + 1, none⟩ = some (.string g1.d) ∧ W.cell? ⟨G, 6 * k + 2, none⟩ = some (.int .i64 g1.t) ∧ W.cell? ⟨G, 6 * k + 3, none⟩ = some (.int .i64 g1.b) ∧ W.cell? ⟨G, 6 * k + 4, none⟩ = some (.int .i64 g1.m) ∧ W.cell? ⟨G, 6 * k + 5, none⟩ = some (.int .i64 g1.c)) ∧ (W.cell? ⟨G, 6 * j, none⟩ = some (.string g2.n) ∧ W.cell? ⟨G, 6 * j + 1, none⟩ = some (.string g2.d) ∧ W.cell? ⟨G, 6 * j + 2, none⟩ = some (.int .i64 g2.t) ∧ W.cell? ⟨G, 6 * j + 3, none⟩ = some (.int .i64 g2.b) ∧ W.cell? ⟨G, 6 * j + 4, none⟩ = some (.int .i64 g2.m) ∧ W.cell? ⟨G, 6 * j + 5, none⟩ = some (.int .i64 g2.c)) from fun W b => ⟨HG1.out W (below_up BP.out (below_up HBV.out b)), hgc2 W (below_up HBW.out (below_up BP.out (below_up HBV.out b)))⟩)
     have hji : (j : Int) < 4 := by omega
     have HIJ := hid (fun W => at_qtys G 4 j hj4 W)
     have HJ4 := hid hj4; have HJI := hid hji
     have cadd := fun W h => add_u g1 g2 hgs hgs2 W h
     have dadd := fun W => add_r g1 g2 hgs hgs2 W
     have csub := fun W h => sub_u g1 g2 hgs hgs2 W h
     have dsub := fun W => sub_r g1 g2 hgs hgs2 W
     have cmul := fun W h => mul_u g1 g2 hgs hgs2 W h
     have dmul := fun W => mul_r g1 g2 hgs hgs2 W
     have cdiv := fun W h => div_u g1 g2 hgs hgs2 W h
     have ddiv := fun W => div_r g1 g2 hgs hgs2 W
     have ce := fun W h => cmp_u g1 g2 hgs hgs2 W h
     have cf := fun W => cmp_r g1 g2 hgs hgs2 W
     generalize eU (addX g1 g2) = Eadd at *
     generalize addQt g1 g2 = radd at *
     have eeadd := fun W => eq_self6 radd W
     generalize eU (subX g1 g2) = Esub at *
     generalize subQt g1 g2 = rsub at *
     have eesub := fun W => eq_self6 rsub W
     generalize eU (mulX g1 g2) = Emul at *
     generalize mulQt g1 g2 = rmul at *
     have eemul := fun W => eq_self6 rmul W
     generalize eU (divX g1 g2) = Ediv at *
     generalize divQt g1 g2 = rdiv at *
     have eediv := fun W => eq_self6 rdiv W
     generalize cmpV g1 g2 = CVV at *
     generalize eU (cmpX g1 g2) = CEE at *
     have Cadd := hid cadd; have Dadd := hid dadd; have EEadd := hid eeadd
     clear cadd dadd eeadd
     have Csub := hid csub; have Dsub := hid dsub; have EEsub := hid eesub
     clear csub dsub eesub
     have Cmul := hid cmul; have Dmul := hid dmul; have EEmul := hid eemul
     clear cmul dmul eemul
     have Cdiv := hid cdiv; have Ddiv := hid ddiv; have EEdiv := hid eediv
     clear cdiv ddiv eediv
     have CE := hid ce; have CF := hid cf
     clear hgs hgs2 hgc2 hj ce cf hj4
     have Q0 := hid (Below.refl zi.heap.size zi)
     go_upto_region 11 with fail
     clear hji
     go_cut [13, 14] from 73 to 84 (fun sp se wx => se = .int .i64 Eadd ∧ ∃ A : Nat, sp = .pointer (some ⟨A, 0, none⟩) ∧ Hid (zi.heap.size ≤ A) ∧ Hid (CellsAt wx A [.string radd.n, .string radd.d, .int .i64 radd.t, .int .i64 radd.b, .int .i64 radd.m, .int .i64 radd.c]) ∧ Hid (Below zi.heap.size zi wx))
     case first =>
      as_aux_lemma =>
      have hik := HIK.out; have hij := HIJ.out
      have K4 := hid (fun W (b : Below zi.heap.size zi W) => K3.out W (below_up Q0.out b))
      have HRz := hid (HRI.out.below Q0.out)
      go_region_held3 (fun W => (W.cell? ⟨G, 6 * k, none⟩ = some (.string g1.n) ∧ W.cell? ⟨G, 6 * k + 1, none⟩ = some (.string g1.d) ∧ W.cell? ⟨G, 6 * k + 2, none⟩ = some (.int .i64 g1.t) ∧ W.cell? ⟨G, 6 * k + 3, none⟩ = some (.int .i64 g1.b) ∧ W.cell? ⟨G, 6 * k + 4, none⟩ = some (.int .i64 g1.m) ∧ W.cell? ⟨G, 6 * k + 5, none⟩ = some (.int .i64 g1.c)) ∧ (W.cell? ⟨G, 6 * j, none⟩ = some (.string g2.n) ∧ W.cell? ⟨G, 6 * j + 1, none⟩ = some (.string g2.d) ∧ W.cell? ⟨G, 6 * j + 2, none⟩ = some (.int .i64 g2.t) ∧ W.cell? ⟨G, 6 * j + 3, none⟩ = some (.int .i64 g2.b) ∧ W.cell? ⟨G, 6 * j + 4, none⟩ = some (.int .i64 g2.m) ∧ W.cell? ⟨G, 6 * j + 5, none⟩ = some (.int .i64 g2.c))) (first | with_reducible exact K4.out _ h2 | with_reducible exact K4.out _ (h2.alloc h2.size _) | with_reducible exact K4.out _ (qty_below (Nat.le_refl _) h2 _ _ _ _ _ _) | with_reducible exact K4.out _ (qty_below h2.size h2 _ _ _ _ _ _) | with_reducible exact K4.out _ (((Below.refl _ _).alloc (Nat.le_refl _) _).drew) | with_reducible exact K4.out _ ((Below.refl _ _).drew.alloc (Nat.le_refl _) _) | with_reducible exact K4.out _ ((Below.refl _ _).alloc (Nat.le_refl _) _) | with_reducible exact K4.out _ (Below.refl _ _).drew | with_reducible exact K4.out _ (Below.refl _ _)) (first | (go_at_call 17; (with_reducible refine (Cadd.out _ (Set5.ready (HRz.out.below (by first | with_reducible exact (Below.refl _ _).drew | with_reducible exact ((Below.refl _ _).alloc (Nat.le_refl _) _).drew | with_reducible exact ((Below.refl _ _).drew.alloc (Nat.le_refl _) _) | with_reducible exact Below.refl _ _ | with_reducible exact (Below.refl _ _).alloc (Nat.le_refl _) _)))).mono ?_); (rintro e1 y2 ⟨rfl, hb2'⟩); (have h2 : Below zi.heap.size zi y2 := below_up (by first | with_reducible exact (Below.refl _ _).drew | with_reducible exact ((Below.refl _ _).alloc (Nat.le_refl _) _).drew | with_reducible exact ((Below.refl _ _).drew.alloc (Nat.le_refl _) _) | with_reducible exact Below.refl _ _ | with_reducible exact (Below.refl _ _).alloc (Nat.le_refl _) _) hb2'); (first | ((have e3 : CellsAt y2 zi.heap.size [.string ⟨#[]⟩, .string ⟨#[]⟩, .int .i64 0, .int .i64 0, .int .i64 0, .int .i64 0] := (by with_reducible exact cellsAt_allocA rfl hb2')); (obtain ⟨_, ⟨q0, q1, q2, q3, q4, q5⟩⟩ := qty_facts e3); (obtain ⟨⟨k0, k1, k2, k3, k4, k5⟩, _⟩ := qty_facts e3)) | ((have e3 : CellsAt y2 zi.heap.size [.string ⟨#[]⟩, .string ⟨#[]⟩, .int .i64 0, .int .i64 0, .int .i64 0, .int .i64 0] := (by with_reducible exact cellsAt_allocB (W := zi.drew) rfl hb2')); (obtain ⟨_, ⟨q0, q1, q2, q3, q4, q5⟩⟩ := qty_facts e3); (obtain ⟨⟨k0, k1, k2, k3, k4, k5⟩, _⟩ := qty_facts e3)) | skip)))
      all_goals (go_wp2_with fail; go_meet; exact ⟨rfl, _, rfl, hid (by first | with_reducible exact Nat.le_refl _ | exact Nat.le_refl _ | exact h2.size), hid (by first | with_reducible exact qty_put e3 _ _ _ _ _ _ | with_reducible exact cellsAt_new rfl | exact cellsAt_new rfl), hid (by first | with_reducible exact qty_below (Nat.le_refl _) h2 _ _ _ _ _ _ | with_reducible exact qty_below h2.size h2 _ _ _ _ _ _ | with_reducible exact h2.alloc h2.size _ | exact h2.alloc h2.size _)⟩)
     obtain ⟨rfl, Aa, rfl, hla, hcl, hbx⟩ := hcut
     generalize wc = zx1 at *
     have Q1 := hid (below_up Q0.out hbx.out)
     have La := hid (Nat.le_trans Q0.out.size hla.out)
     have Fa := hcl
     clear hla hcl hbx
     go_upto_region 12 with fail
     go_cut [15, 16] from 85 to 96 (fun sp se wx => se = .int .i64 Eadd ∧ ∃ A : Nat, sp = .pointer (some ⟨A, 0, none⟩) ∧ Hid (zx1.heap.size ≤ A) ∧ Hid (CellsAt wx A [.string radd.n, .string radd.d, .int .i64 radd.t, .int .i64 radd.b, .int .i64 radd.m, .int .i64 radd.c]) ∧ Hid (Below zx1.heap.size zx1 wx))
     case first =>
      as_aux_lemma =>
      have hik := HIK.out; have hij := HIJ.out
      have K4 := hid (fun W (b : Below zx1.heap.size zx1 W) => K3.out W (below_up Q1.out b))
      have HRz := hid (HRI.out.below Q1.out)
      go_region_held3 (fun W => (W.cell? ⟨G, 6 * k, none⟩ = some (.string g1.n) ∧ W.cell? ⟨G, 6 * k + 1, none⟩ = some (.string g1.d) ∧ W.cell? ⟨G, 6 * k + 2, none⟩ = some (.int .i64 g1.t) ∧ W.cell? ⟨G, 6 * k + 3, none⟩ = some (.int .i64 g1.b) ∧ W.cell? ⟨G, 6 * k + 4, none⟩ = some (.int .i64 g1.m) ∧ W.cell? ⟨G, 6 * k + 5, none⟩ = some (.int .i64 g1.c)) ∧ (W.cell? ⟨G, 6 * j, none⟩ = some (.string g2.n) ∧ W.cell? ⟨G, 6 * j + 1, none⟩ = some (.string g2.d) ∧ W.cell? ⟨G, 6 * j + 2, none⟩ = some (.int .i64 g2.t) ∧ W.cell? ⟨G, 6 * j + 3, none⟩ = some (.int .i64 g2.b) ∧ W.cell? ⟨G, 6 * j + 4, none⟩ = some (.int .i64 g2.m) ∧ W.cell? ⟨G, 6 * j + 5, none⟩ = some (.int .i64 g2.c))) (first | with_reducible exact K4.out _ h2 | with_reducible exact K4.out _ (h2.alloc h2.size _) | with_reducible exact K4.out _ (qty_below (Nat.le_refl _) h2 _ _ _ _ _ _) | with_reducible exact K4.out _ (qty_below h2.size h2 _ _ _ _ _ _) | with_reducible exact K4.out _ (((Below.refl _ _).alloc (Nat.le_refl _) _).drew) | with_reducible exact K4.out _ ((Below.refl _ _).drew.alloc (Nat.le_refl _) _) | with_reducible exact K4.out _ ((Below.refl _ _).alloc (Nat.le_refl _) _) | with_reducible exact K4.out _ (Below.refl _ _).drew | with_reducible exact K4.out _ (Below.refl _ _)) (first | (go_at_call 18; (with_reducible refine (Dadd.out _).mono ?_); (rintro e1 y2 ⟨rfl, hb2'⟩); (have h2 : Below zx1.heap.size zx1 y2 := below_up (by first | with_reducible exact (Below.refl _ _).drew | with_reducible exact ((Below.refl _ _).alloc (Nat.le_refl _) _).drew | with_reducible exact ((Below.refl _ _).drew.alloc (Nat.le_refl _) _) | with_reducible exact Below.refl _ _ | with_reducible exact (Below.refl _ _).alloc (Nat.le_refl _) _) hb2'); (first | ((have e3 : CellsAt y2 zx1.heap.size [.string ⟨#[]⟩, .string ⟨#[]⟩, .int .i64 0, .int .i64 0, .int .i64 0, .int .i64 0] := (by with_reducible exact cellsAt_allocA rfl hb2')); (obtain ⟨_, ⟨q0, q1, q2, q3, q4, q5⟩⟩ := qty_facts e3); (obtain ⟨⟨k0, k1, k2, k3, k4, k5⟩, _⟩ := qty_facts e3)) | ((have e3 : CellsAt y2 zx1.heap.size [.string ⟨#[]⟩, .string ⟨#[]⟩, .int .i64 0, .int .i64 0, .int .i64 0, .int .i64 0] := (by with_reducible exact cellsAt_allocB (W := zx1.drew) rfl hb2')); (obtain ⟨_, ⟨q0, q1, q2, q3, q4, q5⟩⟩ := qty_facts e3); (obtain ⟨⟨k0, k1, k2, k3, k4, k5⟩, _⟩ := qty_facts e3)) | skip)))
      all_goals (go_wp2_with fail; go_meet; exact ⟨rfl, _, rfl, hid (by first | with_reducible exact Nat.le_refl _ | exact Nat.le_refl _ | exact h2.size), hid (by first | with_reducible exact qty_put e3 _ _ _ _ _ _ | with_reducible exact cellsAt_new rfl | exact cellsAt_new rfl), hid (by first | with_reducible exact qty_below (Nat.le_refl _) h2 _ _ _ _ _ _ | with_reducible exact qty_below h2.size h2 _ _ _ _ _ _ | with_reducible exact h2.alloc h2.size _ | exact h2.alloc h2.size _)⟩)
     obtain ⟨rfl, Ab, rfl, hla, hcl, hbx⟩ := hcut
     generalize wc = zx2 at *
     have Q2 := hid (below_up Q1.out hbx.out)
     have Lb := hid (Nat.le_trans Q1.out.size hla.out)
     have Nab := hid (show Aa ≠ Ab from Nat.ne_of_lt (Nat.lt_of_lt_of_le (cells_lt5 Fa.out) hla.out))
     have Fa := hid (CellsAt.below Fa.out hbx.out)
     have Fb := hcl
     clear hla hcl hbx
     go_upto_region 13 with fail
     go_cut [17, 18] from 97 to 108 (fun sp se wx => se = .int .i64 Esub ∧ ∃ A : Nat, sp = .pointer (some ⟨A, 0, none⟩) ∧ Hid (zx2.heap.size ≤ A) ∧ Hid (CellsAt wx A [.string rsub.n, .string rsub.d, .int .i64 rsub.t, .int .i64 rsub.b, .int .i64 rsub.m, .int .i64 rsub.c]) ∧ Hid (Below zx2.heap.size zx2 wx))
     case first =>
      as_aux_lemma =>
      have hik := HIK.out; have hij := HIJ.out
      have K4 := hid (fun W (b : Below zx2.heap.size zx2 W) => K3.out W (below_up Q2.out b))
      have HRz := hid (HRI.out.below Q2.out)
      go_region_held3 (fun W => (W.cell? ⟨G, 6 * k, none⟩ = some (.string g1.n) ∧ W.cell? ⟨G, 6 * k + 1, none⟩ = some (.string g1.d) ∧ W.cell? ⟨G, 6 * k + 2, none⟩ = some (.int .i64 g1.t) ∧ W.cell? ⟨G, 6 * k + 3, none⟩ = some (.int .i64 g1.b) ∧ W.cell? ⟨G, 6 * k + 4, none⟩ = some (.int .i64 g1.m) ∧ W.cell? ⟨G, 6 * k + 5, none⟩ = some (.int .i64 g1.c)) ∧ (W.cell? ⟨G, 6 * j, none⟩ = some (.string g2.n) ∧ W.cell? ⟨G, 6 * j + 1, none⟩ = some (.string g2.d) ∧ W.cell? ⟨G, 6 * j + 2, none⟩ = some (.int .i64 g2.t) ∧ W.cell? ⟨G, 6 * j + 3, none⟩ = some (.int .i64 g2.b) ∧ W.cell? ⟨G, 6 * j + 4, none⟩ = some (.int .i64 g2.m) ∧ W.cell? ⟨G, 6 * j + 5, none⟩ = some (.int .i64 g2.c))) (first | with_reducible exact K4.out _ h2 | with_reducible exact K4.out _ (h2.alloc h2.size _) | with_reducible exact K4.out _ (qty_below (Nat.le_refl _) h2 _ _ _ _ _ _) | with_reducible exact K4.out _ (qty_below h2.size h2 _ _ _ _ _ _) | with_reducible exact K4.out _ (((Below.refl _ _).alloc (Nat.le_refl _) _).drew) | with_reducible exact K4.out _ ((Below.refl _ _).drew.alloc (Nat.le_refl _) _) | with_reducible exact K4.out _ ((Below.refl _ _).alloc (Nat.le_refl _) _) | with_reducible exact K4.out _ (Below.refl _ _).drew | with_reducible exact K4.out _ (Below.refl _ _)) (first | (go_at_call 19; (with_reducible refine (Csub.out _ (Set5.ready (HRz.out.below (by first | with_reducible exact (Below.refl _ _).drew | with_reducible exact ((Below.refl _ _).alloc (Nat.le_refl _) _).drew | with_reducible exact ((Below.refl _ _).drew.alloc (Nat.le_refl _) _) | with_reducible exact Below.refl _ _ | with_reducible exact (Below.refl _ _).alloc (Nat.le_refl _) _)))).mono ?_); (rintro e1 y2 ⟨rfl, hb2'⟩); (have h2 : Below zx2.heap.size zx2 y2 := below_up (by first | with_reducible exact (Below.refl _ _).drew | with_reducible exact ((Below.refl _ _).alloc (Nat.le_refl _) _).drew | with_reducible exact ((Below.refl _ _).drew.alloc (Nat.le_refl _) _) | with_reducible exact Below.refl _ _ | with_reducible exact (Below.refl _ _).alloc (Nat.le_refl _) _) hb2'); (first | ((have e3 : CellsAt y2 zx2.heap.size [.string ⟨#[]⟩, .string ⟨#[]⟩, .int .i64 0, .int .i64 0, .int .i64 0, .int .i64 0] := (by with_reducible exact cellsAt_allocA rfl hb2')); (obtain ⟨_, ⟨q0, q1, q2, q3, q4, q5⟩⟩ := qty_facts e3); (obtain ⟨⟨k0, k1, k2, k3, k4, k5⟩, _⟩ := qty_facts e3)) | ((have e3 : CellsAt y2 zx2.heap.size [.string ⟨#[]⟩, .string ⟨#[]⟩, .int .i64 0, .int .i64 0, .int .i64 0, .int .i64 0] := (by with_reducible exact cellsAt_allocB (W := zx2.drew) rfl hb2')); (obtain ⟨_, ⟨q0, q1, q2, q3, q4, q5⟩⟩ := qty_facts e3); (obtain ⟨⟨k0, k1, k2, k3, k4, k5⟩, _⟩ := qty_facts e3)) | skip)))
      all_goals (go_wp2_with fail; go_meet; exact ⟨rfl, _, rfl, hid (by first | with_reducible exact Nat.le_refl _ | exact Nat.le_refl _ | exact h2.size), hid (by first | with_reducible exact qty_put e3 _ _ _ _ _ _ | with_reducible exact cellsAt_new rfl | exact cellsAt_new rfl), hid (by first | with_reducible exact qty_below (Nat.le_refl _) h2 _ _ _ _ _ _ | with_reducible exact qty_below h2.size h2 _ _ _ _ _ _ | with_reducible exact h2.alloc h2.size _ | exact h2.alloc h2.size _)⟩)
     obtain ⟨rfl, Ac, rfl, hla, hcl, hbx⟩ := hcut
     generalize wc = zx3 at *
     have Q3 := hid (below_up Q2.out hbx.out)
     have Lc := hid (Nat.le_trans Q2.out.size hla.out)
     have Nac := hid (show Aa ≠ Ac from Nat.ne_of_lt (Nat.lt_of_lt_of_le (cells_lt5 Fa.out) hla.out))
     have Nbc := hid (show Ab ≠ Ac from Nat.ne_of_lt (Nat.lt_of_lt_of_le (cells_lt5 Fb.out) hla.out))
     have Fa := hid (CellsAt.below Fa.out hbx.out)
     have Fb := hid (CellsAt.below Fb.out hbx.out)
     have Fc := hcl
     clear hla hcl hbx
     go_upto_region 14 with fail
     go_cut [19, 20] from 109 to 120 (fun sp se wx => se = .int .i64 Esub ∧ ∃ A : Nat, sp = .pointer (some ⟨A, 0, none⟩) ∧ Hid (zx3.heap.size ≤ A) ∧ Hid (CellsAt wx A [.string rsub.n, .string rsub.d, .int .i64 rsub.t, .int .i64 rsub.b, .int .i64 rsub.m, .int .i64 rsub.c]) ∧ Hid (Below zx3.heap.size zx3 wx))
     case first =>
      as_aux_lemma =>
      have hik := HIK.out; have hij := HIJ.out
      have K4 := hid (fun W (b : Below zx3.heap.size zx3 W) => K3.out W (below_up Q3.out b))
      have HRz := hid (HRI.out.below Q3.out)
      go_region_held3 (fun W => (W.cell? ⟨G, 6 * k, none⟩ = some (.string g1.n) ∧ W.cell? ⟨G, 6 * k + 1, none⟩ = some (.string g1.d) ∧ W.cell? ⟨G, 6 * k + 2, none⟩ = some (.int .i64 g1.t) ∧ W.cell? ⟨G, 6 * k + 3, none⟩ = some (.int .i64 g1.b) ∧ W.cell? ⟨G, 6 * k + 4, none⟩ = some (.int .i64 g1.m) ∧ W.cell? ⟨G, 6 * k + 5, none⟩ = some (.int .i64 g1.c)) ∧ (W.cell? ⟨G, 6 * j, none⟩ = some (.string g2.n) ∧ W.cell? ⟨G, 6 * j + 1, none⟩ = some (.string g2.d) ∧ W.cell? ⟨G, 6 * j + 2, none⟩ = some (.int .i64 g2.t) ∧ W.cell? ⟨G, 6 * j + 3, none⟩ = some (.int .i64 g2.b) ∧ W.cell? ⟨G, 6 * j + 4, none⟩ = some (.int .i64 g2.m) ∧ W.cell? ⟨G, 6 * j + 5, none⟩ = some (.int .i64 g2.c))) (first | with_reducible exact K4.out _ h2 | with_reducible exact K4.out _ (h2.alloc h2.size _) | with_reducible exact K4.out _ (qty_below (Nat.le_refl _) h2 _ _ _ _ _ _) | with_reducible exact K4.out _ (qty_below h2.size h2 _ _ _ _ _ _) | with_reducible exact K4.out _ (((Below.refl _ _).alloc (Nat.le_refl _) _).drew) | with_reducible exact K4.out _ ((Below.refl _ _).drew.alloc (Nat.le_refl _) _) | with_reducible exact K4.out _ ((Below.refl _ _).alloc (Nat.le_refl _) _) | with_reducible exact K4.out _ (Below.refl _ _).drew | with_reducible exact K4.out _ (Below.refl _ _)) (first | (go_at_call 20; (with_reducible refine (Dsub.out _).mono ?_); (rintro e1 y2 ⟨rfl, hb2'⟩); (have h2 : Below zx3.heap.size zx3 y2 := below_up (by first | with_reducible exact (Below.refl _ _).drew | with_reducible exact ((Below.refl _ _).alloc (Nat.le_refl _) _).drew | with_reducible exact ((Below.refl _ _).drew.alloc (Nat.le_refl _) _) | with_reducible exact Below.refl _ _ | with_reducible exact (Below.refl _ _).alloc (Nat.le_refl _) _) hb2'); (first | ((have e3 : CellsAt y2 zx3.heap.size [.string ⟨#[]⟩, .string ⟨#[]⟩, .int .i64 0, .int .i64 0, .int .i64 0, .int .i64 0] := (by with_reducible exact cellsAt_allocA rfl hb2')); (obtain ⟨_, ⟨q0, q1, q2, q3, q4, q5⟩⟩ := qty_facts e3); (obtain ⟨⟨k0, k1, k2, k3, k4, k5⟩, _⟩ := qty_facts e3)) | ((have e3 : CellsAt y2 zx3.heap.size [.string ⟨#[]⟩, .string ⟨#[]⟩, .int .i64 0, .int .i64 0, .int .i64 0, .int .i64 0] := (by with_reducible exact cellsAt_allocB (W := zx3.drew) rfl hb2')); (obtain ⟨_, ⟨q0, q1, q2, q3, q4, q5⟩⟩ := qty_facts e3); (obtain ⟨⟨k0, k1, k2, k3, k4, k5⟩, _⟩ := qty_facts e3)) | skip)))
      all_goals (go_wp2_with fail; go_meet; exact ⟨rfl, _, rfl, hid (by first | with_reducible exact Nat.le_refl _ | exact Nat.le_refl _ | exact h2.size), hid (by first | with_reducible exact qty_put e3 _ _ _ _ _ _ | with_reducible exact cellsAt_new rfl | exact cellsAt_new rfl), hid (by first | with_reducible exact qty_below (Nat.le_refl _) h2 _ _ _ _ _ _ | with_reducible exact qty_below h2.size h2 _ _ _ _ _ _ | with_reducible exact h2.alloc h2.size _ | exact h2.alloc h2.size _)⟩)
     obtain ⟨rfl, Ad, rfl, hla, hcl, hbx⟩ := hcut
     generalize wc = zx4 at *
     have Q4 := hid (below_up Q3.out hbx.out)
     have Ld := hid (Nat.le_trans Q3.out.size hla.out)
     have Nad := hid (show Aa ≠ Ad from Nat.ne_of_lt (Nat.lt_of_lt_of_le (cells_lt5 Fa.out) hla.out))
     have Nbd := hid (show Ab ≠ Ad from Nat.ne_of_lt (Nat.lt_of_lt_of_le (cells_lt5 Fb.out) hla.out))
     have Ncd := hid (show Ac ≠ Ad from Nat.ne_of_lt (Nat.lt_of_lt_of_le (cells_lt5 Fc.out) hla.out))
     have Fa := hid (CellsAt.below Fa.out hbx.out)
     have Fb := hid (CellsAt.below Fb.out hbx.out)
     have Fc := hid (CellsAt.below Fc.out hbx.out)
     have Fd := hcl
     clear hla hcl hbx
     go_upto_region 15 with fail
     go_cut [138] from 121 to 138 (fun sv wx => sv = .bool false ∧ wx = zx4)
     case first =>
      obtain ⟨⟨pa0, pa1, pa2, pa3, pa4, pa5⟩, _⟩ := six_facts Fa.out
      obtain ⟨⟨pb0, pb1, pb2, pb3, pb4, pb5⟩, _⟩ := six_facts Fb.out
      obtain ⟨⟨pc0, pc1, pc2, pc3, pc4, pc5⟩, _⟩ := six_facts Fc.out
      obtain ⟨⟨pd0, pd1, pd2, pd3, pd4, pd5⟩, _⟩ := six_facts Fd.out
      have eadd := EEadd.out
      have esub := EEsub.out
      go_wp2_with fail
      go_meet
      exact ⟨rfl, rfl⟩
     obtain ⟨rfl, rfl⟩ := hcut
     generalize wc = zx4 at *
     go_upto_region 17 with fail
     go_cut [14] from 139 to 150 (fun se wx => se = .int .i64 Emul ∧ Hid (CellsAt wx Aa [.string rmul.n, .string rmul.d, .int .i64 rmul.t, .int .i64 rmul.b, .int .i64 rmul.m, .int .i64 rmul.c]) ∧ Hid (CellsAt wx Ab [.string radd.n, .string radd.d, .int .i64 radd.t, .int .i64 radd.b, .int .i64 radd.m, .int .i64 radd.c]) ∧ Hid (CellsAt wx Ac [.string rsub.n, .string rsub.d, .int .i64 rsub.t, .int .i64 rsub.b, .int .i64 rsub.m, .int .i64 rsub.c]) ∧ Hid (CellsAt wx Ad [.string rsub.n, .string rsub.d, .int .i64 rsub.t, .int .i64 rsub.b, .int .i64 rsub.m, .int .i64 rsub.c]) ∧ Hid (Below zi.heap.size zi wx))
     case first =>
      as_aux_lemma =>
      have hik := HIK.out; have hij := HIJ.out
      have K4 := hid (fun W (b : Below zx4.heap.size zx4 W) => K3.out W (below_up Q4.out b))
      have HRz := hid (HRI.out.below Q4.out)
      go_region_held3 (fun W => (W.cell? ⟨G, 6 * k, none⟩ = some (.string g1.n) ∧ W.cell? ⟨G, 6 * k + 1, none⟩ = some (.string g1.d) ∧ W.cell? ⟨G, 6 * k + 2, none⟩ = some (.int .i64 g1.t) ∧ W.cell? ⟨G, 6 * k + 3, none⟩ = some (.int .i64 g1.b) ∧ W.cell? ⟨G, 6 * k + 4, none⟩ = some (.int .i64 g1.m) ∧ W.cell? ⟨G, 6 * k + 5, none⟩ = some (.int .i64 g1.c)) ∧ (W.cell? ⟨G, 6 * j, none⟩ = some (.string g2.n) ∧ W.cell? ⟨G, 6 * j + 1, none⟩ = some (.string g2.d) ∧ W.cell? ⟨G, 6 * j + 2, none⟩ = some (.int .i64 g2.t) ∧ W.cell? ⟨G, 6 * j + 3, none⟩ = some (.int .i64 g2.b) ∧ W.cell? ⟨G, 6 * j + 4, none⟩ = some (.int .i64 g2.m) ∧ W.cell? ⟨G, 6 * j + 5, none⟩ = some (.int .i64 g2.c))) (first | with_reducible exact K4.out _ h2 | with_reducible exact K3.out _ (qty_below La.out (below_up Q4.out h2) _ _ _ _ _ _) | with_reducible exact K4.out _ (Below.refl _ _).drew | with_reducible exact K4.out _ (Below.refl _ _)) (first | (go_at_call 21; (with_reducible refine (Cmul.out _ (Set5.ready (HRz.out.below (by first | with_reducible exact (Below.refl _ _).drew | with_reducible exact Below.refl _ _)))).mono ?_); (rintro e1 y2 ⟨rfl, hb2'⟩); (have h2 : Below zx4.heap.size zx4 y2 := below_up (by first | with_reducible exact (Below.refl _ _).drew | with_reducible exact Below.refl _ _) hb2'); (have e3 := CellsAt.below Fa.out h2); (obtain ⟨_, ⟨q0, q1, q2, q3, q4, q5⟩⟩ := qty_facts e3); (obtain ⟨⟨k0, k1, k2, k3, k4, k5⟩, _⟩ := qty_facts e3)))
      all_goals (go_wp2_with fail; go_meet; exact ⟨rfl, hid (qty_put e3 _ _ _ _ _ _), hid (far6 (CellsAt.below Fb.out h2) Nab.out _ _ _ _ _ _), hid (far6 (CellsAt.below Fc.out h2) Nac.out _ _ _ _ _ _), hid (far6 (CellsAt.below Fd.out h2) Nad.out _ _ _ _ _ _), hid (qty_below La.out (below_up Q4.out h2) _ _ _ _ _ _)⟩)
     clear Fa Fb Fc Fd
     obtain ⟨rfl, Fa, Fb, Fc, Fd, Q5⟩ := hcut
     generalize wc = zx5 at *
     go_upto_region 18 with fail
     go_cut [16] from 151 to 162 (fun se wx => se = .int .i64 Emul ∧ Hid (CellsAt wx Aa [.string rmul.n, .string rmul.d, .int .i64 rmul.t, .int .i64 rmul.b, .int .i64 rmul.m, .int .i64 rmul.c]) ∧ Hid (CellsAt wx Ab [.string rmul.n, .string rmul.d, .int .i64 rmul.t, .int .i64 rmul.b, .int .i64 rmul.m, .int .i64 rmul.c]) ∧ Hid (CellsAt wx Ac [.string rsub.n, .string rsub.d, .int .i64 rsub.t, .int .i64 rsub.b, .int .i64 rsub.m, .int .i64 rsub.c]) ∧ Hid (CellsAt wx Ad [.string rsub.n, .string rsub.d, .int .i64 rsub.t, .int .i64 rsub.b, .int .i64 rsub.m, .int .i64 rsub.c]) ∧ Hid (Below zi.heap.size zi wx))
     case first =>
      as_aux_lemma =>
      have hik := HIK.out; have hij := HIJ.out
      have K4 := hid (fun W (b : Below zx5.heap.size zx5 W) => K3.out W (below_up Q5.out b))
      have HRz := hid (HRI.out.below Q5.out)
      go_region_held3 (fun W => (W.cell? ⟨G, 6 * k, none⟩ = some (.string g1.n) ∧ W.cell? ⟨G, 6 * k + 1, none⟩ = some (.string g1.d) ∧ W.cell? ⟨G, 6 * k + 2, none⟩ = some (.int .i64 g1.t) ∧ W.cell? ⟨G, 6 * k + 3, none⟩ = some (.int .i64 g1.b) ∧ W.cell? ⟨G, 6 * k + 4, none⟩ = some (.int .i64 g1.m) ∧ W.cell? ⟨G, 6 * k + 5, none⟩ = some (.int .i64 g1.c)) ∧ (W.cell? ⟨G, 6 * j, none⟩ = some (.string g2.n) ∧ W.cell? ⟨G, 6 * j + 1, none⟩ = some (.string g2.d) ∧ W.cell? ⟨G, 6 * j + 2, none⟩ = some (.int .i64 g2.t) ∧ W.cell? ⟨G, 6 * j + 3, none⟩ = some (.int .i64 g2.b) ∧ W.cell? ⟨G, 6 * j + 4, none⟩ = some (.int .i64 g2.m) ∧ W.cell? ⟨G, 6 * j + 5, none⟩ = some (.int .i64 g2.c))) (first | with_reducible exact K4.out _ h2 | with_reducible exact K3.out _ (qty_below Lb.out (below_up Q5.out h2) _ _ _ _ _ _) | with_reducible exact K4.out _ (Below.refl _ _).drew | with_reducible exact K4.out _ (Below.refl _ _)) (first | (go_at_call 22; (with_reducible refine (Dmul.out _).mono ?_); (rintro e1 y2 ⟨rfl, hb2'⟩); (have h2 : Below zx5.heap.size zx5 y2 := below_up (by first | with_reducible exact (Below.refl _ _).drew | with_reducible exact Below.refl _ _) hb2'); (have e3 := CellsAt.below Fb.out h2); (obtain ⟨_, ⟨q0, q1, q2, q3, q4, q5⟩⟩ := qty_facts e3); (obtain ⟨⟨k0, k1, k2, k3, k4, k5⟩, _⟩ := qty_facts e3)))
      all_goals (go_wp2_with fail; go_meet; exact ⟨rfl, hid (far6 (CellsAt.below Fa.out h2) (Ne.symm Nab.out) _ _ _ _ _ _), hid (qty_put e3 _ _ _ _ _ _), hid (far6 (CellsAt.below Fc.out h2) Nbc.out _ _ _ _ _ _), hid (far6 (CellsAt.below Fd.out h2) Nbd.out _ _ _ _ _ _), hid (qty_below Lb.out (below_up Q5.out h2) _ _ _ _ _ _)⟩)
     clear Fa Fb Fc Fd
     obtain ⟨rfl, Fa, Fb, Fc, Fd, Q6⟩ := hcut
     generalize wc = zx6 at *
     go_upto_region 19 with fail
     go_cut [18] from 163 to 174 (fun se wx => se = .int .i64 Ediv ∧ Hid (CellsAt wx Aa [.string rmul.n, .string rmul.d, .int .i64 rmul.t, .int .i64 rmul.b, .int .i64 rmul.m, .int .i64 rmul.c]) ∧ Hid (CellsAt wx Ab [.string rmul.n, .string rmul.d, .int .i64 rmul.t, .int .i64 rmul.b, .int .i64 rmul.m, .int .i64 rmul.c]) ∧ Hid (CellsAt wx Ac [.string rdiv.n, .string rdiv.d, .int .i64 rdiv.t, .int .i64 rdiv.b, .int .i64 rdiv.m, .int .i64 rdiv.c]) ∧ Hid (CellsAt wx Ad [.string rsub.n, .string rsub.d, .int .i64 rsub.t, .int .i64 rsub.b, .int .i64 rsub.m, .int .i64 rsub.c]) ∧ Hid (Below zi.heap.size zi wx))
     case first =>
      as_aux_lemma =>
      have hik := HIK.out; have hij := HIJ.out
      have K4 := hid (fun W (b : Below zx6.heap.size zx6 W) => K3.out W (below_up Q6.out b))
      have HRz := hid (HRI.out.below Q6.out)
      go_region_held3 (fun W => (W.cell? ⟨G, 6 * k, none⟩ = some (.string g1.n) ∧ W.cell? ⟨G, 6 * k + 1, none⟩ = some (.string g1.d) ∧ W.cell? ⟨G, 6 * k + 2, none⟩ = some (.int .i64 g1.t) ∧ W.cell? ⟨G, 6 * k + 3, none⟩ = some (.int .i64 g1.b) ∧ W.cell? ⟨G, 6 * k + 4, none⟩ = some (.int .i64 g1.m) ∧ W.cell? ⟨G, 6 * k + 5, none⟩ = some (.int .i64 g1.c)) ∧ (W.cell? ⟨G, 6 * j, none⟩ = some (.string g2.n) ∧ W.cell? ⟨G, 6 * j + 1, none⟩ = some (.string g2.d) ∧ W.cell? ⟨G, 6 * j + 2, none⟩ = some (.int .i64 g2.t) ∧ W.cell? ⟨G, 6 * j + 3, none⟩ = some (.int .i64 g2.b) ∧ W.cell? ⟨G, 6 * j + 4, none⟩ = some (.int .i64 g2.m) ∧ W.cell? ⟨G, 6 * j + 5, none⟩ = some (.int .i64 g2.c))) (first | with_reducible exact K4.out _ h2 | with_reducible exact K3.out _ (qty_below Lc.out (below_up Q6.out h2) _ _ _ _ _ _) | with_reducible exact K4.out _ (Below.refl _ _).drew | with_reducible exact K4.out _ (Below.refl _ _)) (first | (go_at_call 23; (with_reducible refine (Cdiv.out _ (Set5.ready (HRz.out.below (by first | with_reducible exact (Below.refl _ _).drew | with_reducible exact Below.refl _ _)))).mono ?_); (rintro e1 y2 ⟨rfl, hb2'⟩); (have h2 : Below zx6.heap.size zx6 y2 := below_up (by first | with_reducible exact (Below.refl _ _).drew | with_reducible exact Below.refl _ _) hb2'); (have e3 := CellsAt.below Fc.out h2); (obtain ⟨_, ⟨q0, q1, q2, q3, q4, q5⟩⟩ := qty_facts e3); (obtain ⟨⟨k0, k1, k2, k3, k4, k5⟩, _⟩ := qty_facts e3)))
      all_goals (go_wp2_with fail; go_meet; exact ⟨rfl, hid (far6 (CellsAt.below Fa.out h2) (Ne.symm Nac.out) _ _ _ _ _ _), hid (far6 (CellsAt.below Fb.out h2) (Ne.symm Nbc.out) _ _ _ _ _ _), hid (qty_put e3 _ _ _ _ _ _), hid (far6 (CellsAt.below Fd.out h2) Ncd.out _ _ _ _ _ _), hid (qty_below Lc.out (below_up Q6.out h2) _ _ _ _ _ _)⟩)
     clear Fa Fb Fc Fd
     obtain ⟨rfl, Fa, Fb, Fc, Fd, Q7⟩ := hcut
     generalize wc = zx7 at *
     go_upto_region 20 with fail
     go_cut [20] from 175 to 186 (fun se wx => se = .int .i64 Ediv ∧ Hid (CellsAt wx Aa [.string rmul.n, .string rmul.d, .int .i64 rmul.t, .int .i64 rmul.b, .int .i64 rmul.m, .int .i64 rmul.c]) ∧ Hid (CellsAt wx Ab [.string rmul.n, .string rmul.d, .int .i64 rmul.t, .int .i64 rmul.b, .int .i64 rmul.m, .int .i64 rmul.c]) ∧ Hid (CellsAt wx Ac [.string rdiv.n, .string rdiv.d, .int .i64 rdiv.t, .int .i64 rdiv.b, .int .i64 rdiv.m, .int .i64 rdiv.c]) ∧ Hid (CellsAt wx Ad [.string rdiv.n, .string rdiv.d, .int .i64 rdiv.t, .int .i64 rdiv.b, .int .i64 rdiv.m, .int .i64 rdiv.c]) ∧ Hid (Below zi.heap.size zi wx))
     case first =>
      as_aux_lemma =>
      have hik := HIK.out; have hij := HIJ.out
      have K4 := hid (fun W (b : Below zx7.heap.size zx7 W) => K3.out W (below_up Q7.out b))
      have HRz := hid (HRI.out.below Q7.out)
      go_region_held3 (fun W => (W.cell? ⟨G, 6 * k, none⟩ = some (.string g1.n) ∧ W.cell? ⟨G, 6 * k + 1, none⟩ = some (.string g1.d) ∧ W.cell? ⟨G, 6 * k + 2, none⟩ = some (.int .i64 g1.t) ∧ W.cell? ⟨G, 6 * k + 3, none⟩ = some (.int .i64 g1.b) ∧ W.cell? ⟨G, 6 * k + 4, none⟩ = some (.int .i64 g1.m) ∧ W.cell? ⟨G, 6 * k + 5, none⟩ = some (.int .i64 g1.c)) ∧ (W.cell? ⟨G, 6 * j, none⟩ = some (.string g2.n) ∧ W.cell? ⟨G, 6 * j + 1, none⟩ = some (.string g2.d) ∧ W.cell? ⟨G, 6 * j + 2, none⟩ = some (.int .i64 g2.t) ∧ W.cell? ⟨G, 6 * j + 3, none⟩ = some (.int .i64 g2.b) ∧ W.cell? ⟨G, 6 * j + 4, none⟩ = some (.int .i64 g2.m) ∧ W.cell? ⟨G, 6 * j + 5, none⟩ = some (.int .i64 g2.c))) (first | with_reducible exact K4.out _ h2 | with_reducible exact K3.out _ (qty_below Ld.out (below_up Q7.out h2) _ _ _ _ _ _) | with_reducible exact K4.out _ (Below.refl _ _).drew | with_reducible exact K4.out _ (Below.refl _ _)) (first | (go_at_call 24; (with_reducible refine (Ddiv.out _).mono ?_); (rintro e1 y2 ⟨rfl, hb2'⟩); (have h2 : Below zx7.heap.size zx7 y2 := below_up (by first | with_reducible exact (Below.refl _ _).drew | with_reducible exact Below.refl _ _) hb2'); (have e3 := CellsAt.below Fd.out h2); (obtain ⟨_, ⟨q0, q1, q2, q3, q4, q5⟩⟩ := qty_facts e3); (obtain ⟨⟨k0, k1, k2, k3, k4, k5⟩, _⟩ := qty_facts e3)))
      all_goals (go_wp2_with fail; go_meet; exact ⟨rfl, hid (far6 (CellsAt.below Fa.out h2) (Ne.symm Nad.out) _ _ _ _ _ _), hid (far6 (CellsAt.below Fb.out h2) (Ne.symm Nbd.out) _ _ _ _ _ _), hid (far6 (CellsAt.below Fc.out h2) (Ne.symm Ncd.out) _ _ _ _ _ _), hid (qty_put e3 _ _ _ _ _ _), hid (qty_below Ld.out (below_up Q7.out h2) _ _ _ _ _ _)⟩)
     clear Fa Fb Fc Fd
     obtain ⟨rfl, Fa, Fb, Fc, Fd, Q8⟩ := hcut
     generalize wc = zx8 at *
     go_upto_region 21 with fail
     go_cut [204] from 187 to 204 (fun sv wx => sv = .bool false ∧ wx = zx8)
     case first =>
      obtain ⟨⟨pa0, pa1, pa2, pa3, pa4, pa5⟩, _⟩ := six_facts Fa.out
      obtain ⟨⟨pb0, pb1, pb2, pb3, pb4, pb5⟩, _⟩ := six_facts Fb.out
      obtain ⟨⟨pc0, pc1, pc2, pc3, pc4, pc5⟩, _⟩ := six_facts Fc.out
      obtain ⟨⟨pd0, pd1, pd2, pd3, pd4, pd5⟩, _⟩ := six_facts Fd.out
      have emul := EEmul.out
      have ediv := EEdiv.out
      go_wp2_with fail
      go_meet
      exact ⟨rfl, rfl⟩
     obtain ⟨rfl, rfl⟩ := hcut
     generalize wc = zx8 at *
     go_upto_region 23 with fail
     go_cut [21, 22] from 205 to 216 (fun sp se wx => sp = .int .i64 CVV ∧ se = .int .i64 CEE ∧ Hid (Below zx8.heap.size zx8 wx))
     case first =>
      as_aux_lemma =>
      have hik := HIK.out; have hij := HIJ.out
      have K4 := hid (fun W (b : Below zx8.heap.size zx8 W) => K3.out W (below_up Q8.out b))
      have HRz := hid (HRI.out.below Q8.out)
      have g := Below.refl zx8.heap.size zx8
      go_region_held3 (fun W => (W.cell? ⟨G, 6 * k, none⟩ = some (.string g1.n) ∧ W.cell? ⟨G, 6 * k + 1, none⟩ = some (.string g1.d) ∧ W.cell? ⟨G, 6 * k + 2, none⟩ = some (.int .i64 g1.t) ∧ W.cell? ⟨G, 6 * k + 3, none⟩ = some (.int .i64 g1.b) ∧ W.cell? ⟨G, 6 * k + 4, none⟩ = some (.int .i64 g1.m) ∧ W.cell? ⟨G, 6 * k + 5, none⟩ = some (.int .i64 g1.c)) ∧ (W.cell? ⟨G, 6 * j, none⟩ = some (.string g2.n) ∧ W.cell? ⟨G, 6 * j + 1, none⟩ = some (.string g2.d) ∧ W.cell? ⟨G, 6 * j + 2, none⟩ = some (.int .i64 g2.t) ∧ W.cell? ⟨G, 6 * j + 3, none⟩ = some (.int .i64 g2.b) ∧ W.cell? ⟨G, 6 * j + 4, none⟩ = some (.int .i64 g2.m) ∧ W.cell? ⟨G, 6 * j + 5, none⟩ = some (.int .i64 g2.c))) (first | exact K4.out _ g | exact K4.out _ ⟨g.os, g.tape, g.output, g.size, g.block⟩) (first | (go_at_call 25; (with_reducible refine (CE.out _ ?_).mono ?_); (first | exact (HRz.out.below g).1 | exact (HRz.out.below ⟨g.os, g.tape, g.output, g.size, g.block⟩).1); (rintro e y ⟨rfl, k'⟩); (have g : Below zx8.heap.size zx8 y := below_up (by first | exact g | exact ⟨g.os, g.tape, g.output, g.size, g.block⟩) k')))
      all_goals (go_wp2_with fail; go_meet; first | exact ⟨rfl, rfl, hid g⟩ | exact ⟨rfl, rfl, hid ⟨g.os, g.tape, g.output, g.size, g.block⟩⟩)
     obtain ⟨rfl, rfl, hbx⟩ := hcut
     generalize wc = zx9 at *
     have Q9 := hid (below_up Q8.out hbx.out)
     clear hbx
     go_upto_region 24 with fail
     go_cut [23, 24] from 217 to 228 (fun sp se wx => sp = .int .i64 CVV ∧ se = .int .i64 CEE ∧ Hid (Below zx9.heap.size zx9 wx))
     case first =>
      as_aux_lemma =>
      have hik := HIK.out; have hij := HIJ.out
      have K4 := hid (fun W (b : Below zx9.heap.size zx9 W) => K3.out W (below_up Q9.out b))
      have HRz := hid (HRI.out.below Q9.out)
      have g := Below.refl zx9.heap.size zx9
      go_region_held3 (fun W => (W.cell? ⟨G, 6 * k, none⟩ = some (.string g1.n) ∧ W.cell? ⟨G, 6 * k + 1, none⟩ = some (.string g1.d) ∧ W.cell? ⟨G, 6 * k + 2, none⟩ = some (.int .i64 g1.t) ∧ W.cell? ⟨G, 6 * k + 3, none⟩ = some (.int .i64 g1.b) ∧ W.cell? ⟨G, 6 * k + 4, none⟩ = some (.int .i64 g1.m) ∧ W.cell? ⟨G, 6 * k + 5, none⟩ = some (.int .i64 g1.c)) ∧ (W.cell? ⟨G, 6 * j, none⟩ = some (.string g2.n) ∧ W.cell? ⟨G, 6 * j + 1, none⟩ = some (.string g2.d) ∧ W.cell? ⟨G, 6 * j + 2, none⟩ = some (.int .i64 g2.t) ∧ W.cell? ⟨G, 6 * j + 3, none⟩ = some (.int .i64 g2.b) ∧ W.cell? ⟨G, 6 * j + 4, none⟩ = some (.int .i64 g2.m) ∧ W.cell? ⟨G, 6 * j + 5, none⟩ = some (.int .i64 g2.c))) (first | exact K4.out _ g | exact K4.out _ ⟨g.os, g.tape, g.output, g.size, g.block⟩) (first | (go_at_call 26; (with_reducible refine (CF.out _).mono ?_); (rintro e y ⟨rfl, k'⟩); (have g : Below zx9.heap.size zx9 y := below_up (by first | exact g | exact ⟨g.os, g.tape, g.output, g.size, g.block⟩) k')))
      all_goals (go_wp2_with fail; go_meet; first | exact ⟨rfl, rfl, hid g⟩ | exact ⟨rfl, rfl, hid ⟨g.os, g.tape, g.output, g.size, g.block⟩⟩)
     obtain ⟨rfl, rfl, hbx⟩ := hcut
     generalize wc = zx10 at *
     have Q10 := hid (below_up Q9.out hbx.out)
     clear hbx
     go_upto_region 25 with fail
     go_cut [236] from 229 to 236 (fun sv wx => sv = .bool false ∧ wx = zx10)
     case first =>
      go_wp2_with fail
      go_meet
      exact ⟨rfl, rfl⟩
     obtain ⟨rfl, rfl⟩ := hcut
     generalize wc = zx10 at *
     have hji := HJI.out; have hj4 := HJ4.out
     go_wp2_with fail
     go_roundw
     case rel => exact ⟨j + 1, by omega, by go_num, hid (below_up HBV.out Q10.out)⟩
     case measure => simp [RowKit.intOf]; omega
   have hji : ¬ (j : Int) < 4 := by omega
   have hki := HKI.out; have hk4 := HK4.out
   have PE := hid (below_up HBW.out (below_up BP.out HBV.out))
   go_wp2_with fail
   go_roundw
   case rel => exact ⟨k + 1, by omega, by go_num, PE⟩
   case measure => simp [RowKit.intOf]; omega
 have hki : ¬ (k : Int) < 4 := by omega
 have PE := hid (below_up B0.out (below_up PG.out HBW.out))
 go_wp2
 go_ret
 exact ⟨rfl, PE.out⟩
end Go.Proofs.YtcglcgphgahnpaaGreatDoor
