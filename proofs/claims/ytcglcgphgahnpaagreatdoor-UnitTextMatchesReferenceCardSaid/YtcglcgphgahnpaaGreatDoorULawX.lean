/-
  UnitTextMatchesReference: its walk.
-/
import Derived.Test.YtcglcgphgahnpaaGreatDoorJ38
import Derived.BigRegion
namespace Go.Proofs.YtcglcgphgahnpaaGreatDoor
open Go Go.Proofs Go.RowKit Go.Lib
theorem far_row5 {W : World} {A B i : Nat} {v : Value} {y : List UInt8} (hne : A ≠ B) (h : ByteRow5 W B y) : ByteRow5 (W.setCell ⟨A, i, none⟩ v) B y := fun j hj =>
 ⟨(World.cell?_setCell_other _ _ _ _ (fun e' => hne (by injection e'))).trans (h j hj).1, by rw [World.frozen?_setCell]; exact (h j hj).2⟩
theorem row_heap5 {W W' : World} {B : Nat} {y : List UInt8} (e : W'.heap = W.heap) (h : ByteRow5 W B y) : ByteRow5 W' B y := fun j hj => by
 have := h j hj
 unfold World.cell? World.frozen? at this ⊢
 rw [e]
 exact this
theorem rem6 (k n : Nat) : ∃ j : Nat, j < n + 1 ∧ ((k : Int)).tmod ((n : Int) + 1) = (j : Int) ∧ (k : Int) % ((n : Int) + 1) = (j : Int) := by
 refine ⟨k % (n + 1), Nat.mod_lt _ (by omega), ?_, ?_⟩
 · rw [Int.tmod_eq_emod_of_nonneg (by omega), show ((n : Int) + 1) = ((n + 1 : Nat) : Int) by omega]
   exact (Int.natCast_emod k (n + 1)).symm
 rw [show ((n : Int) + 1) = ((n + 1 : Nat) : Int) by omega]
 exact (Int.natCast_emod k (n + 1)).symm
theorem qtys_elem : Tryz.prog.underlying 32 = some (.slice (Tryz.prog.elem 32)) := by kernel_rfl
theorem qtys_cells (w : World) : (Go.sizeOf (Tryz.prog.elem 32)).run Tryz.prog w = .ok 6 w := by kernel_rfl
theorem at_qtys (g n k : Nat) (hk : k < n) (w : World) : (Instr.indexAt 32 (.slice (some ⟨g, 0, none⟩) n n) (.int .i64 (k : Int))).run Tryz.prog w = .ok (.pointer (some ⟨g, 6 * k, none⟩)) w := by
 rw [run_indexAt_slice w 32 _ _ _ _ _ qtys_elem, if_pos (by omega)]
 simp [qtys_cells, add_at, Result.andThen]
theorem ints_elem : Tryz.prog.underlying 47 = some (.slice (Tryz.prog.elem 47)) := by kernel_rfl
theorem ints_cells (w : World) : (Go.sizeOf (Tryz.prog.elem 47)).run Tryz.prog w = .ok 1 w := by kernel_rfl
theorem at_ints (g n k : Nat) (hk : k < n) (w : World) : (Instr.indexAt 47 (.slice (some ⟨g, 0, none⟩) n n) (.int .i64 (k : Int))).run Tryz.prog w = .ok (.pointer (some ⟨g, k, none⟩)) w := by
 rw [run_indexAt_slice w 47 _ _ _ _ _ ints_elem, if_pos (by omega)]
 simp [ints_cells, add_at, Result.andThen]
def QtyAt (W : World) (G k : Nat) (g : Qt) : Prop :=
 W.cell? ⟨G, 6 * k, none⟩ = some (.string g.n) ∧ W.cell? ⟨G, 6 * k + 1, none⟩ = some (.string g.d) ∧ W.cell? ⟨G, 6 * k + 2, none⟩ = some (.int .i64 g.t) ∧ W.cell? ⟨G, 6 * k + 3, none⟩ = some (.int .i64 g.b) ∧ W.cell? ⟨G, 6 * k + 4, none⟩ = some (.int .i64 g.m) ∧ W.cell? ⟨G, 6 * k + 5, none⟩ = some (.int .i64 g.c)
set_option maxRecDepth 100000 in
set_option maxHeartbeats 16000000 in
theorem unitTextMatches_walk (xn xd : ByteArray) (xt xb xm xc : Int) (y0 y1 y2 y3 : Int) (s : ByteArray) (at' cc : Int) (hxn : xn.size ≤ maxLen) (hxd : xd.size ≤ maxLen) (ay0 : -9223372036854775808 ≤ y0) (cy0 : y0 ≤ 9223372036854775807) (ay1 : -9223372036854775808 ≤ y1) (cy1 : y1 ≤ 9223372036854775807) (ay2 : -9223372036854775808 ≤ y2) (cy2 : y2 ≤ 9223372036854775807) (ay3 : -9223372036854775808 ≤ y3) (cy3 : y3 ≤ 9223372036854775807) (hs : s.size ≤ maxLen) (d0 : -9223372036854775808 ≤ at') (d1 : at' ≤ 9223372036854775807) (e0 : 0 ≤ cc) (e1 : cc ≤ 255) (w : World) (hR : Set5 w) : Calls Tryz.prog 4 #[.agg #[.string xn, .string xd, .int .i64 xt, .int .i64 xb, .int .i64 xm, .int .i64 xc], .agg #[.int .i64 y0, .int .i64 y1, .int .i64 y2, .int .i64 y3], .string s, .int .i64 at', .int .u8 cc] w fun e w' => e = .returned (.bool true) ∧ Below w.heap.size w w' := by
 obtain ⟨u, rfl⟩ := byte_of e0 e1
 obtain ⟨W0, hW0, b0', s0, hcc⟩ := lay2 w (.string xn) [.string xd, .int .i64 xt, .int .i64 xb, .int .i64 xm, .int .i64 xc] 27 (.int .i64 y0) [.int .i64 y1, .int .i64 y2, .int .i64 y3] 28
 have my := fun W => made_any5 y0 y1 y2 y3 ay0 cy0 ay1 cy1 ay2 cy2 ay3 cy3 W
 have cu := fun W => cut_any5 xn xd xt xb xm xc hxn hxd W
 have oa := made_ok y0 y1 y2 y3
 generalize madeQt y0 y1 y2 y3 = a at *
 have sa := Qt.short_ok oa
 have pr := fun W => printR_q5 a sa W
 have er := fun W => encodeR_q5 a sa W
 rw [oa] at er
 have zt := text5_size a; have zc := code5_size a; have pt := text5_pos oa; have pc := code5_pos oa
 generalize a.text5 = TA at *
 generalize a.code5 = CA at *
 obtain ⟨kk, hk3, hk4⟩ : ∃ kk : Nat, (at' < 0 → -(at' + 1) = ((kk : Nat) : Int)) ∧ (¬ at' < 0 → at' = ((kk : Nat) : Int)) := by
  by_cases h : at' < 0
  · exact ⟨(-(at' + 1)).toNat, fun _ => by omega, fun k => absurd h k⟩
  exact ⟨at'.toNat, fun k => absurd k h, fun _ => by omega⟩
 obtain ⟨j1, hj1, hr1⟩ := rem5 kk TA.size pt
 obtain ⟨j2, hj2, hr2⟩ := rem5 kk CA.size pc
 have hcv1 := fun w' => Lib.run_convert_string_bytes (P := Tryz.prog) w' 9 44 5 TA Tryz.underlying9 Tryz.underlying44 Tryz.underlying5
 have hcv2 := fun w' => Lib.run_convert_string_bytes (P := Tryz.prog) w' 9 44 5 CA Tryz.underlying9 Tryz.underlying44 Tryz.underlying5
 unfold maxLen at hs
 have hi : 0 ≤ min (s.size : Int) 200 ∧ min (s.size : Int) 200 ≤ s.size ∧ s.size ≤ 9223372036854775807 := by omega
 obtain ⟨XS, hx⟩ : ∃ t, s.extract 0 (min (s.size : Int) 200).toNat = t := ⟨_, rfl⟩
 have hxs : XS.size ≤ 1000 := by rw [← hx, ByteArray.size_extract]; omega
 have HLEN := hid (show eU true = 0 ∧ ¬ TA.size = 0 ∧ ¬ ((TA.size : Int) = 0) ∧ ((TA.size : Int) == 0) = false ∧ TA.size ≤ 232 from ⟨eU_true, by omega, by omega, beq_eq_false_iff_ne.2 (by omega), zt⟩)
 have HKK := hid (show -9223372036854775808 ≤ at' ∧ at' ≤ 9223372036854775807 ∧ (at' < 0 → -(at' + 1) = ((kk : Nat) : Int)) ∧ (¬ at' < 0 → at' = ((kk : Nat) : Int)) from ⟨d0, d1, hk3, hk4⟩)
 have HR1 := hid (show ((kk : Int)).tmod (TA.size : Int) = (j1 : Int) ∧ ¬ TA.size = 0 from ⟨hr1, by omega⟩)
 have HR2 := hid (show ((kk : Int)).tmod (CA.size : Int) = (j2 : Int) ∧ ¬ CA.size = 0 from ⟨hr2, by omega⟩)
 have HJ1 := hid hj1; have HJ2 := hid hj2; have HSZ := hid (show TA.size ≤ 1000 ∧ CA.size ≤ 1000 by omega)
 have HCV1 := hid hcv1; have HCV2 := hid hcv2; have HI := hid hi; have HX1 := hid hx; have HXS := hid hxs
 have HW := hid hW0; have B0 := hid b0'; have HC := hid hcc; have HR := hid (hR.below b0'); have LOW := hid (show w.heap.size ≤ w.heap.size from Nat.le_refl _)
 have SANE := hid (fun W h => sane_any5 W h); have My := hid my; have PR := hid pr; have ER := hid er; have CUT := hid cu; have SA := hid sa
 clear hW0 b0' s0 hcc hR my cu oa sa pr er zt zc pt pc hk3 hk4 hj1 hr1 hj2 hr2 hcv1 hcv2 hs hi hx hxs d0 d1 e0 e1 hxn hxd ay0 cy0 ay1 cy1 ay2 cy2 ay3 cy3
 go_enter Tryz.func4, Tryz.ntmps4
 have P0 := hid (Below.refl W0.heap.size W0)
 have E0 := hid (fun W (b : Below W0.heap.size W0 W) => And.intro (HC.out W b).2 (And.intro (HC.out W b).1 trivial))
 go_wp2_with (rw [HW.out])
 refine (SANE.out _ (HR.out.below P0.out)).mono ?_
 rintro e z1 ⟨rfl, b1⟩
 have B1 := hid b1
 have P1 := hid (below_up P0.out b1)
 have E1 := hid (fun W (b : Below z1.heap.size z1 W) => E0.out W (below_up B1.out b))
 clear b1
 obtain ⟨⟨m0, m1, m2, m3⟩, ⟨mf0, mf1, mf2, mf3⟩⟩ := four_facts (E1.out z1 (Below.refl _ _)).1
 obtain ⟨i1, i2, i3⟩ := HI.out
 go_upto_region 3 with fail
 rw [HX1.out]
 clear i1 i2 i3
 go_wp2_with fail
 refine (My.out _).mono ?_
 rintro e z2 ⟨rfl, b2⟩
 have B2 := hid b2
 have P2 := hid (below_up P1.out b2)
 have E2 := hid (fun W (b : Below z2.heap.size z2 W) => E1.out W (below_up B2.out b))
 clear b2
 clear m0 m1 m2 m3 mf0 mf1 mf2 mf3
 obtain ⟨z3, hz3, b3, sz3, f3⟩ := lay1 z2 (.string a.n) [.string a.d, .int .i64 a.t, .int .i64 a.b, .int .i64 a.m, .int .i64 a.c] 27
 have V3 := hid hz3
 clear hz3 sz3
 have B3 := hid b3
 have P3 := hid (below_up P2.out b3)
 have E3 := hid (fun W (b : Below z3.heap.size z3 W) => And.intro (f3 W b) (E2.out W (below_up B3.out b)))
 clear b3 f3
 go_upto_region 4 with (rw [V3.out])
 go_cut [50, 51, 52] from 47 to 52 (fun sa sb sc wx => sb = .int .i64 2 ∧ sc = .int .i64 0 ∧ ∃ G : Nat, sa = .slice (some ⟨G, 0, none⟩) 2 2 ∧ Hid (CellsAt wx G [.string (cut70 xn), .string (cut70 xd), .int .i64 xt, .int .i64 xb, .int .i64 xm, .int .i64 xc, .string a.n, .string a.d, .int .i64 a.t, .int .i64 a.b, .int .i64 a.m, .int .i64 a.c]) ∧ Hid (Below z3.heap.size z3 wx))
 case first =>
  have K := hid (show ∀ W, Below z3.heap.size z3 W → ((W.cell? ⟨w.heap.size, 0, none⟩ = some (.string xn) ∧ W.cell? ⟨w.heap.size, 1, none⟩ = some (.string xd) ∧ W.cell? ⟨w.heap.size, 2, none⟩ = some (.int .i64 xt) ∧ W.cell? ⟨w.heap.size, 3, none⟩ = some (.int .i64 xb) ∧ W.cell? ⟨w.heap.size, 4, none⟩ = some (.int .i64 xm) ∧ W.cell? ⟨w.heap.size, 5, none⟩ = some (.int .i64 xc)) ∧ (W.cell? ⟨z2.heap.size, 0, none⟩ = some (.string a.n) ∧ W.cell? ⟨z2.heap.size, 1, none⟩ = some (.string a.d) ∧ W.cell? ⟨z2.heap.size, 2, none⟩ = some (.int .i64 a.t) ∧ W.cell? ⟨z2.heap.size, 3, none⟩ = some (.int .i64 a.b) ∧ W.cell? ⟨z2.heap.size, 4, none⟩ = some (.int .i64 a.m) ∧ W.cell? ⟨z2.heap.size, 5, none⟩ = some (.int .i64 a.c))) from fun W b => ⟨(six_facts (E3.out W b).2.2.1).1, (six_facts (E3.out W b).1).1⟩)
  have HRz := hid (HR.out.below P3.out)
  have g := Below.refl z3.heap.size z3
  go_region_held3 (fun W => (W.cell? ⟨w.heap.size, 0, none⟩ = some (.string xn) ∧ W.cell? ⟨w.heap.size, 1, none⟩ = some (.string xd) ∧ W.cell? ⟨w.heap.size, 2, none⟩ = some (.int .i64 xt) ∧ W.cell? ⟨w.heap.size, 3, none⟩ = some (.int .i64 xb) ∧ W.cell? ⟨w.heap.size, 4, none⟩ = some (.int .i64 xm) ∧ W.cell? ⟨w.heap.size, 5, none⟩ = some (.int .i64 xc)) ∧ (W.cell? ⟨z2.heap.size, 0, none⟩ = some (.string a.n) ∧ W.cell? ⟨z2.heap.size, 1, none⟩ = some (.string a.d) ∧ W.cell? ⟨z2.heap.size, 2, none⟩ = some (.int .i64 a.t) ∧ W.cell? ⟨z2.heap.size, 3, none⟩ = some (.int .i64 a.b) ∧ W.cell? ⟨z2.heap.size, 4, none⟩ = some (.int .i64 a.m) ∧ W.cell? ⟨z2.heap.size, 5, none⟩ = some (.int .i64 a.c))) (first | exact K.out _ g | exact K.out _ ⟨g.os, g.tape, g.output, g.size, g.block⟩ | exact K.out _ (g.alloc g.size _)) (first | (go_at_call 11; (with_reducible refine (CUT.out _).mono ?_); (rintro e y ⟨rfl, k'⟩); (have g : Below z3.heap.size z3 y := below_up (by first | exact g | exact ⟨g.os, g.tape, g.output, g.size, g.block⟩) k')))
  all_goals (
   have g2 : Below z3.heap.size z3 _ := (show Below z3.heap.size z3 _ by first | exact g | exact ⟨g.os, g.tape, g.output, g.size, g.block⟩)
   go_wp2_with fail
   go_meet
   first | exact ⟨rfl, rfl, _, rfl, hid (by first | exact cellsAt_new rfl | exact cellsAt_new (by simp)), hid (g2.alloc g2.size _)⟩ | exact ⟨rfl, rfl, _, rfl, hid (cellsAt_new (by simp)).drew, hid ((g2.alloc g2.size _).trans ⟨rfl, rfl, rfl, Nat.le_refl _, fun _ _ => rfl⟩)⟩)
 obtain ⟨rfl, rfl, G, rfl, HG, hbx⟩ := hcut
 generalize wc = z20 at *
 have B20 := hbx
 have P20 := hid (below_up P3.out hbx.out)
 have E20 := hid (fun W (b : Below z20.heap.size z20 W) => E3.out W (below_up B20.out b))
 have HZQ := hid (show ∀ k : Nat, k < 2 → ∃ g : Qt, g.short ∧ ∀ W, Below z20.heap.size z20 W → QtyAt W G k g from fun k hk => by
  have e : k = 0 ∨ k = 1 := by omega
  rcases e with rfl | rfl
  · exact ⟨cutQt ⟨xn, xd, xt, xb, xm, xc⟩, cutQt_short _, fun W b => by
     have h := CellsAt.below HG.out b
     exact ⟨(h 0 (by simp)).1, (h 1 (by simp)).1, (h 2 (by simp)).1, (h 3 (by simp)).1, (h 4 (by simp)).1, (h 5 (by simp)).1⟩⟩
  exact ⟨a, SA.out, fun W b => by
   have h := CellsAt.below HG.out b
   exact ⟨(h 6 (by simp)).1, (h 7 (by simp)).1, (h 8 (by simp)).1, (h 9 (by simp)).1, (h 10 (by simp)).1, (h 11 (by simp)).1⟩⟩)
 clear hbx HG
 go_wp2_with fail
 go_loopw [52] (fun i wr => ∃ k : Nat, k ≤ 2 ∧ i = .int .i64 k ∧ Hid (Below z20.heap.size z20 wr)) (fun i _ => 2 - (RowKit.intOf i).toNat)
 case atStart => exact ⟨0, by omega, rfl, hid (Below.refl _ _)⟩
 obtain ⟨k, hk, rfl, HBW⟩ := hrel
 by_cases hk2 : k < 2
 · skip
   generalize wr = zr at *
   obtain ⟨gq, hgs, hgc⟩ := HZQ.out k hk2
   have P100 := HBW
   have HRB := hid (HR.out.below P20.out)
   have E100 := hid (fun (W : World) (_ : Below zr.heap.size zr W) => trivial)
   have hki : (k : Int) < 2 := by omega
   have hik := fun W => at_qtys G 2 k hk2 W
   obtain ⟨q0, q1, q2, q3, q4, q5⟩ := hgc zr HBW.out
   have HK2 := hid hk2; have HKI := hid hki
   clear hgc hk
   have ce := fun W h => encode_q5 gq hgs W h
   have cf := fun W => encodeR_q5 gq hgs W
   have cp := fun W h => print_q5 gq hgs W h
   have cq := fun W => printR_q5 gq hgs W
   generalize gq.code5 = GC at *
   generalize gq.text5 = GT at *
   generalize eU gq.ok = GE at *
   have CE := hid ce; have CF := hid cf; have CP := hid cp; have CQ := hid cq
   clear ce cf cp cq hgs hk2
   go_upto_region 6 with fail
   obtain ⟨z101, hz101, b101, sz101, f101⟩ := lay1 zr (.string gq.n) [.string gq.d, .int .i64 gq.t, .int .i64 gq.b, .int .i64 gq.m, .int .i64 gq.c] 27
   have V101 := hid hz101
   clear hz101 sz101
   have B101 := hid b101
   have P101 := hid (below_up P100.out b101)
   have E101 := hid (fun W (b : Below z101.heap.size z101 W) => And.intro (f101 W b) (E100.out W (below_up B101.out b)))
   clear b101 f101
   go_upto_region 7 with (rw [V101.out])
   clear q0 q1 q2 q3 q4 q5 hik hki
   obtain ⟨⟨p0, p1, p2, p3, p4, p5⟩, ⟨pf0, pf1, pf2, pf3, pf4, pf5⟩⟩ := six_facts (E101.out z101 (Below.refl _ _)).1
   go_wp2_with fail
   refine (CE.out _ ((HRB.out.below P101.out)).1).mono ?_
   rintro e z102 ⟨rfl, b102⟩
   have B102 := hid b102
   have P102 := hid (below_up P101.out b102)
   have E102 := hid (fun W (b : Below z102.heap.size z102 W) => E101.out W (below_up B102.out b))
   clear b102
   clear p0 p1 p2 p3 p4 p5 pf0 pf1 pf2 pf3 pf4 pf5
   obtain ⟨⟨p0, p1, p2, p3, p4, p5⟩, ⟨pf0, pf1, pf2, pf3, pf4, pf5⟩⟩ := six_facts (E102.out z102 (Below.refl _ _)).1
   go_wp2_with fail
   refine (CF.out _).mono ?_
   rintro e z103 ⟨rfl, b103⟩
   have B103 := hid b103
   have P103 := hid (below_up P102.out b103)
   have E103 := hid (fun W (b : Below z103.heap.size z103 W) => E102.out W (below_up B103.out b))
   clear b103
   clear p0 p1 p2 p3 p4 p5 pf0 pf1 pf2 pf3 pf4 pf5
   go_upto_region 9 with fail
   go_cut [80] from 66 to 80 (fun sv wx => sv = .bool false ∧ Hid (Below z103.heap.size z103 wx))
   case first =>
    have K := hid (show ∀ W, Below z103.heap.size z103 W → ((W.cell? ⟨zr.heap.size, 0, none⟩ = some (.string gq.n) ∧ W.cell? ⟨zr.heap.size, 1, none⟩ = some (.string gq.d) ∧ W.cell? ⟨zr.heap.size, 2, none⟩ = some (.int .i64 gq.t) ∧ W.cell? ⟨zr.heap.size, 3, none⟩ = some (.int .i64 gq.b) ∧ W.cell? ⟨zr.heap.size, 4, none⟩ = some (.int .i64 gq.m) ∧ W.cell? ⟨zr.heap.size, 5, none⟩ = some (.int .i64 gq.c))) from fun W b => (six_facts (E103.out W b).1).1)
    have HRz := hid (HRB.out.below P103.out)
    have g := Below.refl z103.heap.size z103
    go_region_held3 (fun W => (W.cell? ⟨zr.heap.size, 0, none⟩ = some (.string gq.n) ∧ W.cell? ⟨zr.heap.size, 1, none⟩ = some (.string gq.d) ∧ W.cell? ⟨zr.heap.size, 2, none⟩ = some (.int .i64 gq.t) ∧ W.cell? ⟨zr.heap.size, 3, none⟩ = some (.int .i64 gq.b) ∧ W.cell? ⟨zr.heap.size, 4, none⟩ = some (.int .i64 gq.m) ∧ W.cell? ⟨zr.heap.size, 5, none⟩ = some (.int .i64 gq.c))) (first | exact K.out _ g | exact K.out _ ⟨g.os, g.tape, g.output, g.size, g.block⟩) (first | (go_at_call 29; (with_reducible refine (CP.out _ ?_).mono ?_); (first | exact (HRz.out.below g) | exact (HRz.out.below ⟨g.os, g.tape, g.output, g.size, g.block⟩)); (rintro e y ⟨rfl, k'⟩); (have g : Below z103.heap.size z103 y := below_up (by first | exact g | exact ⟨g.os, g.tape, g.output, g.size, g.block⟩) k')) | (go_at_call 30; (with_reducible refine (CQ.out _).mono ?_); (rintro e y ⟨rfl, k'⟩); (have g : Below z103.heap.size z103 y := below_up (by first | exact g | exact ⟨g.os, g.tape, g.output, g.size, g.block⟩) k')))
    all_goals (go_wp2_with fail; go_meet; first | exact ⟨rfl, hid g⟩ | exact ⟨rfl, hid ⟨g.os, g.tape, g.output, g.size, g.block⟩⟩)
   obtain ⟨rfl, hbx⟩ := hcut
   generalize wc = z200 at *
   have P200 := hid (below_up P103.out hbx.out)
   clear hbx
   have hki := HKI.out; have hk2 := HK2.out
   go_wp2_with fail
   go_roundw
   case rel => exact ⟨k + 1, by omega, by go_num, P200⟩
   case measure => simp [RowKit.intOf]; omega
 have hki : ¬ (k : Int) < 2 := by omega
 generalize wr = z21 at *
 have B21 := HBW
 have P21 := hid (below_up P20.out HBW.out)
 have E21 := hid (fun W (b : Below z21.heap.size z21 W) => E20.out W (below_up B21.out b))
 clear HBW hk hk2
 obtain ⟨⟨m0, m1, m2, m3, m4, m5⟩, ⟨mf0, mf1, mf2, mf3, mf4, mf5⟩⟩ := six_facts (E21.out z21 (Below.refl _ _)).1
 go_wp2_with fail
 refine (ER.out _).mono ?_
 rintro e z22 ⟨rfl, b22⟩
 have B22 := hid b22
 have P22 := hid (below_up P21.out b22)
 have E22 := hid (fun W (b : Below z22.heap.size z22 W) => E21.out W (below_up B22.out b))
 clear b22
 clear hki
 clear m0 m1 m2 m3 m4 m5 mf0 mf1 mf2 mf3 mf4 mf5
 obtain ⟨⟨m0, m1, m2, m3, m4, m5⟩, ⟨mf0, mf1, mf2, mf3, mf4, mf5⟩⟩ := six_facts (E22.out z22 (Below.refl _ _)).1
 go_wp2_with fail
 refine (PR.out _).mono ?_
 rintro e z23 ⟨rfl, b23⟩
 have B23 := hid b23
 have P23 := hid (below_up P22.out b23)
 have E23 := hid (fun W (b : Below z23.heap.size z23 W) => E22.out W (below_up B23.out b))
 clear b23
 clear m0 m1 m2 m3 m4 m5 mf0 mf1 mf2 mf3 mf4 mf5
 obtain ⟨l1, l2, l3, l5, l4⟩ := HLEN.out
 go_upto_if 98 with fail
 clear l1 l2 l3 l4 l5
 go_cut [22] from 97 to 101 (fun sk wx => sk = .int .i64 ((kk : Nat) : Int) ∧ wx = z23)
 case first =>
  have k1 := HKK.out.1; have k2 := HKK.out.2.1
  by_cases h : at' < 0
  · go_wp2_with fail
    go_meet
    exact ⟨congrArg (Value.int .i64) (HKK.out.2.2.1 h), rfl⟩
  go_wp2_with fail
  go_meet
  exact ⟨congrArg (Value.int .i64) (HKK.out.2.2.2 h), rfl⟩
 obtain ⟨rfl, rfl⟩ := hcut
 generalize wc = z23 at *
 have hcv1 := HCV1.out
 go_upto_region 20 with fail
 obtain ⟨W2, hW2⟩ : ∃ W2, bytesWorld z23 5 TA = W2 := ⟨_, rfl⟩
 obtain ⟨B1, hB1⟩ : ∃ B, z23.heap.size = B := ⟨_, rfl⟩
 obtain ⟨C1, hC1⟩ : ∃ C, grownCap z23 TA.size 0 5 = C := ⟨_, rfl⟩
 rw [hW2, hB1, hC1]
 have BB1 := hid (show Below z23.heap.size z23 W2 by rw [← hW2]; exact bytes_below5 _ _ _)
 have RW1 := hid (show ByteRow5 W2 B1 TA.data.toList by rw [← hW2, ← hB1]; exact ByteRow5.made _ _ _)
 have LB1 := hid (show W0.heap.size ≤ B1 by rw [← hB1]; exact P23.out.size)
 have GC1 := hid (show TA.size ≤ C1 by rw [← hC1]; exact grownCap_ge _ _ _ _)
 have LZ1 := hid (show B1 < W2.heap.size by rw [← hW2, ← hB1, bytesWorld_size]; omega)
 clear hW2 hB1 hC1 hcv1
 obtain ⟨c1, c2⟩ := RW1.out j1 (by rw [list_size5]; exact HJ1.out)
 obtain ⟨r1, r2⟩ := HR1.out
 have hj1 := HJ1.out
 have hg1 := GC1.out
 go_upto_region 21 with fail
 obtain ⟨W3, hW3⟩ : ∃ W3, W2.setCell ⟨B1, j1, none⟩ (.int .u8 ((u.toNat : Nat) : Int)) = W3 := ⟨_, rfl⟩
 rw [hW3]
 have P3 := hid (show Below W0.heap.size W0 W3 by rw [← hW3]; exact Below.setCell (p := ⟨B1, j1, none⟩) (below_up P23.out BB1.out) LB1.out _)
 have RW2 := hid (show ByteRow5 W3 B1 (TA.data.toList.set j1 u) by rw [← hW3]; exact RW1.out.set j1 u)
 have LZ2 := hid (show B1 < W3.heap.size by rw [← hW3]; simpa using LZ1.out)
 clear hW3 c1 c2 r1 r2 hj1 hg1 RW1
 have hcv2 := HCV2.out
 go_upto_region 22 with fail
 obtain ⟨W4, hW4⟩ : ∃ W2, bytesWorld W3 5 CA = W2 := ⟨_, rfl⟩
 obtain ⟨B2, hB2⟩ : ∃ B, W3.heap.size = B := ⟨_, rfl⟩
 obtain ⟨C2, hC2⟩ : ∃ C, grownCap W3 CA.size 0 5 = C := ⟨_, rfl⟩
 rw [hW4, hB2, hC2]
 have BB2 := hid (show Below W3.heap.size W3 W4 by rw [← hW4]; exact bytes_below5 _ _ _)
 have RX1 := hid (show ByteRow5 W4 B2 CA.data.toList by rw [← hW4, ← hB2]; exact ByteRow5.made _ _ _)
 have LB2 := hid (show W0.heap.size ≤ B2 by rw [← hB2]; exact P3.out.size)
 have GC2 := hid (show CA.size ≤ C2 by rw [← hC2]; exact grownCap_ge _ _ _ _)
 have NE2 := hid (show B2 ≠ B1 by rw [← hB2]; exact Nat.ne_of_gt LZ2.out)
 clear hW4 hB2 hC2 hcv2
 have RW3 := hid (RW2.out.below LZ2.out BB2.out)
 have LZ3 := hid (Nat.lt_of_lt_of_le LZ2.out BB2.out.size)
 obtain ⟨c1, c2⟩ := RX1.out j2 (by rw [list_size5]; exact HJ2.out)
 obtain ⟨r1, r2⟩ := HR2.out
 have hj2 := HJ2.out
 have hg2 := GC2.out
 go_upto_region 23 with fail
 obtain ⟨W5, hW5⟩ : ∃ W5, W4.setCell ⟨B2, j2, none⟩ (.int .u8 ((u.toNat : Nat) : Int)) = W5 := ⟨_, rfl⟩
 rw [hW5]
 have P5 := hid (show Below W0.heap.size W0 W5 by rw [← hW5]; exact Below.setCell (p := ⟨B2, j2, none⟩) (below_up P3.out BB2.out) LB2.out _)
 have RX2 := hid (show ByteRow5 W5 B2 (CA.data.toList.set j2 u) by rw [← hW5]; exact RX1.out.set j2 u)
 have RW4 := hid (show ByteRow5 W5 B1 (TA.data.toList.set j1 u) by rw [← hW5]; exact far_row5 NE2.out RW3.out)
 clear hW5 c1 c2 r1 r2 hj2 hg2 RX1 RW3
 obtain ⟨Y1, hy1⟩ : ∃ t : ByteArray, (⟨(TA.data.toList.set j1 u).toArray⟩ : ByteArray) = t := ⟨_, rfl⟩
 obtain ⟨Y2, hy2⟩ : ∃ t : ByteArray, (⟨(CA.data.toList.set j2 u).toArray⟩ : ByteArray) = t := ⟨_, rfl⟩
 have SY := hid (show Y1.size ≤ 1000 ∧ Y2.size ≤ 1000 by
  rw [← hy1, ← hy2, bytesOf_size, bytesOf_size, List.length_set, List.length_set, list_size5, list_size5]; exact HSZ.out)
 have V1 := hid (fun (W : World) (h : W.heap = W5.heap) => show (convert 44 9 (.slice (some ⟨B1, 0, none⟩) TA.size C1)).run Tryz.prog W = .ok (.string Y1) W by
  rw [← hy1]; exact conv5 W B1 C1 _ TA.size (by rw [List.length_set, list_size5]) (row_heap5 h RW4.out))
 have V2 := hid (fun (W : World) (h : W.heap = W5.heap) => show (convert 44 9 (.slice (some ⟨B2, 0, none⟩) CA.size C2)).run Tryz.prog W = .ok (.string Y2) W by
  rw [← hy2]; exact conv5 W B2 C2 _ CA.size (by rw [List.length_set, list_size5]) (row_heap5 h RX2.out))
 clear hy1 hy2
 go_cut [127, 128, 129] from 120 to 129 (fun sa sb sc wx => sb = .int .i64 5 ∧ sc = .int .i64 0 ∧ ∃ G2 : Nat, sa = .slice (some ⟨G2, 0, none⟩) 5 5 ∧ Hid (CellsAt wx G2 [.string XS, .string TA, .string CA, .string Y1, .string Y2]) ∧ Hid (Below W0.heap.size W0 wx))
 case first =>
  have a1 := V1.out W5 rfl; have b1 := V2.out W5 rfl
  go_wp2_with fail
  go_meet
  exact ⟨rfl, rfl, _, rfl, hid (by first | exact cellsAt_new rfl | exact cellsAt_new (by simp)), hid (P5.out.alloc P5.out.size _)⟩
 obtain ⟨rfl, rfl, G2, rfl, HG2, PB⟩ := hcut
 generalize wc = zb at *
 have HZT := hid (show ∀ k : Nat, k < 5 → ∃ T : ByteArray, T.size ≤ 1000 ∧ ∀ W, Below zb.heap.size zb W → W.cell? ⟨G2, k, none⟩ = some (.string T) from fun k hk => by
  have e : k = 0 ∨ k = 1 ∨ k = 2 ∨ k = 3 ∨ k = 4 := by omega
  rcases e with rfl | rfl | rfl | rfl | rfl
  · exact ⟨XS, HXS.out, fun W b => (CellsAt.below HG2.out b 0 (by simp)).1⟩
  · exact ⟨TA, HSZ.out.1, fun W b => (CellsAt.below HG2.out b 1 (by simp)).1⟩
  · exact ⟨CA, HSZ.out.2, fun W b => (CellsAt.below HG2.out b 2 (by simp)).1⟩
  · exact ⟨Y1, SY.out.1, fun W b => (CellsAt.below HG2.out b 3 (by simp)).1⟩
  exact ⟨Y2, SY.out.2, fun W b => (CellsAt.below HG2.out b 4 (by simp)).1⟩)
 clear HG2 SY V1 V2 RX2 RW4
 go_wp2_with fail
 go_loopw [129] (fun i wr => ∃ k : Nat, k ≤ 5 ∧ i = .int .i64 k ∧ Hid (Below zb.heap.size zb wr)) (fun i _ => 5 - (RowKit.intOf i).toNat)
 case atStart => exact ⟨0, by omega, rfl, hid (Below.refl _ _)⟩
 obtain ⟨k2, hk, rfl, HBW⟩ := hrel
 by_cases hk5 : k2 < 5
 · skip
   generalize wr = zs at *
   obtain ⟨T, hts, htc⟩ := HZT.out k2 hk5
   have P300 := HBW
   have HRB := hid (HR.out.below PB.out)
   have E300 := hid (fun (W : World) (_ : Below zs.heap.size zs W) => trivial)
   have hki2 : (k2 : Int) < 5 := by omega
   have hik := fun W => at_strs G2 5 k2 hk5 W
   have hct := htc zs HBW.out
   have HK5 := hid hk5; have HKI2 := hid hki2; have HTS := hid hts
   clear htc hk
   have cp := fun W h => parse_u T (Nat.le_trans HTS.out (by decide)) W h
   have cq := fun W => parseR_q5 T (Nat.le_trans HTS.out (by decide)) W
   obtain ⟨j, hj, hrem⟩ := rem6 kk T.size
   generalize parQt T = r at *
   generalize eU (parUB T) = RE at *
   have err' := fun W => eq_qty6 r.n r.d r.n r.d r.t r.b r.m r.c r.t r.b r.m r.c W
   rw [decide_eq_true (show r.n = r.n ∧ r.d = r.d ∧ r.t = r.t ∧ r.b = r.b ∧ r.m = r.m ∧ r.c = r.c from ⟨rfl, rfl, rfl, rfl, rfl, rfl⟩)] at err'
   have CP := hid cp; have CQ := hid cq; have ERR := hid err'
   have HJ := hid hj; have HREM := hid hrem
   clear cp cq err' hj hrem hk5 hts
   go_wp2_with fail
   refine (CP.out _ (HRB.out.below P300.out)).mono ?_
   rintro e z301 ⟨rfl, b301⟩
   have B301 := hid b301
   have P301 := hid (below_up P300.out b301)
   have E301 := hid (fun W (b : Below z301.heap.size z301 W) => E300.out W (below_up B301.out b))
   clear b301
   obtain ⟨z302, hz302, b302, sz302, f302⟩ := lay1 z301 (.string r.n) [.string r.d, .int .i64 r.t, .int .i64 r.b, .int .i64 r.m, .int .i64 r.c] 27
   have V302 := hid hz302
   clear hz302 sz302
   have B302 := hid b302
   have P302 := hid (below_up P301.out b302)
   have E302 := hid (fun W (b : Below z302.heap.size z302 W) => And.intro (f302 W b) (E301.out W (below_up B302.out b)))
   clear b302 f302
   go_wp2_with (rw [V302.out])
   refine (CQ.out _).mono ?_
   rintro e z303 ⟨rfl, b303⟩
   have B303 := hid b303
   have P303 := hid (below_up P302.out b303)
   have E303 := hid (fun W (b : Below z303.heap.size z303 W) => E302.out W (below_up B303.out b))
   clear b303
   clear hik hct hki2
   obtain ⟨z304, hz304, b304, sz304, f304⟩ := lay1 z303 (.string r.n) [.string r.d, .int .i64 r.t, .int .i64 r.b, .int .i64 r.m, .int .i64 r.c] 27
   have V304 := hid hz304
   clear hz304 sz304
   have B304 := hid b304
   have P304 := hid (below_up P303.out b304)
   have E304 := hid (fun W (b : Below z304.heap.size z304 W) => And.intro (f304 W b) (E303.out W (below_up B304.out b)))
   clear b304 f304
   go_upto_region 28 with (rw [V304.out])
   go_cut [150] from 143 to 150 (fun sv wx => sv = .bool false ∧ wx = z304)
   case first =>
    obtain ⟨⟨p0, p1, p2, p3, p4, p5⟩, ⟨pf0, pf1, pf2, pf3, pf4, pf5⟩⟩ := six_facts (E304.out z304 (Below.refl _ _)).2.1
    obtain ⟨⟨q0, q1, q2, q3, q4, q5⟩, ⟨qf0, qf1, qf2, qf3, qf4, qf5⟩⟩ := six_facts (E304.out z304 (Below.refl _ _)).1
    have er := ERR.out
    go_wp2_with fail
    go_meet
    exact ⟨rfl, rfl⟩
   obtain ⟨rfl, rfl⟩ := hcut
   generalize wc = z304 at *
   have hrem := HREM.out.1; have hrem2 := HREM.out.2; have hj := HJ.out; have hts := HTS.out
   have hn0 : ¬ T.size + 1 = 0 := by omega
   have hn1 : ¬ ((T.size : Int) + 1 = 0) := by omega
   go_upto_region 30 with fail
   go_cut [157, 158, 159] from 151 to 159 (fun sa sb sc wx => sb = .int .i64 3 ∧ sc = .int .i64 0 ∧ ∃ G3 : Nat, sa = .slice (some ⟨G3, 0, none⟩) 3 3 ∧ Hid (CellsAt wx G3 [.int .i64 at', .int .i64 0, .int .i64 (j : Int)]) ∧ Hid (Below z304.heap.size z304 wx))
   case first =>
    go_wp2_with fail
    go_meet
    exact ⟨rfl, rfl, _, rfl, hid (by first | exact cellsAt_new rfl | exact cellsAt_new (by simp)), hid ((Below.refl _ _).alloc (Nat.le_refl _) _)⟩
   obtain ⟨rfl, rfl, G3, rfl, HG3, hbx⟩ := hcut
   generalize wc = z400 at *
   have P400 := hid (below_up P304.out hbx.out)
   have HZI := hid (show ∀ k : Nat, k < 3 → ∃ n : Int, ∀ W, Below z400.heap.size z400 W → W.cell? ⟨G3, k, none⟩ = some (.int .i64 n) from fun k hk => by
    have e : k = 0 ∨ k = 1 ∨ k = 2 := by omega
    rcases e with rfl | rfl | rfl
    · exact ⟨_, fun W b => (CellsAt.below HG3.out b 0 (by simp)).1⟩
    · exact ⟨_, fun W b => (CellsAt.below HG3.out b 1 (by simp)).1⟩
    exact ⟨_, fun W b => (CellsAt.below HG3.out b 2 (by simp)).1⟩)
   clear hbx HG3 hrem hrem2 hj hts hn0 hn1
   go_wp2_with fail
   go_loopw [159] (fun i wr => ∃ k : Nat, k ≤ 3 ∧ i = .int .i64 k ∧ Hid (Below z400.heap.size z400 wr)) (fun i _ => 3 - (RowKit.intOf i).toNat)
   case atStart => exact ⟨0, by omega, rfl, hid (Below.refl _ _)⟩
   obtain ⟨k3, hk, rfl, HBV⟩ := hrel
   by_cases hk6 : k3 < 3
   · skip
     generalize wr = zt at *
     obtain ⟨iv, hic⟩ := HZI.out k3 hk6
     have P500 := HBV
     have HRC := hid (HRB.out.below P400.out)
     have E500 := hid (fun (W : World) (_ : Below zt.heap.size zt W) => trivial)
     have hki3 : (k3 : Int) < 3 := by omega
     have hik := fun W => at_ints G3 3 k3 hk6 W
     have hct := hic zt HBV.out
     have HK6 := hid hk6; have HKI3 := hid hki3
     clear hic hk
     have cp := fun W h => decode_u T (Nat.le_trans HTS.out (by decide)) iv W h
     have cq := fun W => decodeR_any T (Nat.le_trans HTS.out (by decide)) iv W
     generalize decQt T iv = d at *
     generalize decP T iv = dp at *
     generalize decE T iv = de at *
     have err' := fun W => eq_qty6 d.n d.d d.n d.d d.t d.b d.m d.c d.t d.b d.m d.c W
     rw [decide_eq_true (show d.n = d.n ∧ d.d = d.d ∧ d.t = d.t ∧ d.b = d.b ∧ d.m = d.m ∧ d.c = d.c from ⟨rfl, rfl, rfl, rfl, rfl, rfl⟩)] at err'
     have CP2 := hid cp; have CQ2 := hid cq; have ERR2 := hid err'
     clear cp cq err' hk6
     go_wp2_with fail
     refine (CP2.out _ ((HRC.out.below P500.out)).1).mono ?_
     rintro e z501 ⟨rfl, b501⟩
     have B501 := hid b501
     have P501 := hid (below_up P500.out b501)
     have E501 := hid (fun W (b : Below z501.heap.size z501 W) => E500.out W (below_up B501.out b))
     clear b501
     obtain ⟨z502, hz502, b502, sz502, f502⟩ := lay1 z501 (.string d.n) [.string d.d, .int .i64 d.t, .int .i64 d.b, .int .i64 d.m, .int .i64 d.c] 27
     have V502 := hid hz502
     clear hz502 sz502
     have B502 := hid b502
     have P502 := hid (below_up P501.out b502)
     have E502 := hid (fun W (b : Below z502.heap.size z502 W) => And.intro (f502 W b) (E501.out W (below_up B502.out b)))
     clear b502 f502
     go_wp2_with (rw [V502.out])
     refine (CQ2.out _).mono ?_
     rintro e z503 ⟨rfl, b503⟩
     have B503 := hid b503
     have P503 := hid (below_up P502.out b503)
     have E503 := hid (fun W (b : Below z503.heap.size z503 W) => E502.out W (below_up B503.out b))
     clear b503
     clear hik hct hki3
     obtain ⟨z504, hz504, b504, sz504, f504⟩ := lay1 z503 (.string d.n) [.string d.d, .int .i64 d.t, .int .i64 d.b, .int .i64 d.m, .int .i64 d.c] 27
     have V504 := hid hz504
     clear hz504 sz504
     have B504 := hid b504
     have P504 := hid (below_up P503.out b504)
     have E504 := hid (fun W (b : Below z504.heap.size z504 W) => And.intro (f504 W b) (E503.out W (below_up B504.out b)))
     clear b504 f504
     go_upto_region 35 with (rw [V504.out])
     go_cut [189] from 177 to 189 (fun sv wx => sv = .bool false ∧ wx = z504)
     case first =>
      obtain ⟨⟨p0, p1, p2, p3, p4, p5⟩, ⟨pf0, pf1, pf2, pf3, pf4, pf5⟩⟩ := six_facts (E504.out z504 (Below.refl _ _)).2.1
      obtain ⟨⟨q0, q1, q2, q3, q4, q5⟩, ⟨qf0, qf1, qf2, qf3, qf4, qf5⟩⟩ := six_facts (E504.out z504 (Below.refl _ _)).1
      have er := ERR2.out
      go_wp2_with fail
      go_meet
      exact ⟨rfl, rfl⟩
     obtain ⟨rfl, rfl⟩ := hcut
     generalize wc = z504 at *
     have hki3 := HKI3.out; have hk6 := HK6.out
     go_wp2_with fail
     go_roundw
     case rel => exact ⟨k3 + 1, by omega, by go_num, P504⟩
     case measure => simp [RowKit.intOf]; omega
   have hki3 : ¬ (k3 : Int) < 3 := by omega
   have PE := hid (below_up P400.out HBV.out)
   have hki2 := HKI2.out; have hk5 := HK5.out
   go_wp2_with fail
   go_roundw
   case rel => exact ⟨k2 + 1, by omega, by go_num, PE⟩
   case measure => simp [RowKit.intOf]; omega
 have hki2 : ¬ (k2 : Int) < 5 := by omega
 have PE := hid (below_up B0.out (below_up PB.out HBW.out))
 go_wp2
 go_ret
 exact ⟨rfl, PE.out⟩
end Go.Proofs.YtcglcgphgahnpaaGreatDoor
