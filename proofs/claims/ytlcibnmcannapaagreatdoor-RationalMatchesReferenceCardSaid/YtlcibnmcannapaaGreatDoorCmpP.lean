/-
  The contract of the program's Compare of fractions.
-/
import Derived.Test.YtlcibnmcannapaaGreatDoorCmpQ
import Derived.Test.YtlcibnmcannapaaGreatDoorApiQ
import Derived.WalkMore
import Derived.ScopeJumps
namespace Go.Proofs.YtlcibnmcannapaaGreatDoor
open Go Go.Proofs Go.RowKit Go.Lib

theorem RatAt.below {W W' : World} {B : Nat} {n d : ByteArray} (h : RatAt W B n d) (b : Below W.heap.size W W') : RatAt W' B n d := by
  obtain ⟨h1, h2, h3, h4⟩ := h
  have l := World.block_lt_of_cell? W ⟨B, 0, none⟩ h1
  exact ⟨(b.cell (p := ⟨B, 0, none⟩) l).trans h1, (b.cell (p := ⟨B, 1, none⟩) l).trans h2, (b.frozen (p := ⟨B, 0, none⟩) l).trans h3, (b.frozen (p := ⟨B, 1, none⟩) l).trans h4⟩
theorem cell_set {W : World} {p q : Addr} {v u : Value} (h : W.cell? q = some u) : (W.setCell p v).cell? q = if p = q then some v else some u := by
  by_cases e : p = q
  · subst e; rw [if_pos rfl]; exact World.cell?_setCell_same W p v h
  · rw [if_neg e, World.cell?_setCell_other W p q v e]; exact h
theorem two_stores {W : World} {A B : Nat} {n d m c x y z u : ByteArray} (hne : A ≠ B) (hA : RatAt W A n d) (hB : RatAt W B m c) :
    RatAt ((((W.setCell ⟨A, 0, none⟩ (.string x)).setCell ⟨A, 1, none⟩ (.string y)).setCell ⟨B, 0, none⟩ (.string z)).setCell ⟨B, 1, none⟩ (.string u)) A x y ∧
    RatAt ((((W.setCell ⟨A, 0, none⟩ (.string x)).setCell ⟨A, 1, none⟩ (.string y)).setCell ⟨B, 0, none⟩ (.string z)).setCell ⟨B, 1, none⟩ (.string u)) B z u := by
  obtain ⟨a1, a2, a3, a4⟩ := hA
  obtain ⟨b1, b2, b3, b4⟩ := hB
  have k00 := World.cell?_setCell_same W ⟨A, 0, none⟩ (.string x) a1
  have k01 := (World.cell?_setCell_other W ⟨A, 0, none⟩ ⟨A, 1, none⟩ (.string x) (by intro e; injection e with e1 e2; omega)).trans a2
  have k02 := (World.cell?_setCell_other W ⟨A, 0, none⟩ ⟨B, 0, none⟩ (.string x) (by intro e; injection e with e1 e2; omega)).trans b1
  have k03 := (World.cell?_setCell_other W ⟨A, 0, none⟩ ⟨B, 1, none⟩ (.string x) (by intro e; injection e with e1 e2; omega)).trans b2
  have k10 := (World.cell?_setCell_other (W.setCell ⟨A, 0, none⟩ (.string x)) ⟨A, 1, none⟩ ⟨A, 0, none⟩ (.string y) (by intro e; injection e with e1 e2; omega)).trans k00
  have k11 := World.cell?_setCell_same (W.setCell ⟨A, 0, none⟩ (.string x)) ⟨A, 1, none⟩ (.string y) k01
  have k12 := (World.cell?_setCell_other (W.setCell ⟨A, 0, none⟩ (.string x)) ⟨A, 1, none⟩ ⟨B, 0, none⟩ (.string y) (by intro e; injection e with e1 e2; omega)).trans k02
  have k13 := (World.cell?_setCell_other (W.setCell ⟨A, 0, none⟩ (.string x)) ⟨A, 1, none⟩ ⟨B, 1, none⟩ (.string y) (by intro e; injection e with e1 e2; omega)).trans k03
  have k20 := (World.cell?_setCell_other ((W.setCell ⟨A, 0, none⟩ (.string x)).setCell ⟨A, 1, none⟩ (.string y)) ⟨B, 0, none⟩ ⟨A, 0, none⟩ (.string z) (by intro e; injection e with e1 e2; omega)).trans k10
  have k21 := (World.cell?_setCell_other ((W.setCell ⟨A, 0, none⟩ (.string x)).setCell ⟨A, 1, none⟩ (.string y)) ⟨B, 0, none⟩ ⟨A, 1, none⟩ (.string z) (by intro e; injection e with e1 e2; omega)).trans k11
  have k22 := World.cell?_setCell_same ((W.setCell ⟨A, 0, none⟩ (.string x)).setCell ⟨A, 1, none⟩ (.string y)) ⟨B, 0, none⟩ (.string z) k12
  have k23 := (World.cell?_setCell_other ((W.setCell ⟨A, 0, none⟩ (.string x)).setCell ⟨A, 1, none⟩ (.string y)) ⟨B, 0, none⟩ ⟨B, 1, none⟩ (.string z) (by intro e; injection e with e1 e2; omega)).trans k13
  have k30 := (World.cell?_setCell_other (((W.setCell ⟨A, 0, none⟩ (.string x)).setCell ⟨A, 1, none⟩ (.string y)).setCell ⟨B, 0, none⟩ (.string z)) ⟨B, 1, none⟩ ⟨A, 0, none⟩ (.string u) (by intro e; injection e with e1 e2; omega)).trans k20
  have k31 := (World.cell?_setCell_other (((W.setCell ⟨A, 0, none⟩ (.string x)).setCell ⟨A, 1, none⟩ (.string y)).setCell ⟨B, 0, none⟩ (.string z)) ⟨B, 1, none⟩ ⟨A, 1, none⟩ (.string u) (by intro e; injection e with e1 e2; omega)).trans k21
  have k32 := (World.cell?_setCell_other (((W.setCell ⟨A, 0, none⟩ (.string x)).setCell ⟨A, 1, none⟩ (.string y)).setCell ⟨B, 0, none⟩ (.string z)) ⟨B, 1, none⟩ ⟨B, 0, none⟩ (.string u) (by intro e; injection e with e1 e2; omega)).trans k22
  have k33 := World.cell?_setCell_same (((W.setCell ⟨A, 0, none⟩ (.string x)).setCell ⟨A, 1, none⟩ (.string y)).setCell ⟨B, 0, none⟩ (.string z)) ⟨B, 1, none⟩ (.string u) k23
  refine ⟨⟨k30, k31, ?_, ?_⟩, ⟨k32, k33, ?_, ?_⟩⟩ <;> simp [*]
/-- The measure of the jumps of Compare. -/
def CmpMu (A : Nat) (w : World) : Nat := (numB (strOfV ((w.cell? ⟨A, 1, none⟩).getD undef))).natAbs + (numB (strOfV ((w.cell? ⟨A + 1, 1, none⟩).getD undef))).natAbs
theorem cmpMu_at {A : Nat} {w : World} {n m : ByteArray} {d c : Int} (h1 : RatAt w A n (textI d)) (h2 : RatAt w (A + 1) m (textI c)) (f1 : Fits d) (f2 : Fits c) : CmpMu A w = d.natAbs + c.natAbs := by
  unfold CmpMu
  rw [h1.2.1, h2.2.1]
  show (numB (textI d)).natAbs + (numB (textI c)).natAbs = _
  rw [(valid_text f1).2, (valid_text f2).2]
theorem cmp_end' {n d m c R : Int} (h : CmpInv n d m c 1 R) (hz : n / d = m / c) (hr : n % d = 0 ∨ m % c = 0) : sgZ (n % d) (m % c) = R := by
  have := cmp_end h hz hr
  obtain ⟨_, _, _, _, h5, h6, _, _⟩ := h
  rw [zOr_sg (Int.emod_nonneg n (by omega)) (Int.emod_nonneg m (by omega)) hr, Int.one_mul] at this
  exact this
theorem cmp_whole' {n d m c R : Int} (h : CmpInv n d m c 1 R) (hz : n / d ≠ m / c) : sgZ (n / d) (m / c) = R := by
  have := cmp_whole h hz
  rw [Int.one_mul] at this
  exact this
theorem cmp_next' {n d m c R : Int} (h : CmpInv n d m c 1 R) (hz : n / d = m / c) (hr : n % d ≠ 0) (ht : m % c ≠ 0) : CmpInv c (m % c) d (n % d) 1 R ∧ (m % c).natAbs + (n % d).natAbs < d.natAbs + c.natAbs := by
  obtain ⟨h1, h2, h3, h4, h5, h6, h7, h8⟩ := h
  have p1 := Int.emod_nonneg n (show d ≠ 0 by omega)
  have p2 := Int.emod_nonneg m (show c ≠ 0 by omega)
  have p3 := Int.emod_lt_of_pos n h5
  have p4 := Int.emod_lt_of_pos m h6
  refine ⟨⟨h4, rem_fits h4 h6, h2, rem_fits h2 h5, by omega, by omega, .inl rfl, ?_⟩, by omega⟩
  rw [whole_eq hz] at h8
  rw [← h8, Int.one_mul, Int.one_mul, Int.mul_comm c, Int.mul_comm d]

/-- What holds at the label of Compare. -/
def CmpJ (va vb : Value) (w : World) (R : Int) (a' : Act) (w' : World) : Prop :=
  ∃ n d m c : Int, (∃ u5 u6 u7 u8 u9 u10 u11 u12 u13 u14 u15 u16 u17 u18 u19 u20 u21 u22 u23 u24 u25 u26 u27 u28 u29 u30 u31 u32 u33 u34 u35 u36 u37 u38 u39 u40 u41 u42 u43 u44 u45 u46 u47 u48 u49 u50 u51 u52 u53 u54 u55 u56 u57 u58 u59 u60 : Value, a' = { tmps := #[va, vb, .pointer (some ⟨w.heap.size, 0, none⟩), .pointer (some ⟨w.heap.size + 1, 0, none⟩), .int .i64 0, u5, u6, u7, u8, u9, u10, u11, u12, u13, u14, u15, u16, u17, u18, u19, u20, u21, u22, u23, u24, u25, u26, u27, u28, u29, u30, u31, u32, u33, u34, u35, u36, u37, u38, u39, u40, u41, u42, u43, u44, u45, u46, u47, u48, u49, u50, u51, u52, u53, u54, u55, u56, u57, u58, u59, u60], defers := [] }) ∧
    CmpInv n d m c 1 R ∧ RatAt w' w.heap.size (textI n) (textI d) ∧ RatAt w' (w.heap.size + 1) (textI m) (textI c) ∧ Below w.heap.size w w'

set_option maxRecDepth 100000 in
set_option maxHeartbeats 8000000 in
theorem cmp_q (an ad bn bd : ByteArray) (h1 : an.size ≤ 1099511627776) (h2 : ad.size ≤ 1099511627776) (h3 : bn.size ≤ 1099511627776) (h4 : bd.size ≤ 1099511627776) (w : World) (hR : Ready w) :
    Calls Tryz.prog 20 #[.agg #[.string an, .string ad], .agg #[.string bn, .string bd]] w fun e w' => e = .returned (.int .i64 (cmpQ an ad bn bd)) ∧ Below w.heap.size w w' := by
  obtain ⟨W0, hW0, b0, hcc⟩ := box_two w an ad bn bd
  have HW := Lib.hid hW0; have HC := Lib.hid hcc; have B0 := Lib.hid b0
  have HR := Lib.hid (hR.below b0)
  have P0 := Lib.hid (Below.refl W0.heap.size W0)
  clear hW0 hcc b0
  have va := fun W (h : Ready W) => valid_q an ad h1 h2 W h
  have vb := fun W (h : Ready W) => valid_q bn bd h3 h4 W h
  cases hv : bothB an ad bn bd with
  | false =>
    clear hR
    have hb : cmpQ an ad bn bd = 0 := by unfold cmpQ; rw [hv]; rfl
    rw [hb]
    unfold bothB at hv
    cases e1 : validQ an ad with
    | false =>
      rw [e1] at va
      have VA := Lib.hid va; have VB := Lib.hid vb
      clear va vb e1 hv hb
      go_enter Tryz.func20, Tryz.ntmps20
      obtain ⟨⟨ca0, cb0, cc0, cd0⟩, ⟨ce0, cf0, cg0, ch0⟩⟩ := HC.out _ (Below.refl _ _)
      go_wp2
      refine wp_scope_straight ?_
      go_wp2_with (rw [HW.out])
      refine (VA.out _ (HR.out.below P0.out)).mono ?_
      rintro e w1 ⟨rfl, b1⟩
      have P1 := Lib.hid (below_up P0.out b1)
      obtain ⟨⟨ca1, cb1, cc1, cd1⟩, ⟨ce1, cf1, cg1, ch1⟩⟩ := HC.out _ P1.out
      clear b1 P0 ca0 cb0 cc0 cd0 ce0 cf0 cg0 ch0 
      go_wp2_with fail
      simp only [Exit.noGoto_ret]
      go_ret
      exact ⟨rfl, below_up B0.out P1.out⟩
    | true =>
      rw [e1, Bool.true_and] at hv
      rw [e1] at va
      rw [hv] at vb
      have VA := Lib.hid va; have VB := Lib.hid vb
      clear va vb e1 hv hb
      go_enter Tryz.func20, Tryz.ntmps20
      obtain ⟨⟨ca0, cb0, cc0, cd0⟩, ⟨ce0, cf0, cg0, ch0⟩⟩ := HC.out _ (Below.refl _ _)
      go_wp2
      refine wp_scope_straight ?_
      go_wp2_with (rw [HW.out])
      refine (VA.out _ (HR.out.below P0.out)).mono ?_
      rintro e w1 ⟨rfl, b1⟩
      have P1 := Lib.hid (below_up P0.out b1)
      obtain ⟨⟨ca1, cb1, cc1, cd1⟩, ⟨ce1, cf1, cg1, ch1⟩⟩ := HC.out _ P1.out
      clear b1 P0 ca0 cb0 cc0 cd0 ce0 cf0 cg0 ch0 
      go_wp2_with fail
      refine (VB.out _ (HR.out.below P1.out)).mono ?_
      rintro e w2 ⟨rfl, b2⟩
      have P2 := Lib.hid (below_up P1.out b2)
      obtain ⟨⟨ca2, cb2, cc2, cd2⟩, ⟨ce2, cf2, cg2, ch2⟩⟩ := HC.out _ P2.out
      clear b2 P1 ca1 cb1 cc1 cd1 ce1 cf1 cg1 ch1 
      go_wp2_with fail
      simp only [Exit.noGoto_ret]
      go_ret
      exact ⟨rfl, below_up B0.out P2.out⟩
  | true =>
    have hinv := cmpInv_start hv
    obtain ⟨v1, v2⟩ := both_parts hv
    obtain ⟨u1, u2, _, _⟩ := validQ_parts v1
    obtain ⟨u3, u4, _, _⟩ := validQ_parts v2
    rw [v1] at va
    rw [v2] at vb
    generalize cmpQ an ad bn bd = R at *
    have VA := Lib.hid va; have VB := Lib.hid vb
    obtain ⟨n0, hn0⟩ : ∃ x, numB an = x := ⟨_, rfl⟩
    obtain ⟨d0, hd0⟩ : ∃ x, numB ad = x := ⟨_, rfl⟩
    obtain ⟨m0, hm0⟩ : ∃ x, numB bn = x := ⟨_, rfl⟩
    obtain ⟨c0, hc0⟩ : ∃ x, numB bd = x := ⟨_, rfl⟩
    have en := (text_valid u1).2
    have ed := (text_valid u2).2
    have em := (text_valid u3).2
    have ec := (text_valid u4).2
    rw [hn0] at en
    rw [hd0] at ed
    rw [hm0] at em
    rw [hc0] at ec
    rw [hn0, hd0, hm0, hc0] at hinv
    clear va vb v1 v2 u1 u2 u3 u4 hv h1 h2 h3 h4 hn0 hd0 hm0 hc0
    subst en ed em ec
    have HI := Lib.hid hinv; have HRw := Lib.hid hR
    clear hinv hR
    go_enter Tryz.func20, Tryz.ntmps20
    obtain ⟨⟨ca0, cb0, cc0, cd0⟩, ⟨ce0, cf0, cg0, ch0⟩⟩ := HC.out _ (Below.refl _ _)
    go_wp2
    refine wp_scope_jumps 0 (CmpJ (.agg #[.string (textI n0), .string (textI d0)]) (.agg #[.string (textI m0), .string (textI c0)]) w R) (fun _ w' => CmpMu w.heap.size w') rfl ?_ ?_
    · skip
      go_wp2_with (rw [HW.out])
      refine (VA.out _ (HR.out.below P0.out)).mono ?_
      rintro e w1 ⟨rfl, b1⟩
      have P1 := Lib.hid (below_up P0.out b1)
      obtain ⟨⟨ca1, cb1, cc1, cd1⟩, ⟨ce1, cf1, cg1, ch1⟩⟩ := HC.out _ P1.out
      clear b1 P0 ca0 cb0 cc0 cd0 ce0 cf0 cg0 ch0 
      go_wp2_with fail
      refine (VB.out _ (HR.out.below P1.out)).mono ?_
      rintro e w2 ⟨rfl, b2⟩
      have P2 := Lib.hid (below_up P1.out b2)
      obtain ⟨⟨ca2, cb2, cc2, cd2⟩, ⟨ce2, cf2, cg2, ch2⟩⟩ := HC.out _ P2.out
      clear b2 P1 ca1 cb1 cc1 cd1 ce1 cf1 cg1 ch1 
      go_wp2_with fail
      go_step3
      clear ca2 cb2 cc2 cd2 ce2 cf2 cg2 ch2
      have HA := Lib.hid (show RatAt w2 w.heap.size (textI n0) (textI d0) from (HC.out _ P2.out).1)
      have HB := Lib.hid (show RatAt w2 (w.heap.size + 1) (textI m0) (textI c0) from (HC.out _ P2.out).2)
      have HBW := Lib.hid (below_up B0.out P2.out)
      have HRr := Lib.hid (HR.out.below P2.out)
      clear HC VA VB
      generalize w2 = wr at *
      have hi := HI.out
      obtain ⟨f1, f2, f3, f4, pd, pc, _, _⟩ := hi
      obtain ⟨q1, q2⟩ := div_texts f1 f2 (by omega)
      have q3 := rem_text f1 f2 (by omega)
      obtain ⟨r1, r2⟩ := div_texts f3 f4 (by omega)
      have r3 := rem_text f3 f4 (by omega)
      have ca := fun W (h : Ready W) => div_i (textI n0) (textI d0) (le_of_fits f1) (le_of_fits f2) W h
      have cb := fun W (h : Ready W) => div_i (textI m0) (textI c0) (le_of_fits f3) (le_of_fits f4) W h
      have cc := fun W (h : Ready W) => cmp_i (textI (n0 / d0)) (textI (m0 / c0)) (le_of_fits (quot_fit f1)) (le_of_fits (quot_fit f3)) W h
      rw [q1, q2, q3] at ca
      rw [r1, r2, r3] at cb
      rw [cmp_texts (quot_fit f1) (quot_fit f3)] at cc
      have hn0 := text_is0 (n0 % d0)
      have ht0 := text_is0 (m0 % c0)
      have hw := cmp_whole' HI.out
      have he := cmp_end' HI.out
      have hx := cmp_next' HI.out
      have ck := fun W (h : Ready W) => cmp_i (textI (n0 % d0)) (textI (m0 % c0)) (le_of_fits (rem_fits f2 pd)) (le_of_fits (rem_fits f4 pc)) W h
      rw [cmp_texts (rem_fits f2 pd) (rem_fits f4 pc)] at ck
      have HF := Lib.hid (show Fits d0 ∧ Fits c0 ∧ Fits (n0 % d0) ∧ Fits (m0 % c0) from ⟨f2, f4, rem_fits f2 pd, rem_fits f4 pc⟩)
      clear q1 q2 q3 r1 r2 r3 f1 f2 f3 f4 pd pc HI
      generalize n0 / d0 = Q1 at *
      generalize m0 / c0 = Q2 at *
      have CA := Lib.hid ca; have CB := Lib.hid cb; have CC := Lib.hid cc; have CK := Lib.hid ck; have HX := Lib.hid hx
      clear ca cb cc ck hx
      rcases sgZ_cases Q1 Q2 with ⟨hz, hl⟩ | ⟨hz, hl⟩ | ⟨hz, hl⟩
      · have hr := hw (by omega)
        rw [hz] at hr CC
        have HRR := Lib.hid hr
        clear hr hw he hz hl hn0 ht0
        obtain ⟨xa0, xb0, xc0, xd0⟩ := HA.out
        obtain ⟨ya0, yb0, yc0, yd0⟩ := HB.out
        go_wp2_with fail
        refine (CA.out _ (HRr.out.below (Below.refl _ _))).mono ?_
        rintro e wc1 ⟨rfl, bc1⟩
        have BB1 := Lib.hid (below_up (Below.refl _ _) bc1)
        clear bc1 xa0 xb0 xc0 xd0 ya0 yb0 yc0 yd0
        obtain ⟨xa1, xb1, xc1, xd1⟩ := RatAt.below HA.out BB1.out
        obtain ⟨ya1, yb1, yc1, yd1⟩ := RatAt.below HB.out BB1.out
        go_wp2_with fail
        refine (CB.out _ (HRr.out.below (BB1.out))).mono ?_
        rintro e wc2 ⟨rfl, bc2⟩
        have BB2 := Lib.hid (below_up (BB1.out) bc2)
        clear bc2 xa1 xb1 xc1 xd1 ya1 yb1 yc1 yd1
        obtain ⟨xa2, xb2, xc2, xd2⟩ := RatAt.below HA.out BB2.out
        obtain ⟨ya2, yb2, yc2, yd2⟩ := RatAt.below HB.out BB2.out
        go_wp2_with fail
        refine (CC.out _ (HRr.out.below (BB2.out))).mono ?_
        rintro e wc3 ⟨rfl, bc3⟩
        have BB3 := Lib.hid (below_up (BB2.out) bc3)
        clear bc3 xa2 xb2 xc2 xd2 ya2 yb2 yc2 yd2
        obtain ⟨xa3, xb3, xc3, xd3⟩ := RatAt.below HA.out BB3.out
        obtain ⟨ya3, yb3, yc3, yd3⟩ := RatAt.below HB.out BB3.out
        go_wp2_with fail
        simp only [Exit.jump]
        go_ret
        exact ⟨congrArg (fun r => Ending.returned (Value.int .i64 r)) HRR.out, below_up HBW.out BB3.out⟩
      · rw [hz] at CC
        replace he := he hl
        have HX2 := Lib.hid (HX.out hl)
        clear hw hz HX
        subst hl
        by_cases hr0 : n0 % d0 = 0
        · rw [decide_eq_true hr0] at hn0
          replace he := he (.inl hr0)
          clear hr0 ht0
          rcases sgZ_cases (n0 % d0) (m0 % c0) with ⟨hk, hkl⟩ | ⟨hk, hkl⟩ | ⟨hk, hkl⟩
          · rw [hk] at CK he
            have HRR := Lib.hid he
            clear he hk hkl HX2
            obtain ⟨xa0, xb0, xc0, xd0⟩ := HA.out
            obtain ⟨ya0, yb0, yc0, yd0⟩ := HB.out
            go_wp2_with fail
            refine (CA.out _ (HRr.out.below (Below.refl _ _))).mono ?_
            rintro e wc1 ⟨rfl, bc1⟩
            have BB1 := Lib.hid (below_up (Below.refl _ _) bc1)
            clear bc1 xa0 xb0 xc0 xd0 ya0 yb0 yc0 yd0
            obtain ⟨xa1, xb1, xc1, xd1⟩ := RatAt.below HA.out BB1.out
            obtain ⟨ya1, yb1, yc1, yd1⟩ := RatAt.below HB.out BB1.out
            go_wp2_with fail
            refine (CB.out _ (HRr.out.below (BB1.out))).mono ?_
            rintro e wc2 ⟨rfl, bc2⟩
            have BB2 := Lib.hid (below_up (BB1.out) bc2)
            clear bc2 xa1 xb1 xc1 xd1 ya1 yb1 yc1 yd1
            obtain ⟨xa2, xb2, xc2, xd2⟩ := RatAt.below HA.out BB2.out
            obtain ⟨ya2, yb2, yc2, yd2⟩ := RatAt.below HB.out BB2.out
            go_wp2_with fail
            refine (CC.out _ (HRr.out.below (BB2.out))).mono ?_
            rintro e wc3 ⟨rfl, bc3⟩
            have BB3 := Lib.hid (below_up (BB2.out) bc3)
            clear bc3 xa2 xb2 xc2 xd2 ya2 yb2 yc2 yd2
            obtain ⟨xa3, xb3, xc3, xd3⟩ := RatAt.below HA.out BB3.out
            obtain ⟨ya3, yb3, yc3, yd3⟩ := RatAt.below HB.out BB3.out
            go_wp2_with fail
            refine (CK.out _ (HRr.out.below (BB3.out))).mono ?_
            rintro e wc4 ⟨rfl, bc4⟩
            have BB4 := Lib.hid (below_up (BB3.out) bc4)
            clear bc4 xa3 xb3 xc3 xd3 ya3 yb3 yc3 yd3
            obtain ⟨xa4, xb4, xc4, xd4⟩ := RatAt.below HA.out BB4.out
            obtain ⟨ya4, yb4, yc4, yd4⟩ := RatAt.below HB.out BB4.out
            go_wp2_with fail
            simp only [Exit.jump]
            go_ret
            exact ⟨congrArg (fun r => Ending.returned (Value.int .i64 r)) HRR.out, below_up HBW.out BB4.out⟩
          · rw [hk] at CK he
            have HRR := Lib.hid he
            clear he hk hkl HX2
            obtain ⟨xa0, xb0, xc0, xd0⟩ := HA.out
            obtain ⟨ya0, yb0, yc0, yd0⟩ := HB.out
            go_wp2_with fail
            refine (CA.out _ (HRr.out.below (Below.refl _ _))).mono ?_
            rintro e wc1 ⟨rfl, bc1⟩
            have BB1 := Lib.hid (below_up (Below.refl _ _) bc1)
            clear bc1 xa0 xb0 xc0 xd0 ya0 yb0 yc0 yd0
            obtain ⟨xa1, xb1, xc1, xd1⟩ := RatAt.below HA.out BB1.out
            obtain ⟨ya1, yb1, yc1, yd1⟩ := RatAt.below HB.out BB1.out
            go_wp2_with fail
            refine (CB.out _ (HRr.out.below (BB1.out))).mono ?_
            rintro e wc2 ⟨rfl, bc2⟩
            have BB2 := Lib.hid (below_up (BB1.out) bc2)
            clear bc2 xa1 xb1 xc1 xd1 ya1 yb1 yc1 yd1
            obtain ⟨xa2, xb2, xc2, xd2⟩ := RatAt.below HA.out BB2.out
            obtain ⟨ya2, yb2, yc2, yd2⟩ := RatAt.below HB.out BB2.out
            go_wp2_with fail
            refine (CC.out _ (HRr.out.below (BB2.out))).mono ?_
            rintro e wc3 ⟨rfl, bc3⟩
            have BB3 := Lib.hid (below_up (BB2.out) bc3)
            clear bc3 xa2 xb2 xc2 xd2 ya2 yb2 yc2 yd2
            obtain ⟨xa3, xb3, xc3, xd3⟩ := RatAt.below HA.out BB3.out
            obtain ⟨ya3, yb3, yc3, yd3⟩ := RatAt.below HB.out BB3.out
            go_wp2_with fail
            refine (CK.out _ (HRr.out.below (BB3.out))).mono ?_
            rintro e wc4 ⟨rfl, bc4⟩
            have BB4 := Lib.hid (below_up (BB3.out) bc4)
            clear bc4 xa3 xb3 xc3 xd3 ya3 yb3 yc3 yd3
            obtain ⟨xa4, xb4, xc4, xd4⟩ := RatAt.below HA.out BB4.out
            obtain ⟨ya4, yb4, yc4, yd4⟩ := RatAt.below HB.out BB4.out
            go_wp2_with fail
            simp only [Exit.jump]
            go_ret
            exact ⟨congrArg (fun r => Ending.returned (Value.int .i64 r)) HRR.out, below_up HBW.out BB4.out⟩
          · rw [hk] at CK he
            have HRR := Lib.hid he
            clear he hk hkl HX2
            obtain ⟨xa0, xb0, xc0, xd0⟩ := HA.out
            obtain ⟨ya0, yb0, yc0, yd0⟩ := HB.out
            go_wp2_with fail
            refine (CA.out _ (HRr.out.below (Below.refl _ _))).mono ?_
            rintro e wc1 ⟨rfl, bc1⟩
            have BB1 := Lib.hid (below_up (Below.refl _ _) bc1)
            clear bc1 xa0 xb0 xc0 xd0 ya0 yb0 yc0 yd0
            obtain ⟨xa1, xb1, xc1, xd1⟩ := RatAt.below HA.out BB1.out
            obtain ⟨ya1, yb1, yc1, yd1⟩ := RatAt.below HB.out BB1.out
            go_wp2_with fail
            refine (CB.out _ (HRr.out.below (BB1.out))).mono ?_
            rintro e wc2 ⟨rfl, bc2⟩
            have BB2 := Lib.hid (below_up (BB1.out) bc2)
            clear bc2 xa1 xb1 xc1 xd1 ya1 yb1 yc1 yd1
            obtain ⟨xa2, xb2, xc2, xd2⟩ := RatAt.below HA.out BB2.out
            obtain ⟨ya2, yb2, yc2, yd2⟩ := RatAt.below HB.out BB2.out
            go_wp2_with fail
            refine (CC.out _ (HRr.out.below (BB2.out))).mono ?_
            rintro e wc3 ⟨rfl, bc3⟩
            have BB3 := Lib.hid (below_up (BB2.out) bc3)
            clear bc3 xa2 xb2 xc2 xd2 ya2 yb2 yc2 yd2
            obtain ⟨xa3, xb3, xc3, xd3⟩ := RatAt.below HA.out BB3.out
            obtain ⟨ya3, yb3, yc3, yd3⟩ := RatAt.below HB.out BB3.out
            go_wp2_with fail
            refine (CK.out _ (HRr.out.below (BB3.out))).mono ?_
            rintro e wc4 ⟨rfl, bc4⟩
            have BB4 := Lib.hid (below_up (BB3.out) bc4)
            clear bc4 xa3 xb3 xc3 xd3 ya3 yb3 yc3 yd3
            obtain ⟨xa4, xb4, xc4, xd4⟩ := RatAt.below HA.out BB4.out
            obtain ⟨ya4, yb4, yc4, yd4⟩ := RatAt.below HB.out BB4.out
            go_wp2_with fail
            simp only [Exit.jump]
            go_ret
            exact ⟨congrArg (fun r => Ending.returned (Value.int .i64 r)) HRR.out, below_up HBW.out BB4.out⟩
        · rw [decide_eq_false hr0] at hn0
          by_cases ht1 : m0 % c0 = 0
          · rw [decide_eq_true ht1] at ht0
            replace he := he (.inr ht1)
            clear hr0 ht1
            rcases sgZ_cases (n0 % d0) (m0 % c0) with ⟨hk, hkl⟩ | ⟨hk, hkl⟩ | ⟨hk, hkl⟩
            · rw [hk] at CK he
              have HRR := Lib.hid he
              clear he hk hkl HX2
              obtain ⟨xa0, xb0, xc0, xd0⟩ := HA.out
              obtain ⟨ya0, yb0, yc0, yd0⟩ := HB.out
              go_wp2_with fail
              refine (CA.out _ (HRr.out.below (Below.refl _ _))).mono ?_
              rintro e wc1 ⟨rfl, bc1⟩
              have BB1 := Lib.hid (below_up (Below.refl _ _) bc1)
              clear bc1 xa0 xb0 xc0 xd0 ya0 yb0 yc0 yd0
              obtain ⟨xa1, xb1, xc1, xd1⟩ := RatAt.below HA.out BB1.out
              obtain ⟨ya1, yb1, yc1, yd1⟩ := RatAt.below HB.out BB1.out
              go_wp2_with fail
              refine (CB.out _ (HRr.out.below (BB1.out))).mono ?_
              rintro e wc2 ⟨rfl, bc2⟩
              have BB2 := Lib.hid (below_up (BB1.out) bc2)
              clear bc2 xa1 xb1 xc1 xd1 ya1 yb1 yc1 yd1
              obtain ⟨xa2, xb2, xc2, xd2⟩ := RatAt.below HA.out BB2.out
              obtain ⟨ya2, yb2, yc2, yd2⟩ := RatAt.below HB.out BB2.out
              go_wp2_with fail
              refine (CC.out _ (HRr.out.below (BB2.out))).mono ?_
              rintro e wc3 ⟨rfl, bc3⟩
              have BB3 := Lib.hid (below_up (BB2.out) bc3)
              clear bc3 xa2 xb2 xc2 xd2 ya2 yb2 yc2 yd2
              obtain ⟨xa3, xb3, xc3, xd3⟩ := RatAt.below HA.out BB3.out
              obtain ⟨ya3, yb3, yc3, yd3⟩ := RatAt.below HB.out BB3.out
              go_wp2_with fail
              refine (CK.out _ (HRr.out.below (BB3.out))).mono ?_
              rintro e wc4 ⟨rfl, bc4⟩
              have BB4 := Lib.hid (below_up (BB3.out) bc4)
              clear bc4 xa3 xb3 xc3 xd3 ya3 yb3 yc3 yd3
              obtain ⟨xa4, xb4, xc4, xd4⟩ := RatAt.below HA.out BB4.out
              obtain ⟨ya4, yb4, yc4, yd4⟩ := RatAt.below HB.out BB4.out
              go_wp2_with fail
              simp only [Exit.jump]
              go_ret
              exact ⟨congrArg (fun r => Ending.returned (Value.int .i64 r)) HRR.out, below_up HBW.out BB4.out⟩
            · rw [hk] at CK he
              have HRR := Lib.hid he
              clear he hk hkl HX2
              obtain ⟨xa0, xb0, xc0, xd0⟩ := HA.out
              obtain ⟨ya0, yb0, yc0, yd0⟩ := HB.out
              go_wp2_with fail
              refine (CA.out _ (HRr.out.below (Below.refl _ _))).mono ?_
              rintro e wc1 ⟨rfl, bc1⟩
              have BB1 := Lib.hid (below_up (Below.refl _ _) bc1)
              clear bc1 xa0 xb0 xc0 xd0 ya0 yb0 yc0 yd0
              obtain ⟨xa1, xb1, xc1, xd1⟩ := RatAt.below HA.out BB1.out
              obtain ⟨ya1, yb1, yc1, yd1⟩ := RatAt.below HB.out BB1.out
              go_wp2_with fail
              refine (CB.out _ (HRr.out.below (BB1.out))).mono ?_
              rintro e wc2 ⟨rfl, bc2⟩
              have BB2 := Lib.hid (below_up (BB1.out) bc2)
              clear bc2 xa1 xb1 xc1 xd1 ya1 yb1 yc1 yd1
              obtain ⟨xa2, xb2, xc2, xd2⟩ := RatAt.below HA.out BB2.out
              obtain ⟨ya2, yb2, yc2, yd2⟩ := RatAt.below HB.out BB2.out
              go_wp2_with fail
              refine (CC.out _ (HRr.out.below (BB2.out))).mono ?_
              rintro e wc3 ⟨rfl, bc3⟩
              have BB3 := Lib.hid (below_up (BB2.out) bc3)
              clear bc3 xa2 xb2 xc2 xd2 ya2 yb2 yc2 yd2
              obtain ⟨xa3, xb3, xc3, xd3⟩ := RatAt.below HA.out BB3.out
              obtain ⟨ya3, yb3, yc3, yd3⟩ := RatAt.below HB.out BB3.out
              go_wp2_with fail
              refine (CK.out _ (HRr.out.below (BB3.out))).mono ?_
              rintro e wc4 ⟨rfl, bc4⟩
              have BB4 := Lib.hid (below_up (BB3.out) bc4)
              clear bc4 xa3 xb3 xc3 xd3 ya3 yb3 yc3 yd3
              obtain ⟨xa4, xb4, xc4, xd4⟩ := RatAt.below HA.out BB4.out
              obtain ⟨ya4, yb4, yc4, yd4⟩ := RatAt.below HB.out BB4.out
              go_wp2_with fail
              simp only [Exit.jump]
              go_ret
              exact ⟨congrArg (fun r => Ending.returned (Value.int .i64 r)) HRR.out, below_up HBW.out BB4.out⟩
            · rw [hk] at CK he
              have HRR := Lib.hid he
              clear he hk hkl HX2
              obtain ⟨xa0, xb0, xc0, xd0⟩ := HA.out
              obtain ⟨ya0, yb0, yc0, yd0⟩ := HB.out
              go_wp2_with fail
              refine (CA.out _ (HRr.out.below (Below.refl _ _))).mono ?_
              rintro e wc1 ⟨rfl, bc1⟩
              have BB1 := Lib.hid (below_up (Below.refl _ _) bc1)
              clear bc1 xa0 xb0 xc0 xd0 ya0 yb0 yc0 yd0
              obtain ⟨xa1, xb1, xc1, xd1⟩ := RatAt.below HA.out BB1.out
              obtain ⟨ya1, yb1, yc1, yd1⟩ := RatAt.below HB.out BB1.out
              go_wp2_with fail
              refine (CB.out _ (HRr.out.below (BB1.out))).mono ?_
              rintro e wc2 ⟨rfl, bc2⟩
              have BB2 := Lib.hid (below_up (BB1.out) bc2)
              clear bc2 xa1 xb1 xc1 xd1 ya1 yb1 yc1 yd1
              obtain ⟨xa2, xb2, xc2, xd2⟩ := RatAt.below HA.out BB2.out
              obtain ⟨ya2, yb2, yc2, yd2⟩ := RatAt.below HB.out BB2.out
              go_wp2_with fail
              refine (CC.out _ (HRr.out.below (BB2.out))).mono ?_
              rintro e wc3 ⟨rfl, bc3⟩
              have BB3 := Lib.hid (below_up (BB2.out) bc3)
              clear bc3 xa2 xb2 xc2 xd2 ya2 yb2 yc2 yd2
              obtain ⟨xa3, xb3, xc3, xd3⟩ := RatAt.below HA.out BB3.out
              obtain ⟨ya3, yb3, yc3, yd3⟩ := RatAt.below HB.out BB3.out
              go_wp2_with fail
              refine (CK.out _ (HRr.out.below (BB3.out))).mono ?_
              rintro e wc4 ⟨rfl, bc4⟩
              have BB4 := Lib.hid (below_up (BB3.out) bc4)
              clear bc4 xa3 xb3 xc3 xd3 ya3 yb3 yc3 yd3
              obtain ⟨xa4, xb4, xc4, xd4⟩ := RatAt.below HA.out BB4.out
              obtain ⟨ya4, yb4, yc4, yd4⟩ := RatAt.below HB.out BB4.out
              go_wp2_with fail
              simp only [Exit.jump]
              go_ret
              exact ⟨congrArg (fun r => Ending.returned (Value.int .i64 r)) HRR.out, below_up HBW.out BB4.out⟩
          · rw [decide_eq_false ht1] at ht0
            have hx := HX2.out hr0 ht1
            have HXX := Lib.hid hx
            clear he hr0 ht1 HX2 hx CK
            obtain ⟨xa0, xb0, xc0, xd0⟩ := HA.out
            obtain ⟨ya0, yb0, yc0, yd0⟩ := HB.out
            go_wp2_with fail
            refine (CA.out _ (HRr.out.below (Below.refl _ _))).mono ?_
            rintro e wc1 ⟨rfl, bc1⟩
            have BB1 := Lib.hid (below_up (Below.refl _ _) bc1)
            clear bc1 xa0 xb0 xc0 xd0 ya0 yb0 yc0 yd0
            obtain ⟨xa1, xb1, xc1, xd1⟩ := RatAt.below HA.out BB1.out
            obtain ⟨ya1, yb1, yc1, yd1⟩ := RatAt.below HB.out BB1.out
            go_wp2_with fail
            refine (CB.out _ (HRr.out.below (BB1.out))).mono ?_
            rintro e wc2 ⟨rfl, bc2⟩
            have BB2 := Lib.hid (below_up (BB1.out) bc2)
            clear bc2 xa1 xb1 xc1 xd1 ya1 yb1 yc1 yd1
            obtain ⟨xa2, xb2, xc2, xd2⟩ := RatAt.below HA.out BB2.out
            obtain ⟨ya2, yb2, yc2, yd2⟩ := RatAt.below HB.out BB2.out
            go_wp2_with fail
            refine (CC.out _ (HRr.out.below (BB2.out))).mono ?_
            rintro e wc3 ⟨rfl, bc3⟩
            have BB3 := Lib.hid (below_up (BB2.out) bc3)
            clear bc3 xa2 xb2 xc2 xd2 ya2 yb2 yc2 yd2
            obtain ⟨xa3, xb3, xc3, xd3⟩ := RatAt.below HA.out BB3.out
            obtain ⟨ya3, yb3, yc3, yd3⟩ := RatAt.below HB.out BB3.out
            go_wp2_with fail
            go_step3
            have hst := two_stores (x := textI c0) (y := textI (m0 % c0)) (z := textI d0) (u := textI (n0 % d0)) (by omega) (RatAt.below HA.out BB3.out) (RatAt.below HB.out BB3.out)
            exact ⟨rfl, ⟨c0, m0 % c0, d0, n0 % d0, ⟨_, _, _, _, _, _, _, _, _, _, _, _, _, _, _, _, _, _, _, _, _, _, _, _, _, _, _, _, _, _, _, _, _, _, _, _, _, _, _, _, _, _, _, _, _, _, _, _, _, _, _, _, _, _, _, _, rfl⟩, HXX.out.1, hst.1, hst.2, ((((below_up HBW.out BB3.out).setCell (p := ⟨w.heap.size, 0, none⟩) (Nat.le_refl _) _).setCell (p := ⟨w.heap.size, 1, none⟩) (Nat.le_refl _) _).setCell (p := ⟨w.heap.size + 1, 0, none⟩) (Nat.le_succ _) _).setCell (p := ⟨w.heap.size + 1, 1, none⟩) (Nat.le_succ _) _⟩⟩
      · have hr := hw (by omega)
        rw [hz] at hr CC
        have HRR := Lib.hid hr
        clear hr hw he hz hl hn0 ht0
        obtain ⟨xa0, xb0, xc0, xd0⟩ := HA.out
        obtain ⟨ya0, yb0, yc0, yd0⟩ := HB.out
        go_wp2_with fail
        refine (CA.out _ (HRr.out.below (Below.refl _ _))).mono ?_
        rintro e wc1 ⟨rfl, bc1⟩
        have BB1 := Lib.hid (below_up (Below.refl _ _) bc1)
        clear bc1 xa0 xb0 xc0 xd0 ya0 yb0 yc0 yd0
        obtain ⟨xa1, xb1, xc1, xd1⟩ := RatAt.below HA.out BB1.out
        obtain ⟨ya1, yb1, yc1, yd1⟩ := RatAt.below HB.out BB1.out
        go_wp2_with fail
        refine (CB.out _ (HRr.out.below (BB1.out))).mono ?_
        rintro e wc2 ⟨rfl, bc2⟩
        have BB2 := Lib.hid (below_up (BB1.out) bc2)
        clear bc2 xa1 xb1 xc1 xd1 ya1 yb1 yc1 yd1
        obtain ⟨xa2, xb2, xc2, xd2⟩ := RatAt.below HA.out BB2.out
        obtain ⟨ya2, yb2, yc2, yd2⟩ := RatAt.below HB.out BB2.out
        go_wp2_with fail
        refine (CC.out _ (HRr.out.below (BB2.out))).mono ?_
        rintro e wc3 ⟨rfl, bc3⟩
        have BB3 := Lib.hid (below_up (BB2.out) bc3)
        clear bc3 xa2 xb2 xc2 xd2 ya2 yb2 yc2 yd2
        obtain ⟨xa3, xb3, xc3, xd3⟩ := RatAt.below HA.out BB3.out
        obtain ⟨ya3, yb3, yc3, yd3⟩ := RatAt.below HB.out BB3.out
        go_wp2_with fail
        simp only [Exit.jump]
        go_ret
        exact ⟨congrArg (fun r => Ending.returned (Value.int .i64 r)) HRR.out, below_up HBW.out BB3.out⟩
    · rintro a' wr ⟨n, d, m, c, ⟨u5, u6, u7, u8, u9, u10, u11, u12, u13, u14, u15, u16, u17, u18, u19, u20, u21, u22, u23, u24, u25, u26, u27, u28, u29, u30, u31, u32, u33, u34, u35, u36, u37, u38, u39, u40, u41, u42, u43, u44, u45, u46, u47, u48, u49, u50, u51, u52, u53, u54, u55, u56, u57, u58, u59, u60, rfl⟩, hinv, hA, hB, hbw⟩
      have HI := Lib.hid hinv; have HA := Lib.hid hA; have HB := Lib.hid hB; have HBW := Lib.hid hbw
      have HRr := Lib.hid (HRw.out.below hbw)
      clear hinv hA hB hbw HC VA VB
      have hi := HI.out
      obtain ⟨f1, f2, f3, f4, pd, pc, _, _⟩ := hi
      obtain ⟨q1, q2⟩ := div_texts f1 f2 (by omega)
      have q3 := rem_text f1 f2 (by omega)
      obtain ⟨r1, r2⟩ := div_texts f3 f4 (by omega)
      have r3 := rem_text f3 f4 (by omega)
      have ca := fun W (h : Ready W) => div_i (textI n) (textI d) (le_of_fits f1) (le_of_fits f2) W h
      have cb := fun W (h : Ready W) => div_i (textI m) (textI c) (le_of_fits f3) (le_of_fits f4) W h
      have cc := fun W (h : Ready W) => cmp_i (textI (n / d)) (textI (m / c)) (le_of_fits (quot_fit f1)) (le_of_fits (quot_fit f3)) W h
      rw [q1, q2, q3] at ca
      rw [r1, r2, r3] at cb
      rw [cmp_texts (quot_fit f1) (quot_fit f3)] at cc
      have hn0 := text_is0 (n % d)
      have ht0 := text_is0 (m % c)
      have hw := cmp_whole' HI.out
      have he := cmp_end' HI.out
      have hx := cmp_next' HI.out
      have ck := fun W (h : Ready W) => cmp_i (textI (n % d)) (textI (m % c)) (le_of_fits (rem_fits f2 pd)) (le_of_fits (rem_fits f4 pc)) W h
      rw [cmp_texts (rem_fits f2 pd) (rem_fits f4 pc)] at ck
      have HF := Lib.hid (show Fits d ∧ Fits c ∧ Fits (n % d) ∧ Fits (m % c) from ⟨f2, f4, rem_fits f2 pd, rem_fits f4 pc⟩)
      clear q1 q2 q3 r1 r2 r3 f1 f2 f3 f4 pd pc HI
      generalize n / d = Q1 at *
      generalize m / c = Q2 at *
      have CA := Lib.hid ca; have CB := Lib.hid cb; have CC := Lib.hid cc; have CK := Lib.hid ck; have HX := Lib.hid hx
      clear ca cb cc ck hx
      rcases sgZ_cases Q1 Q2 with ⟨hz, hl⟩ | ⟨hz, hl⟩ | ⟨hz, hl⟩
      · have hr := hw (by omega)
        rw [hz] at hr CC
        have HRR := Lib.hid hr
        clear hr hw he hz hl hn0 ht0
        obtain ⟨xa0, xb0, xc0, xd0⟩ := HA.out
        obtain ⟨ya0, yb0, yc0, yd0⟩ := HB.out
        go_wp2_with fail
        refine (CA.out _ (HRr.out.below (Below.refl _ _))).mono ?_
        rintro e wc1 ⟨rfl, bc1⟩
        have BB1 := Lib.hid (below_up (Below.refl _ _) bc1)
        clear bc1 xa0 xb0 xc0 xd0 ya0 yb0 yc0 yd0
        obtain ⟨xa1, xb1, xc1, xd1⟩ := RatAt.below HA.out BB1.out
        obtain ⟨ya1, yb1, yc1, yd1⟩ := RatAt.below HB.out BB1.out
        go_wp2_with fail
        refine (CB.out _ (HRr.out.below (BB1.out))).mono ?_
        rintro e wc2 ⟨rfl, bc2⟩
        have BB2 := Lib.hid (below_up (BB1.out) bc2)
        clear bc2 xa1 xb1 xc1 xd1 ya1 yb1 yc1 yd1
        obtain ⟨xa2, xb2, xc2, xd2⟩ := RatAt.below HA.out BB2.out
        obtain ⟨ya2, yb2, yc2, yd2⟩ := RatAt.below HB.out BB2.out
        go_wp2_with fail
        refine (CC.out _ (HRr.out.below (BB2.out))).mono ?_
        rintro e wc3 ⟨rfl, bc3⟩
        have BB3 := Lib.hid (below_up (BB2.out) bc3)
        clear bc3 xa2 xb2 xc2 xd2 ya2 yb2 yc2 yd2
        obtain ⟨xa3, xb3, xc3, xd3⟩ := RatAt.below HA.out BB3.out
        obtain ⟨ya3, yb3, yc3, yd3⟩ := RatAt.below HB.out BB3.out
        go_wp2_with fail
        simp only [Exit.jump]
        go_ret
        exact ⟨congrArg (fun r => Ending.returned (Value.int .i64 r)) HRR.out, below_up HBW.out BB3.out⟩
      · rw [hz] at CC
        replace he := he hl
        have HX2 := Lib.hid (HX.out hl)
        clear hw hz HX
        subst hl
        by_cases hr0 : n % d = 0
        · rw [decide_eq_true hr0] at hn0
          replace he := he (.inl hr0)
          clear hr0 ht0
          rcases sgZ_cases (n % d) (m % c) with ⟨hk, hkl⟩ | ⟨hk, hkl⟩ | ⟨hk, hkl⟩
          · rw [hk] at CK he
            have HRR := Lib.hid he
            clear he hk hkl HX2
            obtain ⟨xa0, xb0, xc0, xd0⟩ := HA.out
            obtain ⟨ya0, yb0, yc0, yd0⟩ := HB.out
            go_wp2_with fail
            refine (CA.out _ (HRr.out.below (Below.refl _ _))).mono ?_
            rintro e wc1 ⟨rfl, bc1⟩
            have BB1 := Lib.hid (below_up (Below.refl _ _) bc1)
            clear bc1 xa0 xb0 xc0 xd0 ya0 yb0 yc0 yd0
            obtain ⟨xa1, xb1, xc1, xd1⟩ := RatAt.below HA.out BB1.out
            obtain ⟨ya1, yb1, yc1, yd1⟩ := RatAt.below HB.out BB1.out
            go_wp2_with fail
            refine (CB.out _ (HRr.out.below (BB1.out))).mono ?_
            rintro e wc2 ⟨rfl, bc2⟩
            have BB2 := Lib.hid (below_up (BB1.out) bc2)
            clear bc2 xa1 xb1 xc1 xd1 ya1 yb1 yc1 yd1
            obtain ⟨xa2, xb2, xc2, xd2⟩ := RatAt.below HA.out BB2.out
            obtain ⟨ya2, yb2, yc2, yd2⟩ := RatAt.below HB.out BB2.out
            go_wp2_with fail
            refine (CC.out _ (HRr.out.below (BB2.out))).mono ?_
            rintro e wc3 ⟨rfl, bc3⟩
            have BB3 := Lib.hid (below_up (BB2.out) bc3)
            clear bc3 xa2 xb2 xc2 xd2 ya2 yb2 yc2 yd2
            obtain ⟨xa3, xb3, xc3, xd3⟩ := RatAt.below HA.out BB3.out
            obtain ⟨ya3, yb3, yc3, yd3⟩ := RatAt.below HB.out BB3.out
            go_wp2_with fail
            refine (CK.out _ (HRr.out.below (BB3.out))).mono ?_
            rintro e wc4 ⟨rfl, bc4⟩
            have BB4 := Lib.hid (below_up (BB3.out) bc4)
            clear bc4 xa3 xb3 xc3 xd3 ya3 yb3 yc3 yd3
            obtain ⟨xa4, xb4, xc4, xd4⟩ := RatAt.below HA.out BB4.out
            obtain ⟨ya4, yb4, yc4, yd4⟩ := RatAt.below HB.out BB4.out
            go_wp2_with fail
            simp only [Exit.jump]
            go_ret
            exact ⟨congrArg (fun r => Ending.returned (Value.int .i64 r)) HRR.out, below_up HBW.out BB4.out⟩
          · rw [hk] at CK he
            have HRR := Lib.hid he
            clear he hk hkl HX2
            obtain ⟨xa0, xb0, xc0, xd0⟩ := HA.out
            obtain ⟨ya0, yb0, yc0, yd0⟩ := HB.out
            go_wp2_with fail
            refine (CA.out _ (HRr.out.below (Below.refl _ _))).mono ?_
            rintro e wc1 ⟨rfl, bc1⟩
            have BB1 := Lib.hid (below_up (Below.refl _ _) bc1)
            clear bc1 xa0 xb0 xc0 xd0 ya0 yb0 yc0 yd0
            obtain ⟨xa1, xb1, xc1, xd1⟩ := RatAt.below HA.out BB1.out
            obtain ⟨ya1, yb1, yc1, yd1⟩ := RatAt.below HB.out BB1.out
            go_wp2_with fail
            refine (CB.out _ (HRr.out.below (BB1.out))).mono ?_
            rintro e wc2 ⟨rfl, bc2⟩
            have BB2 := Lib.hid (below_up (BB1.out) bc2)
            clear bc2 xa1 xb1 xc1 xd1 ya1 yb1 yc1 yd1
            obtain ⟨xa2, xb2, xc2, xd2⟩ := RatAt.below HA.out BB2.out
            obtain ⟨ya2, yb2, yc2, yd2⟩ := RatAt.below HB.out BB2.out
            go_wp2_with fail
            refine (CC.out _ (HRr.out.below (BB2.out))).mono ?_
            rintro e wc3 ⟨rfl, bc3⟩
            have BB3 := Lib.hid (below_up (BB2.out) bc3)
            clear bc3 xa2 xb2 xc2 xd2 ya2 yb2 yc2 yd2
            obtain ⟨xa3, xb3, xc3, xd3⟩ := RatAt.below HA.out BB3.out
            obtain ⟨ya3, yb3, yc3, yd3⟩ := RatAt.below HB.out BB3.out
            go_wp2_with fail
            refine (CK.out _ (HRr.out.below (BB3.out))).mono ?_
            rintro e wc4 ⟨rfl, bc4⟩
            have BB4 := Lib.hid (below_up (BB3.out) bc4)
            clear bc4 xa3 xb3 xc3 xd3 ya3 yb3 yc3 yd3
            obtain ⟨xa4, xb4, xc4, xd4⟩ := RatAt.below HA.out BB4.out
            obtain ⟨ya4, yb4, yc4, yd4⟩ := RatAt.below HB.out BB4.out
            go_wp2_with fail
            simp only [Exit.jump]
            go_ret
            exact ⟨congrArg (fun r => Ending.returned (Value.int .i64 r)) HRR.out, below_up HBW.out BB4.out⟩
          · rw [hk] at CK he
            have HRR := Lib.hid he
            clear he hk hkl HX2
            obtain ⟨xa0, xb0, xc0, xd0⟩ := HA.out
            obtain ⟨ya0, yb0, yc0, yd0⟩ := HB.out
            go_wp2_with fail
            refine (CA.out _ (HRr.out.below (Below.refl _ _))).mono ?_
            rintro e wc1 ⟨rfl, bc1⟩
            have BB1 := Lib.hid (below_up (Below.refl _ _) bc1)
            clear bc1 xa0 xb0 xc0 xd0 ya0 yb0 yc0 yd0
            obtain ⟨xa1, xb1, xc1, xd1⟩ := RatAt.below HA.out BB1.out
            obtain ⟨ya1, yb1, yc1, yd1⟩ := RatAt.below HB.out BB1.out
            go_wp2_with fail
            refine (CB.out _ (HRr.out.below (BB1.out))).mono ?_
            rintro e wc2 ⟨rfl, bc2⟩
            have BB2 := Lib.hid (below_up (BB1.out) bc2)
            clear bc2 xa1 xb1 xc1 xd1 ya1 yb1 yc1 yd1
            obtain ⟨xa2, xb2, xc2, xd2⟩ := RatAt.below HA.out BB2.out
            obtain ⟨ya2, yb2, yc2, yd2⟩ := RatAt.below HB.out BB2.out
            go_wp2_with fail
            refine (CC.out _ (HRr.out.below (BB2.out))).mono ?_
            rintro e wc3 ⟨rfl, bc3⟩
            have BB3 := Lib.hid (below_up (BB2.out) bc3)
            clear bc3 xa2 xb2 xc2 xd2 ya2 yb2 yc2 yd2
            obtain ⟨xa3, xb3, xc3, xd3⟩ := RatAt.below HA.out BB3.out
            obtain ⟨ya3, yb3, yc3, yd3⟩ := RatAt.below HB.out BB3.out
            go_wp2_with fail
            refine (CK.out _ (HRr.out.below (BB3.out))).mono ?_
            rintro e wc4 ⟨rfl, bc4⟩
            have BB4 := Lib.hid (below_up (BB3.out) bc4)
            clear bc4 xa3 xb3 xc3 xd3 ya3 yb3 yc3 yd3
            obtain ⟨xa4, xb4, xc4, xd4⟩ := RatAt.below HA.out BB4.out
            obtain ⟨ya4, yb4, yc4, yd4⟩ := RatAt.below HB.out BB4.out
            go_wp2_with fail
            simp only [Exit.jump]
            go_ret
            exact ⟨congrArg (fun r => Ending.returned (Value.int .i64 r)) HRR.out, below_up HBW.out BB4.out⟩
        · rw [decide_eq_false hr0] at hn0
          by_cases ht1 : m % c = 0
          · rw [decide_eq_true ht1] at ht0
            replace he := he (.inr ht1)
            clear hr0 ht1
            rcases sgZ_cases (n % d) (m % c) with ⟨hk, hkl⟩ | ⟨hk, hkl⟩ | ⟨hk, hkl⟩
            · rw [hk] at CK he
              have HRR := Lib.hid he
              clear he hk hkl HX2
              obtain ⟨xa0, xb0, xc0, xd0⟩ := HA.out
              obtain ⟨ya0, yb0, yc0, yd0⟩ := HB.out
              go_wp2_with fail
              refine (CA.out _ (HRr.out.below (Below.refl _ _))).mono ?_
              rintro e wc1 ⟨rfl, bc1⟩
              have BB1 := Lib.hid (below_up (Below.refl _ _) bc1)
              clear bc1 xa0 xb0 xc0 xd0 ya0 yb0 yc0 yd0
              obtain ⟨xa1, xb1, xc1, xd1⟩ := RatAt.below HA.out BB1.out
              obtain ⟨ya1, yb1, yc1, yd1⟩ := RatAt.below HB.out BB1.out
              go_wp2_with fail
              refine (CB.out _ (HRr.out.below (BB1.out))).mono ?_
              rintro e wc2 ⟨rfl, bc2⟩
              have BB2 := Lib.hid (below_up (BB1.out) bc2)
              clear bc2 xa1 xb1 xc1 xd1 ya1 yb1 yc1 yd1
              obtain ⟨xa2, xb2, xc2, xd2⟩ := RatAt.below HA.out BB2.out
              obtain ⟨ya2, yb2, yc2, yd2⟩ := RatAt.below HB.out BB2.out
              go_wp2_with fail
              refine (CC.out _ (HRr.out.below (BB2.out))).mono ?_
              rintro e wc3 ⟨rfl, bc3⟩
              have BB3 := Lib.hid (below_up (BB2.out) bc3)
              clear bc3 xa2 xb2 xc2 xd2 ya2 yb2 yc2 yd2
              obtain ⟨xa3, xb3, xc3, xd3⟩ := RatAt.below HA.out BB3.out
              obtain ⟨ya3, yb3, yc3, yd3⟩ := RatAt.below HB.out BB3.out
              go_wp2_with fail
              refine (CK.out _ (HRr.out.below (BB3.out))).mono ?_
              rintro e wc4 ⟨rfl, bc4⟩
              have BB4 := Lib.hid (below_up (BB3.out) bc4)
              clear bc4 xa3 xb3 xc3 xd3 ya3 yb3 yc3 yd3
              obtain ⟨xa4, xb4, xc4, xd4⟩ := RatAt.below HA.out BB4.out
              obtain ⟨ya4, yb4, yc4, yd4⟩ := RatAt.below HB.out BB4.out
              go_wp2_with fail
              simp only [Exit.jump]
              go_ret
              exact ⟨congrArg (fun r => Ending.returned (Value.int .i64 r)) HRR.out, below_up HBW.out BB4.out⟩
            · rw [hk] at CK he
              have HRR := Lib.hid he
              clear he hk hkl HX2
              obtain ⟨xa0, xb0, xc0, xd0⟩ := HA.out
              obtain ⟨ya0, yb0, yc0, yd0⟩ := HB.out
              go_wp2_with fail
              refine (CA.out _ (HRr.out.below (Below.refl _ _))).mono ?_
              rintro e wc1 ⟨rfl, bc1⟩
              have BB1 := Lib.hid (below_up (Below.refl _ _) bc1)
              clear bc1 xa0 xb0 xc0 xd0 ya0 yb0 yc0 yd0
              obtain ⟨xa1, xb1, xc1, xd1⟩ := RatAt.below HA.out BB1.out
              obtain ⟨ya1, yb1, yc1, yd1⟩ := RatAt.below HB.out BB1.out
              go_wp2_with fail
              refine (CB.out _ (HRr.out.below (BB1.out))).mono ?_
              rintro e wc2 ⟨rfl, bc2⟩
              have BB2 := Lib.hid (below_up (BB1.out) bc2)
              clear bc2 xa1 xb1 xc1 xd1 ya1 yb1 yc1 yd1
              obtain ⟨xa2, xb2, xc2, xd2⟩ := RatAt.below HA.out BB2.out
              obtain ⟨ya2, yb2, yc2, yd2⟩ := RatAt.below HB.out BB2.out
              go_wp2_with fail
              refine (CC.out _ (HRr.out.below (BB2.out))).mono ?_
              rintro e wc3 ⟨rfl, bc3⟩
              have BB3 := Lib.hid (below_up (BB2.out) bc3)
              clear bc3 xa2 xb2 xc2 xd2 ya2 yb2 yc2 yd2
              obtain ⟨xa3, xb3, xc3, xd3⟩ := RatAt.below HA.out BB3.out
              obtain ⟨ya3, yb3, yc3, yd3⟩ := RatAt.below HB.out BB3.out
              go_wp2_with fail
              refine (CK.out _ (HRr.out.below (BB3.out))).mono ?_
              rintro e wc4 ⟨rfl, bc4⟩
              have BB4 := Lib.hid (below_up (BB3.out) bc4)
              clear bc4 xa3 xb3 xc3 xd3 ya3 yb3 yc3 yd3
              obtain ⟨xa4, xb4, xc4, xd4⟩ := RatAt.below HA.out BB4.out
              obtain ⟨ya4, yb4, yc4, yd4⟩ := RatAt.below HB.out BB4.out
              go_wp2_with fail
              simp only [Exit.jump]
              go_ret
              exact ⟨congrArg (fun r => Ending.returned (Value.int .i64 r)) HRR.out, below_up HBW.out BB4.out⟩
            · rw [hk] at CK he
              have HRR := Lib.hid he
              clear he hk hkl HX2
              obtain ⟨xa0, xb0, xc0, xd0⟩ := HA.out
              obtain ⟨ya0, yb0, yc0, yd0⟩ := HB.out
              go_wp2_with fail
              refine (CA.out _ (HRr.out.below (Below.refl _ _))).mono ?_
              rintro e wc1 ⟨rfl, bc1⟩
              have BB1 := Lib.hid (below_up (Below.refl _ _) bc1)
              clear bc1 xa0 xb0 xc0 xd0 ya0 yb0 yc0 yd0
              obtain ⟨xa1, xb1, xc1, xd1⟩ := RatAt.below HA.out BB1.out
              obtain ⟨ya1, yb1, yc1, yd1⟩ := RatAt.below HB.out BB1.out
              go_wp2_with fail
              refine (CB.out _ (HRr.out.below (BB1.out))).mono ?_
              rintro e wc2 ⟨rfl, bc2⟩
              have BB2 := Lib.hid (below_up (BB1.out) bc2)
              clear bc2 xa1 xb1 xc1 xd1 ya1 yb1 yc1 yd1
              obtain ⟨xa2, xb2, xc2, xd2⟩ := RatAt.below HA.out BB2.out
              obtain ⟨ya2, yb2, yc2, yd2⟩ := RatAt.below HB.out BB2.out
              go_wp2_with fail
              refine (CC.out _ (HRr.out.below (BB2.out))).mono ?_
              rintro e wc3 ⟨rfl, bc3⟩
              have BB3 := Lib.hid (below_up (BB2.out) bc3)
              clear bc3 xa2 xb2 xc2 xd2 ya2 yb2 yc2 yd2
              obtain ⟨xa3, xb3, xc3, xd3⟩ := RatAt.below HA.out BB3.out
              obtain ⟨ya3, yb3, yc3, yd3⟩ := RatAt.below HB.out BB3.out
              go_wp2_with fail
              refine (CK.out _ (HRr.out.below (BB3.out))).mono ?_
              rintro e wc4 ⟨rfl, bc4⟩
              have BB4 := Lib.hid (below_up (BB3.out) bc4)
              clear bc4 xa3 xb3 xc3 xd3 ya3 yb3 yc3 yd3
              obtain ⟨xa4, xb4, xc4, xd4⟩ := RatAt.below HA.out BB4.out
              obtain ⟨ya4, yb4, yc4, yd4⟩ := RatAt.below HB.out BB4.out
              go_wp2_with fail
              simp only [Exit.jump]
              go_ret
              exact ⟨congrArg (fun r => Ending.returned (Value.int .i64 r)) HRR.out, below_up HBW.out BB4.out⟩
          · rw [decide_eq_false ht1] at ht0
            have hx := HX2.out hr0 ht1
            have HXX := Lib.hid hx
            clear he hr0 ht1 HX2 hx CK
            obtain ⟨xa0, xb0, xc0, xd0⟩ := HA.out
            obtain ⟨ya0, yb0, yc0, yd0⟩ := HB.out
            go_wp2_with fail
            refine (CA.out _ (HRr.out.below (Below.refl _ _))).mono ?_
            rintro e wc1 ⟨rfl, bc1⟩
            have BB1 := Lib.hid (below_up (Below.refl _ _) bc1)
            clear bc1 xa0 xb0 xc0 xd0 ya0 yb0 yc0 yd0
            obtain ⟨xa1, xb1, xc1, xd1⟩ := RatAt.below HA.out BB1.out
            obtain ⟨ya1, yb1, yc1, yd1⟩ := RatAt.below HB.out BB1.out
            go_wp2_with fail
            refine (CB.out _ (HRr.out.below (BB1.out))).mono ?_
            rintro e wc2 ⟨rfl, bc2⟩
            have BB2 := Lib.hid (below_up (BB1.out) bc2)
            clear bc2 xa1 xb1 xc1 xd1 ya1 yb1 yc1 yd1
            obtain ⟨xa2, xb2, xc2, xd2⟩ := RatAt.below HA.out BB2.out
            obtain ⟨ya2, yb2, yc2, yd2⟩ := RatAt.below HB.out BB2.out
            go_wp2_with fail
            refine (CC.out _ (HRr.out.below (BB2.out))).mono ?_
            rintro e wc3 ⟨rfl, bc3⟩
            have BB3 := Lib.hid (below_up (BB2.out) bc3)
            clear bc3 xa2 xb2 xc2 xd2 ya2 yb2 yc2 yd2
            obtain ⟨xa3, xb3, xc3, xd3⟩ := RatAt.below HA.out BB3.out
            obtain ⟨ya3, yb3, yc3, yd3⟩ := RatAt.below HB.out BB3.out
            go_wp2_with fail
            go_step3
            have hst := two_stores (x := textI c) (y := textI (m % c)) (z := textI d) (u := textI (n % d)) (by omega) (RatAt.below HA.out BB3.out) (RatAt.below HB.out BB3.out)
            refine ⟨rfl, ⟨c, m % c, d, n % d, ⟨_, _, _, _, _, _, _, _, _, _, _, _, _, _, _, _, _, _, _, _, _, _, _, _, _, _, _, _, _, _, _, _, _, _, _, _, _, _, _, _, _, _, _, _, _, _, _, _, _, _, _, _, _, _, _, _, rfl⟩, HXX.out.1, hst.1, hst.2, ((((below_up HBW.out BB3.out).setCell (p := ⟨w.heap.size, 0, none⟩) (Nat.le_refl _) _).setCell (p := ⟨w.heap.size, 1, none⟩) (Nat.le_refl _) _).setCell (p := ⟨w.heap.size + 1, 0, none⟩) (Nat.le_succ _) _).setCell (p := ⟨w.heap.size + 1, 1, none⟩) (Nat.le_succ _) _⟩, ?_⟩
            show CmpMu w.heap.size _ < CmpMu w.heap.size wr
            rw [cmpMu_at hst.1 hst.2 HF.out.2.2.2 HF.out.2.2.1, cmpMu_at HA.out HB.out HF.out.1 HF.out.2.1]
            exact HXX.out.2
      · have hr := hw (by omega)
        rw [hz] at hr CC
        have HRR := Lib.hid hr
        clear hr hw he hz hl hn0 ht0
        obtain ⟨xa0, xb0, xc0, xd0⟩ := HA.out
        obtain ⟨ya0, yb0, yc0, yd0⟩ := HB.out
        go_wp2_with fail
        refine (CA.out _ (HRr.out.below (Below.refl _ _))).mono ?_
        rintro e wc1 ⟨rfl, bc1⟩
        have BB1 := Lib.hid (below_up (Below.refl _ _) bc1)
        clear bc1 xa0 xb0 xc0 xd0 ya0 yb0 yc0 yd0
        obtain ⟨xa1, xb1, xc1, xd1⟩ := RatAt.below HA.out BB1.out
        obtain ⟨ya1, yb1, yc1, yd1⟩ := RatAt.below HB.out BB1.out
        go_wp2_with fail
        refine (CB.out _ (HRr.out.below (BB1.out))).mono ?_
        rintro e wc2 ⟨rfl, bc2⟩
        have BB2 := Lib.hid (below_up (BB1.out) bc2)
        clear bc2 xa1 xb1 xc1 xd1 ya1 yb1 yc1 yd1
        obtain ⟨xa2, xb2, xc2, xd2⟩ := RatAt.below HA.out BB2.out
        obtain ⟨ya2, yb2, yc2, yd2⟩ := RatAt.below HB.out BB2.out
        go_wp2_with fail
        refine (CC.out _ (HRr.out.below (BB2.out))).mono ?_
        rintro e wc3 ⟨rfl, bc3⟩
        have BB3 := Lib.hid (below_up (BB2.out) bc3)
        clear bc3 xa2 xb2 xc2 xd2 ya2 yb2 yc2 yd2
        obtain ⟨xa3, xb3, xc3, xd3⟩ := RatAt.below HA.out BB3.out
        obtain ⟨ya3, yb3, yc3, yd3⟩ := RatAt.below HB.out BB3.out
        go_wp2_with fail
        simp only [Exit.jump]
        go_ret
        exact ⟨congrArg (fun r => Ending.returned (Value.int .i64 r)) HRR.out, below_up HBW.out BB3.out⟩
end Go.Proofs.YtlcibnmcannapaaGreatDoor
