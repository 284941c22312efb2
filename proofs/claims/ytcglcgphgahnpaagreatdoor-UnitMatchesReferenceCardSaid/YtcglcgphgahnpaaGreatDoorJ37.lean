/-
  The contracts of the reference of layer 5: the four operations and Compare. The contracts of the reference of layer 5: products and quotients, Compare. The contracts of the reference of layer 5: products and quotients, Compare. The contract of the reference of layer 5: Compare. The contracts of the reference of layer 5, over quantities, in the form that the program's have.
-/
import Derived.Test.YtcglcgphgahnpaaGreatDoorJ24
import Derived.Test.YtcglcgphgahnpaaGreatDoorJ31
set_option maxRecDepth 100000
set_option maxHeartbeats 16000000
namespace Go.Proofs.YtcglcgphgahnpaaGreatDoor
open Go Go.Proofs Go.RowKit Go.Lib
theorem three_box (w : World) (n d : ByteArray) (t b m c : Int) (n' d' : ByteArray) (t' b' m' c' : Int) : ∃ W0, ((w.alloc (.cells #[.string n, .string d, .int .i64 t, .int .i64 b, .int .i64 m, .int .i64 c] 27)).alloc (.cells #[.string n', .string d', .int .i64 t', .int .i64 b', .int .i64 m', .int .i64 c'] 27)).alloc (.cells #[.string ⟨#[]⟩, .string ⟨#[]⟩, .int .i64 0, .int .i64 0, .int .i64 0, .int .i64 0] 27) = W0 ∧ Below w.heap.size w W0 ∧
 ∀ W, Below W0.heap.size W0 W → CellsAt W w.heap.size [.string n, .string d, .int .i64 t, .int .i64 b, .int .i64 m, .int .i64 c] ∧ CellsAt W (w.heap.size + 1) [.string n', .string d', .int .i64 t', .int .i64 b', .int .i64 m', .int .i64 c'] ∧ CellsAt W (w.heap.size + 1 + 1) [.string ⟨#[]⟩, .string ⟨#[]⟩, .int .i64 0, .int .i64 0, .int .i64 0, .int .i64 0] := by
 obtain ⟨W1, h1⟩ : ∃ W, w.alloc (.cells #[.string n, .string d, .int .i64 t, .int .i64 b, .int .i64 m, .int .i64 c] 27) = W := ⟨_, rfl⟩
 obtain ⟨W2, h2⟩ : ∃ W, W1.alloc (.cells #[.string n', .string d', .int .i64 t', .int .i64 b', .int .i64 m', .int .i64 c'] 27) = W := ⟨_, rfl⟩
 obtain ⟨W3, h3⟩ : ∃ W, W2.alloc (.cells #[.string ⟨#[]⟩, .string ⟨#[]⟩, .int .i64 0, .int .i64 0, .int .i64 0, .int .i64 0] 27) = W := ⟨_, rfl⟩
 have s1 : W1.heap.size = w.heap.size + 1 := by rw [← h1]; simp
 have s2 : W2.heap.size = w.heap.size + 1 + 1 := by rw [← h2]; simp [s1]
 have b1 : Below w.heap.size w W1 := by rw [← h1]; exact (Below.refl _ _).alloc (Nat.le_refl _) _
 have b2 : Below W1.heap.size W1 W2 := by rw [← h2]; exact (Below.refl _ _).alloc (Nat.le_refl _) _
 have b3 : Below W2.heap.size W2 W3 := by rw [← h3]; exact (Below.refl _ _).alloc (Nat.le_refl _) _
 have k1 : CellsAt W1 w.heap.size [.string n, .string d, .int .i64 t, .int .i64 b, .int .i64 m, .int .i64 c] := by rw [← h1]; exact cellsAt_new rfl
 have k2 : CellsAt W2 (w.heap.size + 1) [.string n', .string d', .int .i64 t', .int .i64 b', .int .i64 m', .int .i64 c'] := by rw [← h2]; exact cellsAt_new s1.symm
 have k3 : CellsAt W3 (w.heap.size + 1 + 1) [.string ⟨#[]⟩, .string ⟨#[]⟩, .int .i64 0, .int .i64 0, .int .i64 0, .int .i64 0] := by rw [← h3]; exact cellsAt_new s2.symm
 exact ⟨W3, by rw [h1, h2, h3], below_up b1 (below_up b2 b3), fun W hb => ⟨((k1.below b2).below b3).below hb, (k2.below b3).below hb, k3.below hb⟩⟩
def sameE (t b m c t' b' m' c' : Int) : Bool := (t == t') && ((b == b') && ((m == m') && (c == c')))
theorem sameE_iff {t b m c t' b' m' c' : Int} : sameE t b m c t' b' m' c' = true ↔ t = t' ∧ b = b' ∧ m = m' ∧ c = c' := by
 unfold sameE
 simp only [Bool.and_eq_true, beq_iff_eq]
theorem addUR_any (n d : ByteArray) (t b m c : Int) (n' d' : ByteArray) (t' b' m' c' : Int) (h1 : n.size ≤ 1099511627776) (h2 : d.size ≤ 1099511627776) (h3 : n'.size ≤ 1099511627776) (h4 : d'.size ≤ 1099511627776) (w : World) :
 Calls Tryz.prog 18 #[.agg #[.string n, .string d, .int .i64 t, .int .i64 b, .int .i64 m, .int .i64 c], .agg #[.string n', .string d', .int .i64 t', .int .i64 b', .int .i64 m', .int .i64 c']] w fun e w' => e = .returned (.tuple #[.agg #[.string (zT ((okU n d t b m c && (okU n' d' t' b' m' c' && sameE t b m c t' b' m' c')) && (decide (outE (addB n d n' d') = 0) && okU (sumN n d n' d') (sumD n d n' d') t b m c)) (sumN n d n' d')), .string (zT ((okU n d t b m c && (okU n' d' t' b' m' c' && sameE t b m c t' b' m' c')) && (decide (outE (addB n d n' d') = 0) && okU (sumN n d n' d') (sumD n d n' d') t b m c)) (sumD n d n' d')), .int .i64 (zI ((okU n d t b m c && (okU n' d' t' b' m' c' && sameE t b m c t' b' m' c')) && (decide (outE (addB n d n' d') = 0) && okU (sumN n d n' d') (sumD n d n' d') t b m c)) t), .int .i64 (zI ((okU n d t b m c && (okU n' d' t' b' m' c' && sameE t b m c t' b' m' c')) && (decide (outE (addB n d n' d') = 0) && okU (sumN n d n' d') (sumD n d n' d') t b m c)) b), .int .i64 (zI ((okU n d t b m c && (okU n' d' t' b' m' c' && sameE t b m c t' b' m' c')) && (decide (outE (addB n d n' d') = 0) && okU (sumN n d n' d') (sumD n d n' d') t b m c)) m), .int .i64 (zI ((okU n d t b m c && (okU n' d' t' b' m' c' && sameE t b m c t' b' m' c')) && (decide (outE (addB n d n' d') = 0) && okU (sumN n d n' d') (sumD n d n' d') t b m c)) c)], .int .i64 (zE ((okU n d t b m c && (okU n' d' t' b' m' c' && sameE t b m c t' b' m' c')) && (decide (outE (addB n d n' d') = 0) && okU (sumN n d n' d') (sumD n d n' d') t b m c)))]) ∧ Below w.heap.size w w' := by
 obtain ⟨W0, hW0, b0, hcc⟩ := three_box w n d t b m c n' d' t' b' m' c'
 have va := fun W => validUR_any n d t b m c h1 h2 W
 have vb := fun W => validUR_any n' d' t' b' m' c' h3 h4 W
 have co := fun W => addR4_any n d n' d' h1 h2 h3 h4 W
 rw [show outN (addB n d n' d') (valQ n d + valQ n' d') = sumN n d n' d' from rfl, show outD (addB n d n' d') (valQ n d + valQ n' d') = sumD n d n' d' from rfl] at co
 have hz := sum_size n d n' d'
 generalize sumN n d n' d' = VN at *
 generalize sumD n d n' d' = VD at *
 generalize outE (addB n d n' d') = VE at *
 have cr := fun W => resultR_any VN VD VE t b m c hz.1 hz.2 W
 generalize hx3 : (decide (VE = 0) && okU VN VD t b m c) = x3 at *
 generalize hx1 : okU n d t b m c = x1 at *
 generalize hx2 : okU n' d' t' b' m' c' = x2 at *
 generalize hx4 : sameE t b m c t' b' m' c' = x4 at *
 obtain ⟨RN, hrn⟩ : ∃ v, zT x3 VN = v := ⟨_, rfl⟩
 obtain ⟨RD, hrd⟩ : ∃ v, zT x3 VD = v := ⟨_, rfl⟩
 obtain ⟨R0, hr0⟩ : ∃ v, zI x3 t = v := ⟨_, rfl⟩
 obtain ⟨R1, hr1⟩ : ∃ v, zI x3 b = v := ⟨_, rfl⟩
 obtain ⟨R2, hr2⟩ : ∃ v, zI x3 m = v := ⟨_, rfl⟩
 obtain ⟨R3, hr3⟩ : ∃ v, zI x3 c = v := ⟨_, rfl⟩
 obtain ⟨RE, hre⟩ : ∃ v, zE x3 = v := ⟨_, rfl⟩
 rw [hrn, hrd, hr0, hr1, hr2, hr3, hre] at cr
 have HW := hid hW0; have B0 := hid b0; have HC := hid hcc; have VA := hid va; have VB := hid vb; have CO := hid co; have CR := hid cr; have HX4 := hid hx4
 clear hW0 b0 hcc va vb co cr hz hx1 hx2 hx3 hx4
 cases x1 with
 | false =>
  clear hrn hrd hr0 hr1 hr2 hr3 hre
  show Calls _ _ _ _ fun e w' => e = .returned (.tuple #[.agg #[.string ⟨#[]⟩, .string ⟨#[]⟩, .int .i64 0, .int .i64 0, .int .i64 0, .int .i64 0], .int .i64 50]) ∧ _
  go_enter Tryz.func18, Tryz.ntmps18
  obtain ⟨⟨p0, p1, p2, p3, p4, p5⟩, ⟨p6, p7, p8, p9, pa, pb⟩⟩ := qty_facts (HC.out W0 (Below.refl _ _)).1
  go_wp2_with (rw [HW.out])
  refine (VA.out _).mono ?_
  rintro e1 z1 ⟨rfl, b1⟩
  have B1 := hid b1
  have P1 := hid (below_up B0.out b1)
  clear b1 p0 p1 p2 p3 p4 p5 p6 p7 p8 p9 pa pb
  obtain ⟨y, hy⟩ : ∃ y, ((((((z1.setCell ⟨w.heap.size + 1 + 1, 0, none⟩ (.string ⟨#[]⟩)).setCell ⟨w.heap.size + 1 + 1, 1, none⟩ (.string ⟨#[]⟩)).setCell ⟨w.heap.size + 1 + 1, 2, none⟩ (.int .i64 0)).setCell ⟨w.heap.size + 1 + 1, 3, none⟩ (.int .i64 0)).setCell ⟨w.heap.size + 1 + 1, 4, none⟩ (.int .i64 0)).setCell ⟨w.heap.size + 1 + 1, 5, none⟩ (.int .i64 0)) = y := ⟨_, rfl⟩
  have KY := hid (show CellsAt y (w.heap.size + 1 + 1) [.string ⟨#[]⟩, .string ⟨#[]⟩, .int .i64 0, .int .i64 0, .int .i64 0, .int .i64 0] by rw [← hy]; exact qty_put (HC.out z1 B1.out).2.2 _ _ _ _ _ _)
  have BY := hid (show Below w.heap.size w y by rw [← hy]; exact qty_below (show w.heap.size ≤ w.heap.size + 1 + 1 by omega) P1.out _ _ _ _ _ _)
  have HY := hid hy
  clear hy
  obtain ⟨⟨k0, k1, k2, k3, k4, k5⟩, ⟨k6, k7, k8, k9, ka, kb⟩⟩ := qty_facts (HC.out z1 B1.out).2.2
  go_wp2_with (rw [HY.out])
  obtain ⟨⟨r0, r1, r2, r3, r4, r5⟩, _⟩ := qty_facts KY.out
  exact bodyPost_ret (v := .tuple #[.agg #[.string ⟨#[]⟩, .string ⟨#[]⟩, .int .i64 0, .int .i64 0, .int .i64 0, .int .i64 0], .int .i64 50]) (by simp [results, Tryz.results18, go_sem, r0, r1, r2, r3, r4, r5]) rfl ⟨rfl, BY.out⟩
 | true =>
  cases x2 with
  | false =>
   clear hrn hrd hr0 hr1 hr2 hr3 hre
   show Calls _ _ _ _ fun e w' => e = .returned (.tuple #[.agg #[.string ⟨#[]⟩, .string ⟨#[]⟩, .int .i64 0, .int .i64 0, .int .i64 0, .int .i64 0], .int .i64 50]) ∧ _
   go_enter Tryz.func18, Tryz.ntmps18
   obtain ⟨⟨p0, p1, p2, p3, p4, p5⟩, ⟨p6, p7, p8, p9, pa, pb⟩⟩ := qty_facts (HC.out W0 (Below.refl _ _)).1
   go_wp2_with (rw [HW.out])
   refine (VA.out _).mono ?_
   rintro e1 z1 ⟨rfl, b1⟩
   have B1 := hid b1
   have P1 := hid (below_up B0.out b1)
   clear b1 p0 p1 p2 p3 p4 p5 p6 p7 p8 p9 pa pb
   obtain ⟨⟨q0, q1, q2, q3, q4, q5⟩, ⟨q6, q7, q8, q9, qa, qb⟩⟩ := qty_facts (HC.out z1 B1.out).2.1
   go_wp2_with fail
   refine (VB.out _).mono ?_
   rintro e1 z2 ⟨rfl, b2⟩
   have B2 := hid (below_up B1.out b2)
   have P2 := hid (below_up B0.out B2.out)
   clear b2 q0 q1 q2 q3 q4 q5 q6 q7 q8 q9 qa qb
   obtain ⟨y, hy⟩ : ∃ y, ((((((z2.setCell ⟨w.heap.size + 1 + 1, 0, none⟩ (.string ⟨#[]⟩)).setCell ⟨w.heap.size + 1 + 1, 1, none⟩ (.string ⟨#[]⟩)).setCell ⟨w.heap.size + 1 + 1, 2, none⟩ (.int .i64 0)).setCell ⟨w.heap.size + 1 + 1, 3, none⟩ (.int .i64 0)).setCell ⟨w.heap.size + 1 + 1, 4, none⟩ (.int .i64 0)).setCell ⟨w.heap.size + 1 + 1, 5, none⟩ (.int .i64 0)) = y := ⟨_, rfl⟩
   have KY := hid (show CellsAt y (w.heap.size + 1 + 1) [.string ⟨#[]⟩, .string ⟨#[]⟩, .int .i64 0, .int .i64 0, .int .i64 0, .int .i64 0] by rw [← hy]; exact qty_put (HC.out z2 B2.out).2.2 _ _ _ _ _ _)
   have BY := hid (show Below w.heap.size w y by rw [← hy]; exact qty_below (show w.heap.size ≤ w.heap.size + 1 + 1 by omega) P2.out _ _ _ _ _ _)
   have HY := hid hy
   clear hy
   obtain ⟨⟨k0, k1, k2, k3, k4, k5⟩, ⟨k6, k7, k8, k9, ka, kb⟩⟩ := qty_facts (HC.out z2 B2.out).2.2
   go_wp2_with (rw [HY.out])
   obtain ⟨⟨r0, r1, r2, r3, r4, r5⟩, _⟩ := qty_facts KY.out
   exact bodyPost_ret (v := .tuple #[.agg #[.string ⟨#[]⟩, .string ⟨#[]⟩, .int .i64 0, .int .i64 0, .int .i64 0, .int .i64 0], .int .i64 50]) (by simp [results, Tryz.results18, go_sem, r0, r1, r2, r3, r4, r5]) rfl ⟨rfl, BY.out⟩
  | true =>
   cases x4 with
   | false =>
    clear hrn hrd hr0 hr1 hr2 hr3 hre
    show Calls _ _ _ _ fun e w' => e = .returned (.tuple #[.agg #[.string ⟨#[]⟩, .string ⟨#[]⟩, .int .i64 0, .int .i64 0, .int .i64 0, .int .i64 0], .int .i64 50]) ∧ _
    have hs := HX4.out
    unfold sameE at hs
    by_cases e1 : t = t'
    · have k1 : (t == t') = true := by rw [beq_iff_eq]; exact e1
      rw [k1, Bool.true_and] at hs
      by_cases e2 : b = b'
      · have k2 : (b == b') = true := by rw [beq_iff_eq]; exact e2
        rw [k2, Bool.true_and] at hs
        by_cases e3 : m = m'
        · have k3 : (m == m') = true := by rw [beq_iff_eq]; exact e3
          rw [k3, Bool.true_and] at hs
          have K1 := hid k1; have K2 := hid k2; have K3 := hid k3; have K4 := hid hs
          clear e1 e2 e3 k1 k2 k3 hs
          go_enter Tryz.func18, Tryz.ntmps18
          obtain ⟨⟨p0, p1, p2, p3, p4, p5⟩, ⟨p6, p7, p8, p9, pa, pb⟩⟩ := qty_facts (HC.out W0 (Below.refl _ _)).1
          go_wp2_with (rw [HW.out])
          refine (VA.out _).mono ?_
          rintro e1 z1 ⟨rfl, b1⟩
          have B1 := hid b1
          have P1 := hid (below_up B0.out b1)
          clear b1 p0 p1 p2 p3 p4 p5 p6 p7 p8 p9 pa pb
          obtain ⟨⟨q0, q1, q2, q3, q4, q5⟩, ⟨q6, q7, q8, q9, qa, qb⟩⟩ := qty_facts (HC.out z1 B1.out).2.1
          go_wp2_with fail
          refine (VB.out _).mono ?_
          rintro e1 z2 ⟨rfl, b2⟩
          have B2 := hid (below_up B1.out b2)
          have P2 := hid (below_up B0.out B2.out)
          clear b2 q0 q1 q2 q3 q4 q5 q6 q7 q8 q9 qa qb
          obtain ⟨⟨p0, p1, p2, p3, p4, p5⟩, ⟨p6, p7, p8, p9, pa, pb⟩⟩ := qty_facts (HC.out z2 B2.out).1
          obtain ⟨⟨q0, q1, q2, q3, q4, q5⟩, ⟨q6, q7, q8, q9, qa, qb⟩⟩ := qty_facts (HC.out z2 B2.out).2.1
          have k1 := K1.out; have k2 := K2.out; have k3 := K3.out; have k4 := K4.out
          obtain ⟨y, hy⟩ : ∃ y, ((((((z2.setCell ⟨w.heap.size + 1 + 1, 0, none⟩ (.string ⟨#[]⟩)).setCell ⟨w.heap.size + 1 + 1, 1, none⟩ (.string ⟨#[]⟩)).setCell ⟨w.heap.size + 1 + 1, 2, none⟩ (.int .i64 0)).setCell ⟨w.heap.size + 1 + 1, 3, none⟩ (.int .i64 0)).setCell ⟨w.heap.size + 1 + 1, 4, none⟩ (.int .i64 0)).setCell ⟨w.heap.size + 1 + 1, 5, none⟩ (.int .i64 0)) = y := ⟨_, rfl⟩
          have KY := hid (show CellsAt y (w.heap.size + 1 + 1) [.string ⟨#[]⟩, .string ⟨#[]⟩, .int .i64 0, .int .i64 0, .int .i64 0, .int .i64 0] by rw [← hy]; exact qty_put (HC.out z2 B2.out).2.2 _ _ _ _ _ _)
          have BY := hid (show Below w.heap.size w y by rw [← hy]; exact qty_below (show w.heap.size ≤ w.heap.size + 1 + 1 by omega) P2.out _ _ _ _ _ _)
          have HY := hid hy
          clear hy
          obtain ⟨⟨k0, k1, k2, k3, k4, k5⟩, ⟨k6, k7, k8, k9, ka, kb⟩⟩ := qty_facts (HC.out z2 B2.out).2.2
          go_wp2_with (rw [HY.out])
          obtain ⟨⟨r0, r1, r2, r3, r4, r5⟩, _⟩ := qty_facts KY.out
          exact bodyPost_ret (v := .tuple #[.agg #[.string ⟨#[]⟩, .string ⟨#[]⟩, .int .i64 0, .int .i64 0, .int .i64 0, .int .i64 0], .int .i64 50]) (by simp [results, Tryz.results18, go_sem, r0, r1, r2, r3, r4, r5]) rfl ⟨rfl, BY.out⟩
        have k3 : (m == m') = false := by rw [beq_eq_false_iff_ne]; exact e3
        have K1 := hid k1; have K2 := hid k2; have K3 := hid k3
        clear e1 e2 e3 k1 k2 k3 hs
        go_enter Tryz.func18, Tryz.ntmps18
        obtain ⟨⟨p0, p1, p2, p3, p4, p5⟩, ⟨p6, p7, p8, p9, pa, pb⟩⟩ := qty_facts (HC.out W0 (Below.refl _ _)).1
        go_wp2_with (rw [HW.out])
        refine (VA.out _).mono ?_
        rintro e1 z1 ⟨rfl, b1⟩
        have B1 := hid b1
        have P1 := hid (below_up B0.out b1)
        clear b1 p0 p1 p2 p3 p4 p5 p6 p7 p8 p9 pa pb
        obtain ⟨⟨q0, q1, q2, q3, q4, q5⟩, ⟨q6, q7, q8, q9, qa, qb⟩⟩ := qty_facts (HC.out z1 B1.out).2.1
        go_wp2_with fail
        refine (VB.out _).mono ?_
        rintro e1 z2 ⟨rfl, b2⟩
        have B2 := hid (below_up B1.out b2)
        have P2 := hid (below_up B0.out B2.out)
        clear b2 q0 q1 q2 q3 q4 q5 q6 q7 q8 q9 qa qb
        obtain ⟨⟨p0, p1, p2, p3, p4, p5⟩, ⟨p6, p7, p8, p9, pa, pb⟩⟩ := qty_facts (HC.out z2 B2.out).1
        obtain ⟨⟨q0, q1, q2, q3, q4, q5⟩, ⟨q6, q7, q8, q9, qa, qb⟩⟩ := qty_facts (HC.out z2 B2.out).2.1
        have k1 := K1.out; have k2 := K2.out; have k3 := K3.out
        obtain ⟨y, hy⟩ : ∃ y, ((((((z2.setCell ⟨w.heap.size + 1 + 1, 0, none⟩ (.string ⟨#[]⟩)).setCell ⟨w.heap.size + 1 + 1, 1, none⟩ (.string ⟨#[]⟩)).setCell ⟨w.heap.size + 1 + 1, 2, none⟩ (.int .i64 0)).setCell ⟨w.heap.size + 1 + 1, 3, none⟩ (.int .i64 0)).setCell ⟨w.heap.size + 1 + 1, 4, none⟩ (.int .i64 0)).setCell ⟨w.heap.size + 1 + 1, 5, none⟩ (.int .i64 0)) = y := ⟨_, rfl⟩
        have KY := hid (show CellsAt y (w.heap.size + 1 + 1) [.string ⟨#[]⟩, .string ⟨#[]⟩, .int .i64 0, .int .i64 0, .int .i64 0, .int .i64 0] by rw [← hy]; exact qty_put (HC.out z2 B2.out).2.2 _ _ _ _ _ _)
        have BY := hid (show Below w.heap.size w y by rw [← hy]; exact qty_below (show w.heap.size ≤ w.heap.size + 1 + 1 by omega) P2.out _ _ _ _ _ _)
        have HY := hid hy
        clear hy
        obtain ⟨⟨k0, k1, k2, k3, k4, k5⟩, ⟨k6, k7, k8, k9, ka, kb⟩⟩ := qty_facts (HC.out z2 B2.out).2.2
        go_wp2_with (rw [HY.out])
        obtain ⟨⟨r0, r1, r2, r3, r4, r5⟩, _⟩ := qty_facts KY.out
        exact bodyPost_ret (v := .tuple #[.agg #[.string ⟨#[]⟩, .string ⟨#[]⟩, .int .i64 0, .int .i64 0, .int .i64 0, .int .i64 0], .int .i64 50]) (by simp [results, Tryz.results18, go_sem, r0, r1, r2, r3, r4, r5]) rfl ⟨rfl, BY.out⟩
      have k2 : (b == b') = false := by rw [beq_eq_false_iff_ne]; exact e2
      have K1 := hid k1; have K2 := hid k2
      clear e1 e2 k1 k2 hs
      go_enter Tryz.func18, Tryz.ntmps18
      obtain ⟨⟨p0, p1, p2, p3, p4, p5⟩, ⟨p6, p7, p8, p9, pa, pb⟩⟩ := qty_facts (HC.out W0 (Below.refl _ _)).1
      go_wp2_with (rw [HW.out])
      refine (VA.out _).mono ?_
      rintro e1 z1 ⟨rfl, b1⟩
      have B1 := hid b1
      have P1 := hid (below_up B0.out b1)
      clear b1 p0 p1 p2 p3 p4 p5 p6 p7 p8 p9 pa pb
      obtain ⟨⟨q0, q1, q2, q3, q4, q5⟩, ⟨q6, q7, q8, q9, qa, qb⟩⟩ := qty_facts (HC.out z1 B1.out).2.1
      go_wp2_with fail
      refine (VB.out _).mono ?_
      rintro e1 z2 ⟨rfl, b2⟩
      have B2 := hid (below_up B1.out b2)
      have P2 := hid (below_up B0.out B2.out)
      clear b2 q0 q1 q2 q3 q4 q5 q6 q7 q8 q9 qa qb
      obtain ⟨⟨p0, p1, p2, p3, p4, p5⟩, ⟨p6, p7, p8, p9, pa, pb⟩⟩ := qty_facts (HC.out z2 B2.out).1
      obtain ⟨⟨q0, q1, q2, q3, q4, q5⟩, ⟨q6, q7, q8, q9, qa, qb⟩⟩ := qty_facts (HC.out z2 B2.out).2.1
      have k1 := K1.out; have k2 := K2.out
      obtain ⟨y, hy⟩ : ∃ y, ((((((z2.setCell ⟨w.heap.size + 1 + 1, 0, none⟩ (.string ⟨#[]⟩)).setCell ⟨w.heap.size + 1 + 1, 1, none⟩ (.string ⟨#[]⟩)).setCell ⟨w.heap.size + 1 + 1, 2, none⟩ (.int .i64 0)).setCell ⟨w.heap.size + 1 + 1, 3, none⟩ (.int .i64 0)).setCell ⟨w.heap.size + 1 + 1, 4, none⟩ (.int .i64 0)).setCell ⟨w.heap.size + 1 + 1, 5, none⟩ (.int .i64 0)) = y := ⟨_, rfl⟩
      have KY := hid (show CellsAt y (w.heap.size + 1 + 1) [.string ⟨#[]⟩, .string ⟨#[]⟩, .int .i64 0, .int .i64 0, .int .i64 0, .int .i64 0] by rw [← hy]; exact qty_put (HC.out z2 B2.out).2.2 _ _ _ _ _ _)
      have BY := hid (show Below w.heap.size w y by rw [← hy]; exact qty_below (show w.heap.size ≤ w.heap.size + 1 + 1 by omega) P2.out _ _ _ _ _ _)
      have HY := hid hy
      clear hy
      obtain ⟨⟨k0, k1, k2, k3, k4, k5⟩, ⟨k6, k7, k8, k9, ka, kb⟩⟩ := qty_facts (HC.out z2 B2.out).2.2
      go_wp2_with (rw [HY.out])
      obtain ⟨⟨r0, r1, r2, r3, r4, r5⟩, _⟩ := qty_facts KY.out
      exact bodyPost_ret (v := .tuple #[.agg #[.string ⟨#[]⟩, .string ⟨#[]⟩, .int .i64 0, .int .i64 0, .int .i64 0, .int .i64 0], .int .i64 50]) (by simp [results, Tryz.results18, go_sem, r0, r1, r2, r3, r4, r5]) rfl ⟨rfl, BY.out⟩
    have k1 : (t == t') = false := by rw [beq_eq_false_iff_ne]; exact e1
    have K1 := hid k1
    clear e1 k1 hs
    go_enter Tryz.func18, Tryz.ntmps18
    obtain ⟨⟨p0, p1, p2, p3, p4, p5⟩, ⟨p6, p7, p8, p9, pa, pb⟩⟩ := qty_facts (HC.out W0 (Below.refl _ _)).1
    go_wp2_with (rw [HW.out])
    refine (VA.out _).mono ?_
    rintro e1 z1 ⟨rfl, b1⟩
    have B1 := hid b1
    have P1 := hid (below_up B0.out b1)
    clear b1 p0 p1 p2 p3 p4 p5 p6 p7 p8 p9 pa pb
    obtain ⟨⟨q0, q1, q2, q3, q4, q5⟩, ⟨q6, q7, q8, q9, qa, qb⟩⟩ := qty_facts (HC.out z1 B1.out).2.1
    go_wp2_with fail
    refine (VB.out _).mono ?_
    rintro e1 z2 ⟨rfl, b2⟩
    have B2 := hid (below_up B1.out b2)
    have P2 := hid (below_up B0.out B2.out)
    clear b2 q0 q1 q2 q3 q4 q5 q6 q7 q8 q9 qa qb
    obtain ⟨⟨p0, p1, p2, p3, p4, p5⟩, ⟨p6, p7, p8, p9, pa, pb⟩⟩ := qty_facts (HC.out z2 B2.out).1
    obtain ⟨⟨q0, q1, q2, q3, q4, q5⟩, ⟨q6, q7, q8, q9, qa, qb⟩⟩ := qty_facts (HC.out z2 B2.out).2.1
    have k1 := K1.out
    obtain ⟨y, hy⟩ : ∃ y, ((((((z2.setCell ⟨w.heap.size + 1 + 1, 0, none⟩ (.string ⟨#[]⟩)).setCell ⟨w.heap.size + 1 + 1, 1, none⟩ (.string ⟨#[]⟩)).setCell ⟨w.heap.size + 1 + 1, 2, none⟩ (.int .i64 0)).setCell ⟨w.heap.size + 1 + 1, 3, none⟩ (.int .i64 0)).setCell ⟨w.heap.size + 1 + 1, 4, none⟩ (.int .i64 0)).setCell ⟨w.heap.size + 1 + 1, 5, none⟩ (.int .i64 0)) = y := ⟨_, rfl⟩
    have KY := hid (show CellsAt y (w.heap.size + 1 + 1) [.string ⟨#[]⟩, .string ⟨#[]⟩, .int .i64 0, .int .i64 0, .int .i64 0, .int .i64 0] by rw [← hy]; exact qty_put (HC.out z2 B2.out).2.2 _ _ _ _ _ _)
    have BY := hid (show Below w.heap.size w y by rw [← hy]; exact qty_below (show w.heap.size ≤ w.heap.size + 1 + 1 by omega) P2.out _ _ _ _ _ _)
    have HY := hid hy
    clear hy
    obtain ⟨⟨k0, k1, k2, k3, k4, k5⟩, ⟨k6, k7, k8, k9, ka, kb⟩⟩ := qty_facts (HC.out z2 B2.out).2.2
    go_wp2_with (rw [HY.out])
    obtain ⟨⟨r0, r1, r2, r3, r4, r5⟩, _⟩ := qty_facts KY.out
    exact bodyPost_ret (v := .tuple #[.agg #[.string ⟨#[]⟩, .string ⟨#[]⟩, .int .i64 0, .int .i64 0, .int .i64 0, .int .i64 0], .int .i64 50]) (by simp [results, Tryz.results18, go_sem, r0, r1, r2, r3, r4, r5]) rfl ⟨rfl, BY.out⟩
   | true =>
    obtain ⟨e1, e2, e3, e4⟩ := sameE_iff.1 HX4.out
    subst e1 e2 e3 e4
    show Calls _ _ _ _ fun e w' => e = .returned (.tuple #[.agg #[.string (zT x3 VN), .string (zT x3 VD), .int .i64 (zI x3 t), .int .i64 (zI x3 b), .int .i64 (zI x3 m), .int .i64 (zI x3 c)], .int .i64 (zE x3)]) ∧ _
    rw [hrn, hrd, hr0, hr1, hr2, hr3, hre]
    clear hrn hrd hr0 hr1 hr2 hr3 hre
    go_enter Tryz.func18, Tryz.ntmps18
    obtain ⟨⟨p0, p1, p2, p3, p4, p5⟩, ⟨p6, p7, p8, p9, pa, pb⟩⟩ := qty_facts (HC.out W0 (Below.refl _ _)).1
    go_wp2_with (rw [HW.out])
    refine (VA.out _).mono ?_
    rintro e1 z1 ⟨rfl, b1⟩
    have B1 := hid b1
    have P1 := hid (below_up B0.out b1)
    clear b1 p0 p1 p2 p3 p4 p5 p6 p7 p8 p9 pa pb
    obtain ⟨⟨q0, q1, q2, q3, q4, q5⟩, ⟨q6, q7, q8, q9, qa, qb⟩⟩ := qty_facts (HC.out z1 B1.out).2.1
    go_wp2_with fail
    refine (VB.out _).mono ?_
    rintro e1 z2 ⟨rfl, b2⟩
    have B2 := hid (below_up B1.out b2)
    have P2 := hid (below_up B0.out B2.out)
    clear b2 q0 q1 q2 q3 q4 q5 q6 q7 q8 q9 qa qb
    obtain ⟨⟨p0, p1, p2, p3, p4, p5⟩, ⟨p6, p7, p8, p9, pa, pb⟩⟩ := qty_facts (HC.out z2 B2.out).1
    obtain ⟨⟨q0, q1, q2, q3, q4, q5⟩, ⟨q6, q7, q8, q9, qa, qb⟩⟩ := qty_facts (HC.out z2 B2.out).2.1
    go_wp2_with fail
    refine (CO.out _).mono ?_
    rintro e1 z3 ⟨rfl, b3⟩
    obtain ⟨z4, hz4, b4, f4⟩ := box_one z3 VN VD
    have V4 := hid hz4; have F4 := hid f4
    have B4 := hid (below_up B2.out (below_up b3 b4))
    have P4 := hid (below_up B0.out B4.out)
    clear b3 b4 hz4 f4 p0 p1 p2 p3 p4 p5 p6 p7 p8 p9 pa pb q0 q1 q2 q3 q4 q5 q6 q7 q8 q9 qa qb
    obtain ⟨⟨p0, p1, p2, p3, p4, p5⟩, ⟨p6, p7, p8, p9, pa, pb⟩⟩ := qty_facts (HC.out z4 B4.out).1
    obtain ⟨g0, g1, _, _⟩ := F4.out z4 (Below.refl _ _)
    go_wp2_with (rw [V4.out])
    refine (CR.out _).mono ?_
    rintro e1 z5 ⟨rfl, b5⟩
    obtain ⟨z6, hz6, b6, f6⟩ := box_qty z5 RN RD R0 R1 R2 R3
    have V6 := hid hz6; have F6 := hid f6
    have B6 := hid (below_up B4.out (below_up b5 b6))
    have P6 := hid (below_up B0.out B6.out)
    clear b5 b6 hz6 f6 g0 g1 p0 p1 p2 p3 p4 p5 p6 p7 p8 p9 pa pb
    go_upto_region 5 with (rw [V6.out])
    obtain ⟨⟨s0, s1, s2, s3, s4, s5⟩, ⟨s6, s7, s8, s9, sa, sb⟩⟩ := qty_facts (F6.out z6 (Below.refl _ _))
    obtain ⟨y, hy⟩ : ∃ y, ((((((z6.setCell ⟨w.heap.size + 1 + 1, 0, none⟩ (.string RN)).setCell ⟨w.heap.size + 1 + 1, 1, none⟩ (.string RD)).setCell ⟨w.heap.size + 1 + 1, 2, none⟩ (.int .i64 R0)).setCell ⟨w.heap.size + 1 + 1, 3, none⟩ (.int .i64 R1)).setCell ⟨w.heap.size + 1 + 1, 4, none⟩ (.int .i64 R2)).setCell ⟨w.heap.size + 1 + 1, 5, none⟩ (.int .i64 R3)) = y := ⟨_, rfl⟩
    have KY := hid (show CellsAt y (w.heap.size + 1 + 1) [.string RN, .string RD, .int .i64 R0, .int .i64 R1, .int .i64 R2, .int .i64 R3] by rw [← hy]; exact qty_put (HC.out z6 B6.out).2.2 _ _ _ _ _ _)
    have BY := hid (show Below w.heap.size w y by rw [← hy]; exact qty_below (show w.heap.size ≤ w.heap.size + 1 + 1 by omega) P6.out _ _ _ _ _ _)
    have HY := hid hy
    clear hy
    obtain ⟨⟨k0, k1, k2, k3, k4, k5⟩, ⟨k6, k7, k8, k9, ka, kb⟩⟩ := qty_facts (HC.out z6 B6.out).2.2
    go_wp2_with (rw [HY.out])
    obtain ⟨⟨r0, r1, r2, r3, r4, r5⟩, _⟩ := qty_facts KY.out
    exact bodyPost_ret (v := .tuple #[.agg #[.string RN, .string RD, .int .i64 R0, .int .i64 R1, .int .i64 R2, .int .i64 R3], .int .i64 RE]) (by simp [results, Tryz.results18, go_sem, r0, r1, r2, r3, r4, r5]) rfl ⟨rfl, BY.out⟩
theorem subUR_any (n d : ByteArray) (t b m c : Int) (n' d' : ByteArray) (t' b' m' c' : Int) (h1 : n.size ≤ 1099511627776) (h2 : d.size ≤ 1099511627776) (h3 : n'.size ≤ 1099511627776) (h4 : d'.size ≤ 1099511627776) (w : World) :
 Calls Tryz.prog 20 #[.agg #[.string n, .string d, .int .i64 t, .int .i64 b, .int .i64 m, .int .i64 c], .agg #[.string n', .string d', .int .i64 t', .int .i64 b', .int .i64 m', .int .i64 c']] w fun e w' => e = .returned (.tuple #[.agg #[.string (zT ((okU n d t b m c && (okU n' d' t' b' m' c' && sameE t b m c t' b' m' c')) && (decide (outE (subB n d n' d') = 0) && okU (difN n d n' d') (difD n d n' d') t b m c)) (difN n d n' d')), .string (zT ((okU n d t b m c && (okU n' d' t' b' m' c' && sameE t b m c t' b' m' c')) && (decide (outE (subB n d n' d') = 0) && okU (difN n d n' d') (difD n d n' d') t b m c)) (difD n d n' d')), .int .i64 (zI ((okU n d t b m c && (okU n' d' t' b' m' c' && sameE t b m c t' b' m' c')) && (decide (outE (subB n d n' d') = 0) && okU (difN n d n' d') (difD n d n' d') t b m c)) t), .int .i64 (zI ((okU n d t b m c && (okU n' d' t' b' m' c' && sameE t b m c t' b' m' c')) && (decide (outE (subB n d n' d') = 0) && okU (difN n d n' d') (difD n d n' d') t b m c)) b), .int .i64 (zI ((okU n d t b m c && (okU n' d' t' b' m' c' && sameE t b m c t' b' m' c')) && (decide (outE (subB n d n' d') = 0) && okU (difN n d n' d') (difD n d n' d') t b m c)) m), .int .i64 (zI ((okU n d t b m c && (okU n' d' t' b' m' c' && sameE t b m c t' b' m' c')) && (decide (outE (subB n d n' d') = 0) && okU (difN n d n' d') (difD n d n' d') t b m c)) c)], .int .i64 (zE ((okU n d t b m c && (okU n' d' t' b' m' c' && sameE t b m c t' b' m' c')) && (decide (outE (subB n d n' d') = 0) && okU (difN n d n' d') (difD n d n' d') t b m c)))]) ∧ Below w.heap.size w w' := by
 obtain ⟨W0, hW0, b0, hcc⟩ := three_box w n d t b m c n' d' t' b' m' c'
 have va := fun W => validUR_any n d t b m c h1 h2 W
 have vb := fun W => validUR_any n' d' t' b' m' c' h3 h4 W
 have co := fun W => subR4_any n d n' d' h1 h2 h3 h4 W
 rw [show outN (subB n d n' d') (valQ n d - valQ n' d') = difN n d n' d' from rfl, show outD (subB n d n' d') (valQ n d - valQ n' d') = difD n d n' d' from rfl] at co
 have hz := dif_size n d n' d'
 generalize difN n d n' d' = VN at *
 generalize difD n d n' d' = VD at *
 generalize outE (subB n d n' d') = VE at *
 have cr := fun W => resultR_any VN VD VE t b m c hz.1 hz.2 W
 generalize hx3 : (decide (VE = 0) && okU VN VD t b m c) = x3 at *
 generalize hx1 : okU n d t b m c = x1 at *
 generalize hx2 : okU n' d' t' b' m' c' = x2 at *
 generalize hx4 : sameE t b m c t' b' m' c' = x4 at *
 obtain ⟨RN, hrn⟩ : ∃ v, zT x3 VN = v := ⟨_, rfl⟩
 obtain ⟨RD, hrd⟩ : ∃ v, zT x3 VD = v := ⟨_, rfl⟩
 obtain ⟨R0, hr0⟩ : ∃ v, zI x3 t = v := ⟨_, rfl⟩
 obtain ⟨R1, hr1⟩ : ∃ v, zI x3 b = v := ⟨_, rfl⟩
 obtain ⟨R2, hr2⟩ : ∃ v, zI x3 m = v := ⟨_, rfl⟩
 obtain ⟨R3, hr3⟩ : ∃ v, zI x3 c = v := ⟨_, rfl⟩
 obtain ⟨RE, hre⟩ : ∃ v, zE x3 = v := ⟨_, rfl⟩
 rw [hrn, hrd, hr0, hr1, hr2, hr3, hre] at cr
 have HW := hid hW0; have B0 := hid b0; have HC := hid hcc; have VA := hid va; have VB := hid vb; have CO := hid co; have CR := hid cr; have HX4 := hid hx4
 clear hW0 b0 hcc va vb co cr hz hx1 hx2 hx3 hx4
 cases x1 with
 | false =>
  clear hrn hrd hr0 hr1 hr2 hr3 hre
  show Calls _ _ _ _ fun e w' => e = .returned (.tuple #[.agg #[.string ⟨#[]⟩, .string ⟨#[]⟩, .int .i64 0, .int .i64 0, .int .i64 0, .int .i64 0], .int .i64 50]) ∧ _
  go_enter Tryz.func20, Tryz.ntmps20
  obtain ⟨⟨p0, p1, p2, p3, p4, p5⟩, ⟨p6, p7, p8, p9, pa, pb⟩⟩ := qty_facts (HC.out W0 (Below.refl _ _)).1
  go_wp2_with (rw [HW.out])
  refine (VA.out _).mono ?_
  rintro e1 z1 ⟨rfl, b1⟩
  have B1 := hid b1
  have P1 := hid (below_up B0.out b1)
  clear b1 p0 p1 p2 p3 p4 p5 p6 p7 p8 p9 pa pb
  obtain ⟨y, hy⟩ : ∃ y, ((((((z1.setCell ⟨w.heap.size + 1 + 1, 0, none⟩ (.string ⟨#[]⟩)).setCell ⟨w.heap.size + 1 + 1, 1, none⟩ (.string ⟨#[]⟩)).setCell ⟨w.heap.size + 1 + 1, 2, none⟩ (.int .i64 0)).setCell ⟨w.heap.size + 1 + 1, 3, none⟩ (.int .i64 0)).setCell ⟨w.heap.size + 1 + 1, 4, none⟩ (.int .i64 0)).setCell ⟨w.heap.size + 1 + 1, 5, none⟩ (.int .i64 0)) = y := ⟨_, rfl⟩
  have KY := hid (show CellsAt y (w.heap.size + 1 + 1) [.string ⟨#[]⟩, .string ⟨#[]⟩, .int .i64 0, .int .i64 0, .int .i64 0, .int .i64 0] by rw [← hy]; exact qty_put (HC.out z1 B1.out).2.2 _ _ _ _ _ _)
  have BY := hid (show Below w.heap.size w y by rw [← hy]; exact qty_below (show w.heap.size ≤ w.heap.size + 1 + 1 by omega) P1.out _ _ _ _ _ _)
  have HY := hid hy
  clear hy
  obtain ⟨⟨k0, k1, k2, k3, k4, k5⟩, ⟨k6, k7, k8, k9, ka, kb⟩⟩ := qty_facts (HC.out z1 B1.out).2.2
  go_wp2_with (rw [HY.out])
  obtain ⟨⟨r0, r1, r2, r3, r4, r5⟩, _⟩ := qty_facts KY.out
  exact bodyPost_ret (v := .tuple #[.agg #[.string ⟨#[]⟩, .string ⟨#[]⟩, .int .i64 0, .int .i64 0, .int .i64 0, .int .i64 0], .int .i64 50]) (by simp [results, Tryz.results20, go_sem, r0, r1, r2, r3, r4, r5]) rfl ⟨rfl, BY.out⟩
 | true =>
  cases x2 with
  | false =>
   clear hrn hrd hr0 hr1 hr2 hr3 hre
   show Calls _ _ _ _ fun e w' => e = .returned (.tuple #[.agg #[.string ⟨#[]⟩, .string ⟨#[]⟩, .int .i64 0, .int .i64 0, .int .i64 0, .int .i64 0], .int .i64 50]) ∧ _
   go_enter Tryz.func20, Tryz.ntmps20
   obtain ⟨⟨p0, p1, p2, p3, p4, p5⟩, ⟨p6, p7, p8, p9, pa, pb⟩⟩ := qty_facts (HC.out W0 (Below.refl _ _)).1
   go_wp2_with (rw [HW.out])
   refine (VA.out _).mono ?_
   rintro e1 z1 ⟨rfl, b1⟩
   have B1 := hid b1
   have P1 := hid (below_up B0.out b1)
   clear b1 p0 p1 p2 p3 p4 p5 p6 p7 p8 p9 pa pb
   obtain ⟨⟨q0, q1, q2, q3, q4, q5⟩, ⟨q6, q7, q8, q9, qa, qb⟩⟩ := qty_facts (HC.out z1 B1.out).2.1
   go_wp2_with fail
   refine (VB.out _).mono ?_
   rintro e1 z2 ⟨rfl, b2⟩
   have B2 := hid (below_up B1.out b2)
   have P2 := hid (below_up B0.out B2.out)
   clear b2 q0 q1 q2 q3 q4 q5 q6 q7 q8 q9 qa qb
   obtain ⟨y, hy⟩ : ∃ y, ((((((z2.setCell ⟨w.heap.size + 1 + 1, 0, none⟩ (.string ⟨#[]⟩)).setCell ⟨w.heap.size + 1 + 1, 1, none⟩ (.string ⟨#[]⟩)).setCell ⟨w.heap.size + 1 + 1, 2, none⟩ (.int .i64 0)).setCell ⟨w.heap.size + 1 + 1, 3, none⟩ (.int .i64 0)).setCell ⟨w.heap.size + 1 + 1, 4, none⟩ (.int .i64 0)).setCell ⟨w.heap.size + 1 + 1, 5, none⟩ (.int .i64 0)) = y := ⟨_, rfl⟩
   have KY := hid (show CellsAt y (w.heap.size + 1 + 1) [.string ⟨#[]⟩, .string ⟨#[]⟩, .int .i64 0, .int .i64 0, .int .i64 0, .int .i64 0] by rw [← hy]; exact qty_put (HC.out z2 B2.out).2.2 _ _ _ _ _ _)
   have BY := hid (show Below w.heap.size w y by rw [← hy]; exact qty_below (show w.heap.size ≤ w.heap.size + 1 + 1 by omega) P2.out _ _ _ _ _ _)
   have HY := hid hy
   clear hy
   obtain ⟨⟨k0, k1, k2, k3, k4, k5⟩, ⟨k6, k7, k8, k9, ka, kb⟩⟩ := qty_facts (HC.out z2 B2.out).2.2
   go_wp2_with (rw [HY.out])
   obtain ⟨⟨r0, r1, r2, r3, r4, r5⟩, _⟩ := qty_facts KY.out
   exact bodyPost_ret (v := .tuple #[.agg #[.string ⟨#[]⟩, .string ⟨#[]⟩, .int .i64 0, .int .i64 0, .int .i64 0, .int .i64 0], .int .i64 50]) (by simp [results, Tryz.results20, go_sem, r0, r1, r2, r3, r4, r5]) rfl ⟨rfl, BY.out⟩
  | true =>
   cases x4 with
   | false =>
    clear hrn hrd hr0 hr1 hr2 hr3 hre
    show Calls _ _ _ _ fun e w' => e = .returned (.tuple #[.agg #[.string ⟨#[]⟩, .string ⟨#[]⟩, .int .i64 0, .int .i64 0, .int .i64 0, .int .i64 0], .int .i64 50]) ∧ _
    have hs := HX4.out
    unfold sameE at hs
    by_cases e1 : t = t'
    · have k1 : (t == t') = true := by rw [beq_iff_eq]; exact e1
      rw [k1, Bool.true_and] at hs
      by_cases e2 : b = b'
      · have k2 : (b == b') = true := by rw [beq_iff_eq]; exact e2
        rw [k2, Bool.true_and] at hs
        by_cases e3 : m = m'
        · have k3 : (m == m') = true := by rw [beq_iff_eq]; exact e3
          rw [k3, Bool.true_and] at hs
          have K1 := hid k1; have K2 := hid k2; have K3 := hid k3; have K4 := hid hs
          clear e1 e2 e3 k1 k2 k3 hs
          go_enter Tryz.func20, Tryz.ntmps20
          obtain ⟨⟨p0, p1, p2, p3, p4, p5⟩, ⟨p6, p7, p8, p9, pa, pb⟩⟩ := qty_facts (HC.out W0 (Below.refl _ _)).1
          go_wp2_with (rw [HW.out])
          refine (VA.out _).mono ?_
          rintro e1 z1 ⟨rfl, b1⟩
          have B1 := hid b1
          have P1 := hid (below_up B0.out b1)
          clear b1 p0 p1 p2 p3 p4 p5 p6 p7 p8 p9 pa pb
          obtain ⟨⟨q0, q1, q2, q3, q4, q5⟩, ⟨q6, q7, q8, q9, qa, qb⟩⟩ := qty_facts (HC.out z1 B1.out).2.1
          go_wp2_with fail
          refine (VB.out _).mono ?_
          rintro e1 z2 ⟨rfl, b2⟩
          have B2 := hid (below_up B1.out b2)
          have P2 := hid (below_up B0.out B2.out)
          clear b2 q0 q1 q2 q3 q4 q5 q6 q7 q8 q9 qa qb
          obtain ⟨⟨p0, p1, p2, p3, p4, p5⟩, ⟨p6, p7, p8, p9, pa, pb⟩⟩ := qty_facts (HC.out z2 B2.out).1
          obtain ⟨⟨q0, q1, q2, q3, q4, q5⟩, ⟨q6, q7, q8, q9, qa, qb⟩⟩ := qty_facts (HC.out z2 B2.out).2.1
          have k1 := K1.out; have k2 := K2.out; have k3 := K3.out; have k4 := K4.out
          obtain ⟨y, hy⟩ : ∃ y, ((((((z2.setCell ⟨w.heap.size + 1 + 1, 0, none⟩ (.string ⟨#[]⟩)).setCell ⟨w.heap.size + 1 + 1, 1, none⟩ (.string ⟨#[]⟩)).setCell ⟨w.heap.size + 1 + 1, 2, none⟩ (.int .i64 0)).setCell ⟨w.heap.size + 1 + 1, 3, none⟩ (.int .i64 0)).setCell ⟨w.heap.size + 1 + 1, 4, none⟩ (.int .i64 0)).setCell ⟨w.heap.size + 1 + 1, 5, none⟩ (.int .i64 0)) = y := ⟨_, rfl⟩
          have KY := hid (show CellsAt y (w.heap.size + 1 + 1) [.string ⟨#[]⟩, .string ⟨#[]⟩, .int .i64 0, .int .i64 0, .int .i64 0, .int .i64 0] by rw [← hy]; exact qty_put (HC.out z2 B2.out).2.2 _ _ _ _ _ _)
          have BY := hid (show Below w.heap.size w y by rw [← hy]; exact qty_below (show w.heap.size ≤ w.heap.size + 1 + 1 by omega) P2.out _ _ _ _ _ _)
          have HY := hid hy
          clear hy
          obtain ⟨⟨k0, k1, k2, k3, k4, k5⟩, ⟨k6, k7, k8, k9, ka, kb⟩⟩ := qty_facts (HC.out z2 B2.out).2.2
          go_wp2_with (rw [HY.out])
          obtain ⟨⟨r0, r1, r2, r3, r4, r5⟩, _⟩ := qty_facts KY.out
          exact bodyPost_ret (v := .tuple #[.agg #[.string ⟨#[]⟩, .string ⟨#[]⟩, .int .i64 0, .int .i64 0, .int .i64 0, .int .i64 0], .int .i64 50]) (by simp [results, Tryz.results20, go_sem, r0, r1, r2, r3, r4, r5]) rfl ⟨rfl, BY.out⟩
        have k3 : (m == m') = false := by rw [beq_eq_false_iff_ne]; exact e3
        have K1 := hid k1; have K2 := hid k2; have K3 := hid k3
        clear e1 e2 e3 k1 k2 k3 hs
        go_enter Tryz.func20, Tryz.ntmps20
        obtain ⟨⟨p0, p1, p2, p3, p4, p5⟩, ⟨p6, p7, p8, p9, pa, pb⟩⟩ := qty_facts (HC.out W0 (Below.refl _ _)).1
        go_wp2_with (rw [HW.out])
        refine (VA.out _).mono ?_
        rintro e1 z1 ⟨rfl, b1⟩
        have B1 := hid b1
        have P1 := hid (below_up B0.out b1)
        clear b1 p0 p1 p2 p3 p4 p5 p6 p7 p8 p9 pa pb
        obtain ⟨⟨q0, q1, q2, q3, q4, q5⟩, ⟨q6, q7, q8, q9, qa, qb⟩⟩ := qty_facts (HC.out z1 B1.out).2.1
        go_wp2_with fail
        refine (VB.out _).mono ?_
        rintro e1 z2 ⟨rfl, b2⟩
        have B2 := hid (below_up B1.out b2)
        have P2 := hid (below_up B0.out B2.out)
        clear b2 q0 q1 q2 q3 q4 q5 q6 q7 q8 q9 qa qb
        obtain ⟨⟨p0, p1, p2, p3, p4, p5⟩, ⟨p6, p7, p8, p9, pa, pb⟩⟩ := qty_facts (HC.out z2 B2.out).1
        obtain ⟨⟨q0, q1, q2, q3, q4, q5⟩, ⟨q6, q7, q8, q9, qa, qb⟩⟩ := qty_facts (HC.out z2 B2.out).2.1
        have k1 := K1.out; have k2 := K2.out; have k3 := K3.out
        obtain ⟨y, hy⟩ : ∃ y, ((((((z2.setCell ⟨w.heap.size + 1 + 1, 0, none⟩ (.string ⟨#[]⟩)).setCell ⟨w.heap.size + 1 + 1, 1, none⟩ (.string ⟨#[]⟩)).setCell ⟨w.heap.size + 1 + 1, 2, none⟩ (.int .i64 0)).setCell ⟨w.heap.size + 1 + 1, 3, none⟩ (.int .i64 0)).setCell ⟨w.heap.size + 1 + 1, 4, none⟩ (.int .i64 0)).setCell ⟨w.heap.size + 1 + 1, 5, none⟩ (.int .i64 0)) = y := ⟨_, rfl⟩
        have KY := hid (show CellsAt y (w.heap.size + 1 + 1) [.string ⟨#[]⟩, .string ⟨#[]⟩, .int .i64 0, .int .i64 0, .int .i64 0, .int .i64 0] by rw [← hy]; exact qty_put (HC.out z2 B2.out).2.2 _ _ _ _ _ _)
        have BY := hid (show Below w.heap.size w y by rw [← hy]; exact qty_below (show w.heap.size ≤ w.heap.size + 1 + 1 by omega) P2.out _ _ _ _ _ _)
        have HY := hid hy
        clear hy
        obtain ⟨⟨k0, k1, k2, k3, k4, k5⟩, ⟨k6, k7, k8, k9, ka, kb⟩⟩ := qty_facts (HC.out z2 B2.out).2.2
        go_wp2_with (rw [HY.out])
        obtain ⟨⟨r0, r1, r2, r3, r4, r5⟩, _⟩ := qty_facts KY.out
        exact bodyPost_ret (v := .tuple #[.agg #[.string ⟨#[]⟩, .string ⟨#[]⟩, .int .i64 0, .int .i64 0, .int .i64 0, .int .i64 0], .int .i64 50]) (by simp [results, Tryz.results20, go_sem, r0, r1, r2, r3, r4, r5]) rfl ⟨rfl, BY.out⟩
      have k2 : (b == b') = false := by rw [beq_eq_false_iff_ne]; exact e2
      have K1 := hid k1; have K2 := hid k2
      clear e1 e2 k1 k2 hs
      go_enter Tryz.func20, Tryz.ntmps20
      obtain ⟨⟨p0, p1, p2, p3, p4, p5⟩, ⟨p6, p7, p8, p9, pa, pb⟩⟩ := qty_facts (HC.out W0 (Below.refl _ _)).1
      go_wp2_with (rw [HW.out])
      refine (VA.out _).mono ?_
      rintro e1 z1 ⟨rfl, b1⟩
      have B1 := hid b1
      have P1 := hid (below_up B0.out b1)
      clear b1 p0 p1 p2 p3 p4 p5 p6 p7 p8 p9 pa pb
      obtain ⟨⟨q0, q1, q2, q3, q4, q5⟩, ⟨q6, q7, q8, q9, qa, qb⟩⟩ := qty_facts (HC.out z1 B1.out).2.1
      go_wp2_with fail
      refine (VB.out _).mono ?_
      rintro e1 z2 ⟨rfl, b2⟩
      have B2 := hid (below_up B1.out b2)
      have P2 := hid (below_up B0.out B2.out)
      clear b2 q0 q1 q2 q3 q4 q5 q6 q7 q8 q9 qa qb
      obtain ⟨⟨p0, p1, p2, p3, p4, p5⟩, ⟨p6, p7, p8, p9, pa, pb⟩⟩ := qty_facts (HC.out z2 B2.out).1
      obtain ⟨⟨q0, q1, q2, q3, q4, q5⟩, ⟨q6, q7, q8, q9, qa, qb⟩⟩ := qty_facts (HC.out z2 B2.out).2.1
      have k1 := K1.out; have k2 := K2.out
      obtain ⟨y, hy⟩ : ∃ y, ((((((z2.setCell ⟨w.heap.size + 1 + 1, 0, none⟩ (.string ⟨#[]⟩)).setCell ⟨w.heap.size + 1 + 1, 1, none⟩ (.string ⟨#[]⟩)).setCell ⟨w.heap.size + 1 + 1, 2, none⟩ (.int .i64 0)).setCell ⟨w.heap.size + 1 + 1, 3, none⟩ (.int .i64 0)).setCell ⟨w.heap.size + 1 + 1, 4, none⟩ (.int .i64 0)).setCell ⟨w.heap.size + 1 + 1, 5, none⟩ (.int .i64 0)) = y := ⟨_, rfl⟩
      have KY := hid (show CellsAt y (w.heap.size + 1 + 1) [.string ⟨#[]⟩, .string ⟨#[]⟩, .int .i64 0, .int .i64 0, .int .i64 0, .int .i64 0] by rw [← hy]; exact qty_put (HC.out z2 B2.out).2.2 _ _ _ _ _ _)
      have BY := hid (show Below w.heap.size w y by rw [← hy]; exact qty_below (show w.heap.size ≤ w.heap.size + 1 + 1 by omega) P2.out _ _ _ _ _ _)
      have HY := hid hy
      clear hy
      obtain ⟨⟨k0, k1, k2, k3, k4, k5⟩, ⟨k6, k7, k8, k9, ka, kb⟩⟩ := qty_facts (HC.out z2 B2.out).2.2
      go_wp2_with (rw [HY.out])
      obtain ⟨⟨r0, r1, r2, r3, r4, r5⟩, _⟩ := qty_facts KY.out
      exact bodyPost_ret (v := .tuple #[.agg #[.string ⟨#[]⟩, .string ⟨#[]⟩, .int .i64 0, .int .i64 0, .int .i64 0, .int .i64 0], .int .i64 50]) (by simp [results, Tryz.results20, go_sem, r0, r1, r2, r3, r4, r5]) rfl ⟨rfl, BY.out⟩
    have k1 : (t == t') = false := by rw [beq_eq_false_iff_ne]; exact e1
    have K1 := hid k1
    clear e1 k1 hs
    go_enter Tryz.func20, Tryz.ntmps20
    obtain ⟨⟨p0, p1, p2, p3, p4, p5⟩, ⟨p6, p7, p8, p9, pa, pb⟩⟩ := qty_facts (HC.out W0 (Below.refl _ _)).1
    go_wp2_with (rw [HW.out])
    refine (VA.out _).mono ?_
    rintro e1 z1 ⟨rfl, b1⟩
    have B1 := hid b1
    have P1 := hid (below_up B0.out b1)
    clear b1 p0 p1 p2 p3 p4 p5 p6 p7 p8 p9 pa pb
    obtain ⟨⟨q0, q1, q2, q3, q4, q5⟩, ⟨q6, q7, q8, q9, qa, qb⟩⟩ := qty_facts (HC.out z1 B1.out).2.1
    go_wp2_with fail
    refine (VB.out _).mono ?_
    rintro e1 z2 ⟨rfl, b2⟩
    have B2 := hid (below_up B1.out b2)
    have P2 := hid (below_up B0.out B2.out)
    clear b2 q0 q1 q2 q3 q4 q5 q6 q7 q8 q9 qa qb
    obtain ⟨⟨p0, p1, p2, p3, p4, p5⟩, ⟨p6, p7, p8, p9, pa, pb⟩⟩ := qty_facts (HC.out z2 B2.out).1
    obtain ⟨⟨q0, q1, q2, q3, q4, q5⟩, ⟨q6, q7, q8, q9, qa, qb⟩⟩ := qty_facts (HC.out z2 B2.out).2.1
    have k1 := K1.out
    obtain ⟨y, hy⟩ : ∃ y, ((((((z2.setCell ⟨w.heap.size + 1 + 1, 0, none⟩ (.string ⟨#[]⟩)).setCell ⟨w.heap.size + 1 + 1, 1, none⟩ (.string ⟨#[]⟩)).setCell ⟨w.heap.size + 1 + 1, 2, none⟩ (.int .i64 0)).setCell ⟨w.heap.size + 1 + 1, 3, none⟩ (.int .i64 0)).setCell ⟨w.heap.size + 1 + 1, 4, none⟩ (.int .i64 0)).setCell ⟨w.heap.size + 1 + 1, 5, none⟩ (.int .i64 0)) = y := ⟨_, rfl⟩
    have KY := hid (show CellsAt y (w.heap.size + 1 + 1) [.string ⟨#[]⟩, .string ⟨#[]⟩, .int .i64 0, .int .i64 0, .int .i64 0, .int .i64 0] by rw [← hy]; exact qty_put (HC.out z2 B2.out).2.2 _ _ _ _ _ _)
    have BY := hid (show Below w.heap.size w y by rw [← hy]; exact qty_below (show w.heap.size ≤ w.heap.size + 1 + 1 by omega) P2.out _ _ _ _ _ _)
    have HY := hid hy
    clear hy
    obtain ⟨⟨k0, k1, k2, k3, k4, k5⟩, ⟨k6, k7, k8, k9, ka, kb⟩⟩ := qty_facts (HC.out z2 B2.out).2.2
    go_wp2_with (rw [HY.out])
    obtain ⟨⟨r0, r1, r2, r3, r4, r5⟩, _⟩ := qty_facts KY.out
    exact bodyPost_ret (v := .tuple #[.agg #[.string ⟨#[]⟩, .string ⟨#[]⟩, .int .i64 0, .int .i64 0, .int .i64 0, .int .i64 0], .int .i64 50]) (by simp [results, Tryz.results20, go_sem, r0, r1, r2, r3, r4, r5]) rfl ⟨rfl, BY.out⟩
   | true =>
    obtain ⟨e1, e2, e3, e4⟩ := sameE_iff.1 HX4.out
    subst e1 e2 e3 e4
    show Calls _ _ _ _ fun e w' => e = .returned (.tuple #[.agg #[.string (zT x3 VN), .string (zT x3 VD), .int .i64 (zI x3 t), .int .i64 (zI x3 b), .int .i64 (zI x3 m), .int .i64 (zI x3 c)], .int .i64 (zE x3)]) ∧ _
    rw [hrn, hrd, hr0, hr1, hr2, hr3, hre]
    clear hrn hrd hr0 hr1 hr2 hr3 hre
    go_enter Tryz.func20, Tryz.ntmps20
    obtain ⟨⟨p0, p1, p2, p3, p4, p5⟩, ⟨p6, p7, p8, p9, pa, pb⟩⟩ := qty_facts (HC.out W0 (Below.refl _ _)).1
    go_wp2_with (rw [HW.out])
    refine (VA.out _).mono ?_
    rintro e1 z1 ⟨rfl, b1⟩
    have B1 := hid b1
    have P1 := hid (below_up B0.out b1)
    clear b1 p0 p1 p2 p3 p4 p5 p6 p7 p8 p9 pa pb
    obtain ⟨⟨q0, q1, q2, q3, q4, q5⟩, ⟨q6, q7, q8, q9, qa, qb⟩⟩ := qty_facts (HC.out z1 B1.out).2.1
    go_wp2_with fail
    refine (VB.out _).mono ?_
    rintro e1 z2 ⟨rfl, b2⟩
    have B2 := hid (below_up B1.out b2)
    have P2 := hid (below_up B0.out B2.out)
    clear b2 q0 q1 q2 q3 q4 q5 q6 q7 q8 q9 qa qb
    obtain ⟨⟨p0, p1, p2, p3, p4, p5⟩, ⟨p6, p7, p8, p9, pa, pb⟩⟩ := qty_facts (HC.out z2 B2.out).1
    obtain ⟨⟨q0, q1, q2, q3, q4, q5⟩, ⟨q6, q7, q8, q9, qa, qb⟩⟩ := qty_facts (HC.out z2 B2.out).2.1
    go_wp2_with fail
    refine (CO.out _).mono ?_
    rintro e1 z3 ⟨rfl, b3⟩
    obtain ⟨z4, hz4, b4, f4⟩ := box_one z3 VN VD
    have V4 := hid hz4; have F4 := hid f4
    have B4 := hid (below_up B2.out (below_up b3 b4))
    have P4 := hid (below_up B0.out B4.out)
    clear b3 b4 hz4 f4 p0 p1 p2 p3 p4 p5 p6 p7 p8 p9 pa pb q0 q1 q2 q3 q4 q5 q6 q7 q8 q9 qa qb
    obtain ⟨⟨p0, p1, p2, p3, p4, p5⟩, ⟨p6, p7, p8, p9, pa, pb⟩⟩ := qty_facts (HC.out z4 B4.out).1
    obtain ⟨g0, g1, _, _⟩ := F4.out z4 (Below.refl _ _)
    go_wp2_with (rw [V4.out])
    refine (CR.out _).mono ?_
    rintro e1 z5 ⟨rfl, b5⟩
    obtain ⟨z6, hz6, b6, f6⟩ := box_qty z5 RN RD R0 R1 R2 R3
    have V6 := hid hz6; have F6 := hid f6
    have B6 := hid (below_up B4.out (below_up b5 b6))
    have P6 := hid (below_up B0.out B6.out)
    clear b5 b6 hz6 f6 g0 g1 p0 p1 p2 p3 p4 p5 p6 p7 p8 p9 pa pb
    go_upto_region 5 with (rw [V6.out])
    obtain ⟨⟨s0, s1, s2, s3, s4, s5⟩, ⟨s6, s7, s8, s9, sa, sb⟩⟩ := qty_facts (F6.out z6 (Below.refl _ _))
    obtain ⟨y, hy⟩ : ∃ y, ((((((z6.setCell ⟨w.heap.size + 1 + 1, 0, none⟩ (.string RN)).setCell ⟨w.heap.size + 1 + 1, 1, none⟩ (.string RD)).setCell ⟨w.heap.size + 1 + 1, 2, none⟩ (.int .i64 R0)).setCell ⟨w.heap.size + 1 + 1, 3, none⟩ (.int .i64 R1)).setCell ⟨w.heap.size + 1 + 1, 4, none⟩ (.int .i64 R2)).setCell ⟨w.heap.size + 1 + 1, 5, none⟩ (.int .i64 R3)) = y := ⟨_, rfl⟩
    have KY := hid (show CellsAt y (w.heap.size + 1 + 1) [.string RN, .string RD, .int .i64 R0, .int .i64 R1, .int .i64 R2, .int .i64 R3] by rw [← hy]; exact qty_put (HC.out z6 B6.out).2.2 _ _ _ _ _ _)
    have BY := hid (show Below w.heap.size w y by rw [← hy]; exact qty_below (show w.heap.size ≤ w.heap.size + 1 + 1 by omega) P6.out _ _ _ _ _ _)
    have HY := hid hy
    clear hy
    obtain ⟨⟨k0, k1, k2, k3, k4, k5⟩, ⟨k6, k7, k8, k9, ka, kb⟩⟩ := qty_facts (HC.out z6 B6.out).2.2
    go_wp2_with (rw [HY.out])
    obtain ⟨⟨r0, r1, r2, r3, r4, r5⟩, _⟩ := qty_facts KY.out
    exact bodyPost_ret (v := .tuple #[.agg #[.string RN, .string RD, .int .i64 R0, .int .i64 R1, .int .i64 R2, .int .i64 R3], .int .i64 RE]) (by simp [results, Tryz.results20, go_sem, r0, r1, r2, r3, r4, r5]) rfl ⟨rfl, BY.out⟩
theorem sum_box (w : World) (t b m c t' b' m' c' : Int) : ∃ W0, ((w.alloc (.cells #[.int .i64 t, .int .i64 b, .int .i64 m, .int .i64 c] 25)).alloc (.cells #[.int .i64 t', .int .i64 b', .int .i64 m', .int .i64 c'] 25)).alloc (.cells #[.int .i64 0, .int .i64 0, .int .i64 0, .int .i64 0] 25) = W0 ∧ Below w.heap.size w W0 ∧
 ∀ W, Below W0.heap.size W0 W → CellsAt W w.heap.size [.int .i64 t, .int .i64 b, .int .i64 m, .int .i64 c] ∧ CellsAt W (w.heap.size + 1) [.int .i64 t', .int .i64 b', .int .i64 m', .int .i64 c'] ∧ CellsAt W (w.heap.size + 1 + 1) [.int .i64 0, .int .i64 0, .int .i64 0, .int .i64 0] := by
 obtain ⟨W1, h1⟩ : ∃ W, w.alloc (.cells #[.int .i64 t, .int .i64 b, .int .i64 m, .int .i64 c] 25) = W := ⟨_, rfl⟩
 obtain ⟨W2, h2⟩ : ∃ W, W1.alloc (.cells #[.int .i64 t', .int .i64 b', .int .i64 m', .int .i64 c'] 25) = W := ⟨_, rfl⟩
 obtain ⟨W3, h3⟩ : ∃ W, W2.alloc (.cells #[.int .i64 0, .int .i64 0, .int .i64 0, .int .i64 0] 25) = W := ⟨_, rfl⟩
 have s1 : W1.heap.size = w.heap.size + 1 := by rw [← h1]; simp
 have s2 : W2.heap.size = w.heap.size + 1 + 1 := by rw [← h2]; simp [s1]
 have b1 : Below w.heap.size w W1 := by rw [← h1]; exact (Below.refl _ _).alloc (Nat.le_refl _) _
 have b2 : Below W1.heap.size W1 W2 := by rw [← h2]; exact (Below.refl _ _).alloc (Nat.le_refl _) _
 have b3 : Below W2.heap.size W2 W3 := by rw [← h3]; exact (Below.refl _ _).alloc (Nat.le_refl _) _
 have k1 : CellsAt W1 w.heap.size [.int .i64 t, .int .i64 b, .int .i64 m, .int .i64 c] := by rw [← h1]; exact cellsAt_new rfl
 have k2 : CellsAt W2 (w.heap.size + 1) [.int .i64 t', .int .i64 b', .int .i64 m', .int .i64 c'] := by rw [← h2]; exact cellsAt_new s1.symm
 have k3 : CellsAt W3 (w.heap.size + 1 + 1) [.int .i64 0, .int .i64 0, .int .i64 0, .int .i64 0] := by rw [← h3]; exact cellsAt_new s2.symm
 exact ⟨W3, by rw [h1, h2, h3], below_up b1 (below_up b2 b3), fun W hb => ⟨((k1.below b2).below b3).below hb, (k2.below b3).below hb, k3.below hb⟩⟩
theorem unit_put {W : World} {B : Nat} {t0 b0 m0 c0 : Int} (h : CellsAt W B [.int .i64 t0, .int .i64 b0, .int .i64 m0, .int .i64 c0]) (t b m c : Int) : CellsAt ((((W.setCell ⟨B, 0, none⟩ (.int .i64 t)).setCell ⟨B, 1, none⟩ (.int .i64 b)).setCell ⟨B, 2, none⟩ (.int .i64 m)).setCell ⟨B, 3, none⟩ (.int .i64 c)) B [.int .i64 t, .int .i64 b, .int .i64 m, .int .i64 c] :=
 (((h.put 0 (.int .i64 t)).put 1 (.int .i64 b)).put 2 (.int .i64 m)).put 3 (.int .i64 c)
theorem unit_below {w W : World} {B : Nat} (hB : w.heap.size ≤ B) (h : Below w.heap.size w W) (t b m c : Int) : Below w.heap.size w ((((W.setCell ⟨B, 0, none⟩ (.int .i64 t)).setCell ⟨B, 1, none⟩ (.int .i64 b)).setCell ⟨B, 2, none⟩ (.int .i64 m)).setCell ⟨B, 3, none⟩ (.int .i64 c)) :=
 (((h.setCell (p := ⟨B, 0, none⟩) hB _).setCell (p := ⟨B, 1, none⟩) hB _).setCell (p := ⟨B, 2, none⟩) hB _).setCell (p := ⟨B, 3, none⟩) hB _
theorem sumP_any (t b m c t' b' m' c' : Int) (h0 : InE t) (h1 : InE b) (h2 : InE m) (h3 : InE c) (g0 : InE t') (g1 : InE b') (g2 : InE m') (g3 : InE c') (w : World) : Calls Tryz.prog 54 #[.agg #[.int .i64 t, .int .i64 b, .int .i64 m, .int .i64 c], .agg #[.int .i64 t', .int .i64 b', .int .i64 m', .int .i64 c'], .int .i64 1] w fun e w' => e = .returned (.agg #[.int .i64 (t + t'), .int .i64 (b + b'), .int .i64 (m + m'), .int .i64 (c + c')]) ∧ Below w.heap.size w w' := by
 obtain ⟨W0, hW0, b0, hcc⟩ := sum_box w t b m c t' b' m' c'
 obtain ⟨c1, c2, c3⟩ := hcc W0 (Below.refl _ _)
 obtain ⟨y, hy⟩ : ∃ y, ((((W0.setCell ⟨w.heap.size + 1 + 1, 0, none⟩ (.int .i64 (t + t'))).setCell ⟨w.heap.size + 1 + 1, 1, none⟩ (.int .i64 (b + b'))).setCell ⟨w.heap.size + 1 + 1, 2, none⟩ (.int .i64 (m + m'))).setCell ⟨w.heap.size + 1 + 1, 3, none⟩ (.int .i64 (c + c'))) = y := ⟨_, rfl⟩
 have KY := hid (show CellsAt y (w.heap.size + 1 + 1) [.int .i64 (t + t'), .int .i64 (b + b'), .int .i64 (m + m'), .int .i64 (c + c')] by rw [← hy]; exact unit_put c3 _ _ _ _)
 have BY := hid (show Below w.heap.size w y by rw [← hy]; exact unit_below (show w.heap.size ≤ w.heap.size + 1 + 1 by omega) b0 _ _ _ _)
 have HY := hid hy; have HW := hid hW0
 obtain ⟨⟨p0, p1, p2, p3⟩, _⟩ := unit_facts c1
 obtain ⟨⟨q0, q1, q2, q3⟩, _⟩ := unit_facts c2
 obtain ⟨⟨r0, r1, r2, r3⟩, ⟨r4, r5, r6, r7⟩⟩ := unit_facts c3
 unfold InE at h0 h1 h2 h3 g0 g1 g2 g3
 obtain ⟨h0, h0'⟩ := h0; obtain ⟨h1, h1'⟩ := h1; obtain ⟨h2, h2'⟩ := h2; obtain ⟨h3, h3'⟩ := h3
 obtain ⟨g0, g0'⟩ := g0; obtain ⟨g1, g1'⟩ := g1; obtain ⟨g2, g2'⟩ := g2; obtain ⟨g3, g3'⟩ := g3
 clear hy hW0 b0 hcc c1 c2 c3
 go_enter Tryz.func54, Tryz.ntmps54
 go_upto_region 1 with (rw [HW.out])
 skip
 go_wp2_with (first | rw [HY.out])
 obtain ⟨⟨s0, s1, s2, s3⟩, _⟩ := unit_facts KY.out
 exact bodyPost_ret (v := .agg #[.int .i64 (t + t'), .int .i64 (b + b'), .int .i64 (m + m'), .int .i64 (c + c')]) (by simp [results, Tryz.results54, go_sem, s0, s1, s2, s3]) rfl ⟨rfl, BY.out⟩
theorem sumM_any (t b m c t' b' m' c' : Int) (h0 : InE t) (h1 : InE b) (h2 : InE m) (h3 : InE c) (g0 : InE t') (g1 : InE b') (g2 : InE m') (g3 : InE c') (w : World) : Calls Tryz.prog 54 #[.agg #[.int .i64 t, .int .i64 b, .int .i64 m, .int .i64 c], .agg #[.int .i64 t', .int .i64 b', .int .i64 m', .int .i64 c'], .int .i64 (-1)] w fun e w' => e = .returned (.agg #[.int .i64 (t - t'), .int .i64 (b - b'), .int .i64 (m - m'), .int .i64 (c - c')]) ∧ Below w.heap.size w w' := by
 obtain ⟨W0, hW0, b0, hcc⟩ := sum_box w t b m c t' b' m' c'
 obtain ⟨c1, c2, c3⟩ := hcc W0 (Below.refl _ _)
 obtain ⟨y, hy⟩ : ∃ y, ((((W0.setCell ⟨w.heap.size + 1 + 1, 0, none⟩ (.int .i64 (t - t'))).setCell ⟨w.heap.size + 1 + 1, 1, none⟩ (.int .i64 (b - b'))).setCell ⟨w.heap.size + 1 + 1, 2, none⟩ (.int .i64 (m - m'))).setCell ⟨w.heap.size + 1 + 1, 3, none⟩ (.int .i64 (c - c'))) = y := ⟨_, rfl⟩
 have KY := hid (show CellsAt y (w.heap.size + 1 + 1) [.int .i64 (t - t'), .int .i64 (b - b'), .int .i64 (m - m'), .int .i64 (c - c')] by rw [← hy]; exact unit_put c3 _ _ _ _)
 have BY := hid (show Below w.heap.size w y by rw [← hy]; exact unit_below (show w.heap.size ≤ w.heap.size + 1 + 1 by omega) b0 _ _ _ _)
 have HY := hid hy; have HW := hid hW0
 obtain ⟨⟨p0, p1, p2, p3⟩, _⟩ := unit_facts c1
 obtain ⟨⟨q0, q1, q2, q3⟩, _⟩ := unit_facts c2
 obtain ⟨⟨r0, r1, r2, r3⟩, ⟨r4, r5, r6, r7⟩⟩ := unit_facts c3
 unfold InE at h0 h1 h2 h3 g0 g1 g2 g3
 obtain ⟨h0, h0'⟩ := h0; obtain ⟨h1, h1'⟩ := h1; obtain ⟨h2, h2'⟩ := h2; obtain ⟨h3, h3'⟩ := h3
 obtain ⟨g0, g0'⟩ := g0; obtain ⟨g1, g1'⟩ := g1; obtain ⟨g2, g2'⟩ := g2; obtain ⟨g3, g3'⟩ := g3
 clear hy hW0 b0 hcc c1 c2 c3
 go_enter Tryz.func54, Tryz.ntmps54
 go_upto_region 1 with (rw [HW.out])
 have w0 : IntKind.i64.wrap (-t') = -t' := IntWalk.i64_in _ (by omega)
 have v0 : t + -t' = t - t' := by omega
 have w1 : IntKind.i64.wrap (-b') = -b' := IntWalk.i64_in _ (by omega)
 have v1 : b + -b' = b - b' := by omega
 have w2 : IntKind.i64.wrap (-m') = -m' := IntWalk.i64_in _ (by omega)
 have v2 : m + -m' = m - m' := by omega
 have w3 : IntKind.i64.wrap (-c') = -c' := IntWalk.i64_in _ (by omega)
 have v3 : c + -c' = c - c' := by omega
 go_wp2_with (first | rw [HY.out])
 obtain ⟨⟨s0, s1, s2, s3⟩, _⟩ := unit_facts KY.out
 exact bodyPost_ret (v := .agg #[.int .i64 (t - t'), .int .i64 (b - b'), .int .i64 (m - m'), .int .i64 (c - c')]) (by simp [results, Tryz.results54, go_sem, s0, s1, s2, s3]) rfl ⟨rfl, BY.out⟩
theorem cellsAt_allocA {W W' : World} {v : Value} {vs : List Value} {a : Array Value} {t : TypeId} (ha : a = (v :: vs).toArray) (h : Below (W.alloc (.cells a t)).drew.heap.size (W.alloc (.cells a t)).drew W') : CellsAt W' W.heap.size (v :: vs) := by
 subst ha
 exact ((cellsAt_new rfl).drew).below h
theorem cellsAt_allocB {W W' : World} {v : Value} {vs : List Value} {a : Array Value} {t : TypeId} (ha : a = (v :: vs).toArray) (h : Below (W.alloc (.cells a t)).heap.size (W.alloc (.cells a t)) W') : CellsAt W' W.heap.size (v :: vs) := by
 subst ha
 exact (cellsAt_new rfl).below h
theorem mulUR_any (n d : ByteArray) (t b m c : Int) (n' d' : ByteArray) (t' b' m' c' : Int) (h1 : n.size ≤ 1099511627776) (h2 : d.size ≤ 1099511627776) (h3 : n'.size ≤ 1099511627776) (h4 : d'.size ≤ 1099511627776) (w : World) :
 Calls Tryz.prog 22 #[.agg #[.string n, .string d, .int .i64 t, .int .i64 b, .int .i64 m, .int .i64 c], .agg #[.string n', .string d', .int .i64 t', .int .i64 b', .int .i64 m', .int .i64 c']] w fun e w' => e = .returned (.tuple #[.agg #[.string (zT ((okU n d t b m c && okU n' d' t' b' m' c') && (decide (outE (mulB n d n' d') = 0) && okU (proN n d n' d') (proD n d n' d') (t + t') (b + b') (m + m') (c + c'))) (proN n d n' d')), .string (zT ((okU n d t b m c && okU n' d' t' b' m' c') && (decide (outE (mulB n d n' d') = 0) && okU (proN n d n' d') (proD n d n' d') (t + t') (b + b') (m + m') (c + c'))) (proD n d n' d')), .int .i64 (zI ((okU n d t b m c && okU n' d' t' b' m' c') && (decide (outE (mulB n d n' d') = 0) && okU (proN n d n' d') (proD n d n' d') (t + t') (b + b') (m + m') (c + c'))) (t + t')), .int .i64 (zI ((okU n d t b m c && okU n' d' t' b' m' c') && (decide (outE (mulB n d n' d') = 0) && okU (proN n d n' d') (proD n d n' d') (t + t') (b + b') (m + m') (c + c'))) (b + b')), .int .i64 (zI ((okU n d t b m c && okU n' d' t' b' m' c') && (decide (outE (mulB n d n' d') = 0) && okU (proN n d n' d') (proD n d n' d') (t + t') (b + b') (m + m') (c + c'))) (m + m')), .int .i64 (zI ((okU n d t b m c && okU n' d' t' b' m' c') && (decide (outE (mulB n d n' d') = 0) && okU (proN n d n' d') (proD n d n' d') (t + t') (b + b') (m + m') (c + c'))) (c + c'))], .int .i64 (zE ((okU n d t b m c && okU n' d' t' b' m' c') && (decide (outE (mulB n d n' d') = 0) && okU (proN n d n' d') (proD n d n' d') (t + t') (b + b') (m + m') (c + c'))))]) ∧ Below w.heap.size w w' := by
 obtain ⟨W0, hW0, b0, hcc⟩ := three_box w n d t b m c n' d' t' b' m' c'
 have va := fun W => validUR_any n d t b m c h1 h2 W
 have vb := fun W => validUR_any n' d' t' b' m' c' h3 h4 W
 have co := fun W => mulR4_any n d n' d' h1 h2 h3 h4 W
 rw [show outN (mulB n d n' d') (valQ n d * valQ n' d') = proN n d n' d' from rfl, show outD (mulB n d n' d') (valQ n d * valQ n' d') = proD n d n' d' from rfl] at co
 have hz := pro_size n d n' d'
 generalize proN n d n' d' = VN at *
 generalize proD n d n' d' = VD at *
 generalize outE (mulB n d n' d') = VE at *
 have cr := fun W => resultR_any VN VD VE (t + t') (b + b') (m + m') (c + c') hz.1 hz.2 W
 have cs := fun (x : okE t b m c = true) (y : okE t' b' m' c' = true) W => sumP_any t b m c t' b' m' c' (okE_in x).1 (okE_in x).2.1 (okE_in x).2.2.1 (okE_in x).2.2.2 (okE_in y).1 (okE_in y).2.1 (okE_in y).2.2.1 (okE_in y).2.2.2 W
 generalize (t + t') = Y0 at *
 generalize (b + b') = Y1 at *
 generalize (m + m') = Y2 at *
 generalize (c + c') = Y3 at *
 generalize hx3 : (decide (VE = 0) && okU VN VD Y0 Y1 Y2 Y3) = x3 at *
 obtain ⟨RN, hrn⟩ : ∃ v, zT x3 VN = v := ⟨_, rfl⟩
 obtain ⟨RD, hrd⟩ : ∃ v, zT x3 VD = v := ⟨_, rfl⟩
 obtain ⟨R0, hr0⟩ : ∃ v, zI x3 Y0 = v := ⟨_, rfl⟩
 obtain ⟨R1, hr1⟩ : ∃ v, zI x3 Y1 = v := ⟨_, rfl⟩
 obtain ⟨R2, hr2⟩ : ∃ v, zI x3 Y2 = v := ⟨_, rfl⟩
 obtain ⟨R3, hr3⟩ : ∃ v, zI x3 Y3 = v := ⟨_, rfl⟩
 obtain ⟨RE, hre⟩ : ∃ v, zE x3 = v := ⟨_, rfl⟩
 rw [hrn, hrd, hr0, hr1, hr2, hr3, hre] at cr
 have HW := hid hW0; have B0 := hid b0; have HC := hid hcc; have VA := hid va; have VB := hid vb; have CO := hid co; have CR := hid cr; have CS0 := hid cs
 clear hW0 b0 hcc va vb co cr cs hz hx3
 cases hx1 : okU n d t b m c with
 | false =>
  clear hrn hrd hr0 hr1 hr2 hr3 hre
  rw [hx1] at VA
  show Calls _ _ _ _ fun e w' => e = .returned (.tuple #[.agg #[.string ⟨#[]⟩, .string ⟨#[]⟩, .int .i64 0, .int .i64 0, .int .i64 0, .int .i64 0], .int .i64 50]) ∧ _
  clear hx1
  go_enter Tryz.func22, Tryz.ntmps22
  obtain ⟨⟨p0, p1, p2, p3, p4, p5⟩, ⟨p6, p7, p8, p9, pa, pb⟩⟩ := qty_facts (HC.out W0 (Below.refl _ _)).1
  go_wp2_with (rw [HW.out])
  refine (VA.out _).mono ?_
  rintro e1 z1 ⟨rfl, b1⟩
  have B1 := hid b1
  have P1 := hid (below_up B0.out b1)
  clear b1 p0 p1 p2 p3 p4 p5 p6 p7 p8 p9 pa pb
  obtain ⟨y, hy⟩ : ∃ y, ((((((z1.setCell ⟨w.heap.size + 1 + 1, 0, none⟩ (.string ⟨#[]⟩)).setCell ⟨w.heap.size + 1 + 1, 1, none⟩ (.string ⟨#[]⟩)).setCell ⟨w.heap.size + 1 + 1, 2, none⟩ (.int .i64 0)).setCell ⟨w.heap.size + 1 + 1, 3, none⟩ (.int .i64 0)).setCell ⟨w.heap.size + 1 + 1, 4, none⟩ (.int .i64 0)).setCell ⟨w.heap.size + 1 + 1, 5, none⟩ (.int .i64 0)) = y := ⟨_, rfl⟩
  have KY := hid (show CellsAt y (w.heap.size + 1 + 1) [.string ⟨#[]⟩, .string ⟨#[]⟩, .int .i64 0, .int .i64 0, .int .i64 0, .int .i64 0] by rw [← hy]; exact qty_put (HC.out z1 B1.out).2.2 _ _ _ _ _ _)
  have BY := hid (show Below w.heap.size w y by rw [← hy]; exact qty_below (show w.heap.size ≤ w.heap.size + 1 + 1 by omega) P1.out _ _ _ _ _ _)
  have HY := hid hy
  clear hy
  obtain ⟨⟨k0, k1, k2, k3, k4, k5⟩, ⟨k6, k7, k8, k9, ka, kb⟩⟩ := qty_facts (HC.out z1 B1.out).2.2
  go_wp2_with (rw [HY.out])
  obtain ⟨⟨r0, r1, r2, r3, r4, r5⟩, _⟩ := qty_facts KY.out
  exact bodyPost_ret (v := .tuple #[.agg #[.string ⟨#[]⟩, .string ⟨#[]⟩, .int .i64 0, .int .i64 0, .int .i64 0, .int .i64 0], .int .i64 50]) (by simp [results, Tryz.results22, go_sem, r0, r1, r2, r3, r4, r5]) rfl ⟨rfl, BY.out⟩
 | true =>
  rw [hx1] at VA
  cases hx2 : okU n' d' t' b' m' c' with
  | false =>
   clear hrn hrd hr0 hr1 hr2 hr3 hre
   rw [hx2] at VB
   show Calls _ _ _ _ fun e w' => e = .returned (.tuple #[.agg #[.string ⟨#[]⟩, .string ⟨#[]⟩, .int .i64 0, .int .i64 0, .int .i64 0, .int .i64 0], .int .i64 50]) ∧ _
   clear hx1 hx2
   go_enter Tryz.func22, Tryz.ntmps22
   obtain ⟨⟨p0, p1, p2, p3, p4, p5⟩, ⟨p6, p7, p8, p9, pa, pb⟩⟩ := qty_facts (HC.out W0 (Below.refl _ _)).1
   go_wp2_with (rw [HW.out])
   refine (VA.out _).mono ?_
   rintro e1 z1 ⟨rfl, b1⟩
   have B1 := hid b1
   have P1 := hid (below_up B0.out b1)
   clear b1 p0 p1 p2 p3 p4 p5 p6 p7 p8 p9 pa pb
   obtain ⟨⟨q0, q1, q2, q3, q4, q5⟩, ⟨q6, q7, q8, q9, qa, qb⟩⟩ := qty_facts (HC.out z1 B1.out).2.1
   go_wp2_with fail
   refine (VB.out _).mono ?_
   rintro e1 z2 ⟨rfl, b2⟩
   have B2 := hid (below_up B1.out b2)
   have P2 := hid (below_up B0.out B2.out)
   clear b2 q0 q1 q2 q3 q4 q5 q6 q7 q8 q9 qa qb
   obtain ⟨y, hy⟩ : ∃ y, ((((((z2.setCell ⟨w.heap.size + 1 + 1, 0, none⟩ (.string ⟨#[]⟩)).setCell ⟨w.heap.size + 1 + 1, 1, none⟩ (.string ⟨#[]⟩)).setCell ⟨w.heap.size + 1 + 1, 2, none⟩ (.int .i64 0)).setCell ⟨w.heap.size + 1 + 1, 3, none⟩ (.int .i64 0)).setCell ⟨w.heap.size + 1 + 1, 4, none⟩ (.int .i64 0)).setCell ⟨w.heap.size + 1 + 1, 5, none⟩ (.int .i64 0)) = y := ⟨_, rfl⟩
   have KY := hid (show CellsAt y (w.heap.size + 1 + 1) [.string ⟨#[]⟩, .string ⟨#[]⟩, .int .i64 0, .int .i64 0, .int .i64 0, .int .i64 0] by rw [← hy]; exact qty_put (HC.out z2 B2.out).2.2 _ _ _ _ _ _)
   have BY := hid (show Below w.heap.size w y by rw [← hy]; exact qty_below (show w.heap.size ≤ w.heap.size + 1 + 1 by omega) P2.out _ _ _ _ _ _)
   have HY := hid hy
   clear hy
   obtain ⟨⟨k0, k1, k2, k3, k4, k5⟩, ⟨k6, k7, k8, k9, ka, kb⟩⟩ := qty_facts (HC.out z2 B2.out).2.2
   go_wp2_with (rw [HY.out])
   obtain ⟨⟨r0, r1, r2, r3, r4, r5⟩, _⟩ := qty_facts KY.out
   exact bodyPost_ret (v := .tuple #[.agg #[.string ⟨#[]⟩, .string ⟨#[]⟩, .int .i64 0, .int .i64 0, .int .i64 0, .int .i64 0], .int .i64 50]) (by simp [results, Tryz.results22, go_sem, r0, r1, r2, r3, r4, r5]) rfl ⟨rfl, BY.out⟩
  | true =>
   rw [hx2] at VB
   have CS := hid (CS0.out (okU_parts hx1).1 (okU_parts hx2).1)
   clear hx1 hx2
   show Calls _ _ _ _ fun e w' => e = .returned (.tuple #[.agg #[.string (zT x3 VN), .string (zT x3 VD), .int .i64 (zI x3 Y0), .int .i64 (zI x3 Y1), .int .i64 (zI x3 Y2), .int .i64 (zI x3 Y3)], .int .i64 (zE x3)]) ∧ _
   rw [hrn, hrd, hr0, hr1, hr2, hr3, hre]
   clear hrn hrd hr0 hr1 hr2 hr3 hre
   go_enter Tryz.func22, Tryz.ntmps22
   obtain ⟨⟨p0, p1, p2, p3, p4, p5⟩, ⟨p6, p7, p8, p9, pa, pb⟩⟩ := qty_facts (HC.out W0 (Below.refl _ _)).1
   go_wp2_with (rw [HW.out])
   refine (VA.out _).mono ?_
   rintro e1 z1 ⟨rfl, b1⟩
   have B1 := hid b1
   have P1 := hid (below_up B0.out b1)
   clear b1 p0 p1 p2 p3 p4 p5 p6 p7 p8 p9 pa pb
   obtain ⟨⟨q0, q1, q2, q3, q4, q5⟩, ⟨q6, q7, q8, q9, qa, qb⟩⟩ := qty_facts (HC.out z1 B1.out).2.1
   go_wp2_with fail
   refine (VB.out _).mono ?_
   rintro e1 z2 ⟨rfl, b2⟩
   have B2 := hid (below_up B1.out b2)
   have P2 := hid (below_up B0.out B2.out)
   clear b2 q0 q1 q2 q3 q4 q5 q6 q7 q8 q9 qa qb
   obtain ⟨⟨p0, p1, p2, p3, p4, p5⟩, ⟨p6, p7, p8, p9, pa, pb⟩⟩ := qty_facts (HC.out z2 B2.out).1
   obtain ⟨⟨q0, q1, q2, q3, q4, q5⟩, ⟨q6, q7, q8, q9, qa, qb⟩⟩ := qty_facts (HC.out z2 B2.out).2.1
   go_wp2_with fail
   refine (CO.out _).mono ?_
   rintro e1 z3 ⟨rfl, b3⟩
   obtain ⟨z4, hz4, b4, f4⟩ := box_one z3 VN VD
   have V4 := hid hz4; have F4 := hid f4
   have B4 := hid (below_up B2.out (below_up b3 b4))
   have P4 := hid (below_up B0.out B4.out)
   clear b3 b4 hz4 f4 p0 p1 p2 p3 p4 p5 p6 p7 p8 p9 pa pb q0 q1 q2 q3 q4 q5 q6 q7 q8 q9 qa qb
   go_upto_region 4 with (rw [V4.out])
   go_cut [8, 9] from 27 to 37 (fun sp se wx => se = .int .i64 RE ∧ ∃ A : Nat, sp = .pointer (some ⟨A, 0, none⟩) ∧ Hid (CellsAt wx A [.string RN, .string RD, .int .i64 R0, .int .i64 R1, .int .i64 R2, .int .i64 R3]) ∧ Hid (Below z4.heap.size z4 wx))
   case first =>
    have K3 := hid (show ∀ W, Below z4.heap.size z4 W → ((W.cell? ⟨z3.heap.size, 0, none⟩ = some (.string VN) ∧ W.cell? ⟨z3.heap.size, 1, none⟩ = some (.string VD)) ∧ (W.cell? ⟨w.heap.size, 2, none⟩ = some (.int .i64 t) ∧ W.cell? ⟨w.heap.size, 3, none⟩ = some (.int .i64 b) ∧ W.cell? ⟨w.heap.size, 4, none⟩ = some (.int .i64 m) ∧ W.cell? ⟨w.heap.size, 5, none⟩ = some (.int .i64 c)) ∧ (W.cell? ⟨w.heap.size + 1, 2, none⟩ = some (.int .i64 t') ∧ W.cell? ⟨w.heap.size + 1, 3, none⟩ = some (.int .i64 b') ∧ W.cell? ⟨w.heap.size + 1, 4, none⟩ = some (.int .i64 m') ∧ W.cell? ⟨w.heap.size + 1, 5, none⟩ = some (.int .i64 c'))) from fun W b => by
     have h := HC.out W (below_up B4.out b)
     exact ⟨⟨(F4.out W b).1, (F4.out W b).2.1⟩, ⟨(h.1 2 (by simp)).1, (h.1 3 (by simp)).1, (h.1 4 (by simp)).1, (h.1 5 (by simp)).1⟩, (h.2.1 2 (by simp)).1, (h.2.1 3 (by simp)).1, (h.2.1 4 (by simp)).1, (h.2.1 5 (by simp)).1⟩)
    go_region_held3 (fun W => (W.cell? ⟨z3.heap.size, 0, none⟩ = some (.string VN) ∧ W.cell? ⟨z3.heap.size, 1, none⟩ = some (.string VD)) ∧ (W.cell? ⟨w.heap.size, 2, none⟩ = some (.int .i64 t) ∧ W.cell? ⟨w.heap.size, 3, none⟩ = some (.int .i64 b) ∧ W.cell? ⟨w.heap.size, 4, none⟩ = some (.int .i64 m) ∧ W.cell? ⟨w.heap.size, 5, none⟩ = some (.int .i64 c)) ∧ (W.cell? ⟨w.heap.size + 1, 2, none⟩ = some (.int .i64 t') ∧ W.cell? ⟨w.heap.size + 1, 3, none⟩ = some (.int .i64 b') ∧ W.cell? ⟨w.heap.size + 1, 4, none⟩ = some (.int .i64 m') ∧ W.cell? ⟨w.heap.size + 1, 5, none⟩ = some (.int .i64 c'))) (first | with_reducible exact K3.out _ h2 | with_reducible exact K3.out _ (h2.alloc h2.size _) | with_reducible exact K3.out _ (qty_below (Nat.le_refl _) h2 _ _ _ _ _ _) | with_reducible exact K3.out _ (qty_below h1.size h2 _ _ _ _ _ _) | with_reducible exact K3.out _ h1 | with_reducible exact K3.out _ (h1.alloc h1.size _) | with_reducible exact K3.out _ (((Below.refl _ _).alloc (Nat.le_refl _) _).drew) | with_reducible exact K3.out _ ((Below.refl _ _).drew.alloc (Nat.le_refl _) _) | with_reducible exact K3.out _ (Below.refl _ _).drew | with_reducible exact K3.out _ (Below.refl _ _)) (first | (go_at_call 54; (with_reducible refine (CS.out _).mono ?_); (rintro e1 y1 ⟨rfl, hb1'⟩); (have h1 : Below z4.heap.size z4 y1 := below_up (by first | with_reducible exact (Below.refl _ _).drew | with_reducible exact ((Below.refl _ _).alloc (Nat.le_refl _) _).drew | with_reducible exact ((Below.refl _ _).drew.alloc (Nat.le_refl _) _) | with_reducible exact Below.refl _ _ | with_reducible exact (Below.refl _ _).alloc (Nat.le_refl _) _) hb1'); (first | (have e2 : CellsAt y1 z4.heap.size [.string ⟨#[]⟩, .string ⟨#[]⟩, .int .i64 0, .int .i64 0, .int .i64 0, .int .i64 0] := (by with_reducible exact cellsAt_allocA rfl hb1')) | (have e2 : CellsAt y1 z4.heap.size [.string ⟨#[]⟩, .string ⟨#[]⟩, .int .i64 0, .int .i64 0, .int .i64 0, .int .i64 0] := (by with_reducible exact cellsAt_allocB (W := z4.drew) rfl hb1')) | skip)) | (go_at_call 48; (with_reducible refine (CR.out _).mono ?_); (rintro e1 y2 ⟨rfl, hb2'⟩); (have h2 : Below z4.heap.size z4 y2 := below_up (by first | with_reducible exact h1 | with_reducible exact h1.alloc h1.size _) hb2'); (first | ((have e3 := CellsAt.below e2 hb2'); (obtain ⟨_, ⟨q0, q1, q2, q3, q4, q5⟩⟩ := qty_facts e3); (obtain ⟨⟨k0, k1, k2, k3, k4, k5⟩, _⟩ := qty_facts e3)) | ((have e3 : CellsAt y2 y1.heap.size [.string ⟨#[]⟩, .string ⟨#[]⟩, .int .i64 0, .int .i64 0, .int .i64 0, .int .i64 0] := (by with_reducible exact cellsAt_allocB rfl hb2')); (obtain ⟨_, ⟨q0, q1, q2, q3, q4, q5⟩⟩ := qty_facts e3); (obtain ⟨⟨k0, k1, k2, k3, k4, k5⟩, _⟩ := qty_facts e3)) | skip)))
    all_goals (go_wp2_with fail; go_meet; exact ⟨rfl, _, rfl, hid (by first | with_reducible exact qty_put e3 _ _ _ _ _ _ | with_reducible exact cellsAt_new rfl | exact cellsAt_new rfl), hid (by first | with_reducible exact qty_below (Nat.le_refl _) h2 _ _ _ _ _ _ | with_reducible exact qty_below h1.size h2 _ _ _ _ _ _ | with_reducible exact h2.alloc h2.size _ | exact h2.alloc h2.size _)⟩)
   obtain ⟨rfl, AQ, rfl, hq, hbx⟩ := hcut
   generalize wc = z6 at *
   have F6 := hq
   have B6 := hid (below_up B4.out hbx.out)
   have P6 := hid (below_up B0.out B6.out)
   clear hq hbx
   obtain ⟨⟨s0, s1, s2, s3, s4, s5⟩, ⟨s6, s7, s8, s9, sa, sb⟩⟩ := qty_facts F6.out
   obtain ⟨y, hy⟩ : ∃ y, ((((((z6.setCell ⟨w.heap.size + 1 + 1, 0, none⟩ (.string RN)).setCell ⟨w.heap.size + 1 + 1, 1, none⟩ (.string RD)).setCell ⟨w.heap.size + 1 + 1, 2, none⟩ (.int .i64 R0)).setCell ⟨w.heap.size + 1 + 1, 3, none⟩ (.int .i64 R1)).setCell ⟨w.heap.size + 1 + 1, 4, none⟩ (.int .i64 R2)).setCell ⟨w.heap.size + 1 + 1, 5, none⟩ (.int .i64 R3)) = y := ⟨_, rfl⟩
   have KY := hid (show CellsAt y (w.heap.size + 1 + 1) [.string RN, .string RD, .int .i64 R0, .int .i64 R1, .int .i64 R2, .int .i64 R3] by rw [← hy]; exact qty_put (HC.out z6 B6.out).2.2 _ _ _ _ _ _)
   have BY := hid (show Below w.heap.size w y by rw [← hy]; exact qty_below (show w.heap.size ≤ w.heap.size + 1 + 1 by omega) P6.out _ _ _ _ _ _)
   have HY := hid hy
   clear hy
   obtain ⟨⟨k0, k1, k2, k3, k4, k5⟩, ⟨k6, k7, k8, k9, ka, kb⟩⟩ := qty_facts (HC.out z6 B6.out).2.2
   go_wp2_with (rw [HY.out])
   obtain ⟨⟨r0, r1, r2, r3, r4, r5⟩, _⟩ := qty_facts KY.out
   exact bodyPost_ret (v := .tuple #[.agg #[.string RN, .string RD, .int .i64 R0, .int .i64 R1, .int .i64 R2, .int .i64 R3], .int .i64 RE]) (by simp [results, Tryz.results22, go_sem, r0, r1, r2, r3, r4, r5]) rfl ⟨rfl, BY.out⟩
theorem divUR_any (n d : ByteArray) (t b m c : Int) (n' d' : ByteArray) (t' b' m' c' : Int) (h1 : n.size ≤ 1099511627776) (h2 : d.size ≤ 1099511627776) (h3 : n'.size ≤ 1099511627776) (h4 : d'.size ≤ 1099511627776) (w : World) :
 Calls Tryz.prog 24 #[.agg #[.string n, .string d, .int .i64 t, .int .i64 b, .int .i64 m, .int .i64 c], .agg #[.string n', .string d', .int .i64 t', .int .i64 b', .int .i64 m', .int .i64 c']] w fun e w' => e = .returned (.tuple #[.agg #[.string (zT ((okU n d t b m c && okU n' d' t' b' m' c') && (decide (outE (divB n d n' d') = 0) && okU (quoN n d n' d') (quoD n d n' d') (t - t') (b - b') (m - m') (c - c'))) (quoN n d n' d')), .string (zT ((okU n d t b m c && okU n' d' t' b' m' c') && (decide (outE (divB n d n' d') = 0) && okU (quoN n d n' d') (quoD n d n' d') (t - t') (b - b') (m - m') (c - c'))) (quoD n d n' d')), .int .i64 (zI ((okU n d t b m c && okU n' d' t' b' m' c') && (decide (outE (divB n d n' d') = 0) && okU (quoN n d n' d') (quoD n d n' d') (t - t') (b - b') (m - m') (c - c'))) (t - t')), .int .i64 (zI ((okU n d t b m c && okU n' d' t' b' m' c') && (decide (outE (divB n d n' d') = 0) && okU (quoN n d n' d') (quoD n d n' d') (t - t') (b - b') (m - m') (c - c'))) (b - b')), .int .i64 (zI ((okU n d t b m c && okU n' d' t' b' m' c') && (decide (outE (divB n d n' d') = 0) && okU (quoN n d n' d') (quoD n d n' d') (t - t') (b - b') (m - m') (c - c'))) (m - m')), .int .i64 (zI ((okU n d t b m c && okU n' d' t' b' m' c') && (decide (outE (divB n d n' d') = 0) && okU (quoN n d n' d') (quoD n d n' d') (t - t') (b - b') (m - m') (c - c'))) (c - c'))], .int .i64 (zE ((okU n d t b m c && okU n' d' t' b' m' c') && (decide (outE (divB n d n' d') = 0) && okU (quoN n d n' d') (quoD n d n' d') (t - t') (b - b') (m - m') (c - c'))))]) ∧ Below w.heap.size w w' := by
 obtain ⟨W0, hW0, b0, hcc⟩ := three_box w n d t b m c n' d' t' b' m' c'
 have va := fun W => validUR_any n d t b m c h1 h2 W
 have vb := fun W => validUR_any n' d' t' b' m' c' h3 h4 W
 have co := fun W => divR4_any n d n' d' h1 h2 h3 h4 W
 rw [show outN (divB n d n' d') (valQ n d / valQ n' d') = quoN n d n' d' from rfl, show outD (divB n d n' d') (valQ n d / valQ n' d') = quoD n d n' d' from rfl] at co
 have hz := quo_size n d n' d'
 generalize quoN n d n' d' = VN at *
 generalize quoD n d n' d' = VD at *
 generalize outE (divB n d n' d') = VE at *
 have cr := fun W => resultR_any VN VD VE (t - t') (b - b') (m - m') (c - c') hz.1 hz.2 W
 have cs := fun (x : okE t b m c = true) (y : okE t' b' m' c' = true) W => sumM_any t b m c t' b' m' c' (okE_in x).1 (okE_in x).2.1 (okE_in x).2.2.1 (okE_in x).2.2.2 (okE_in y).1 (okE_in y).2.1 (okE_in y).2.2.1 (okE_in y).2.2.2 W
 generalize (t - t') = Y0 at *
 generalize (b - b') = Y1 at *
 generalize (m - m') = Y2 at *
 generalize (c - c') = Y3 at *
 generalize hx3 : (decide (VE = 0) && okU VN VD Y0 Y1 Y2 Y3) = x3 at *
 obtain ⟨RN, hrn⟩ : ∃ v, zT x3 VN = v := ⟨_, rfl⟩
 obtain ⟨RD, hrd⟩ : ∃ v, zT x3 VD = v := ⟨_, rfl⟩
 obtain ⟨R0, hr0⟩ : ∃ v, zI x3 Y0 = v := ⟨_, rfl⟩
 obtain ⟨R1, hr1⟩ : ∃ v, zI x3 Y1 = v := ⟨_, rfl⟩
 obtain ⟨R2, hr2⟩ : ∃ v, zI x3 Y2 = v := ⟨_, rfl⟩
 obtain ⟨R3, hr3⟩ : ∃ v, zI x3 Y3 = v := ⟨_, rfl⟩
 obtain ⟨RE, hre⟩ : ∃ v, zE x3 = v := ⟨_, rfl⟩
 rw [hrn, hrd, hr0, hr1, hr2, hr3, hre] at cr
 have HW := hid hW0; have B0 := hid b0; have HC := hid hcc; have VA := hid va; have VB := hid vb; have CO := hid co; have CR := hid cr; have CS0 := hid cs
 clear hW0 b0 hcc va vb co cr cs hz hx3
 cases hx1 : okU n d t b m c with
 | false =>
  clear hrn hrd hr0 hr1 hr2 hr3 hre
  rw [hx1] at VA
  show Calls _ _ _ _ fun e w' => e = .returned (.tuple #[.agg #[.string ⟨#[]⟩, .string ⟨#[]⟩, .int .i64 0, .int .i64 0, .int .i64 0, .int .i64 0], .int .i64 50]) ∧ _
  clear hx1
  go_enter Tryz.func24, Tryz.ntmps24
  obtain ⟨⟨p0, p1, p2, p3, p4, p5⟩, ⟨p6, p7, p8, p9, pa, pb⟩⟩ := qty_facts (HC.out W0 (Below.refl _ _)).1
  go_wp2_with (rw [HW.out])
  refine (VA.out _).mono ?_
  rintro e1 z1 ⟨rfl, b1⟩
  have B1 := hid b1
  have P1 := hid (below_up B0.out b1)
  clear b1 p0 p1 p2 p3 p4 p5 p6 p7 p8 p9 pa pb
  obtain ⟨y, hy⟩ : ∃ y, ((((((z1.setCell ⟨w.heap.size + 1 + 1, 0, none⟩ (.string ⟨#[]⟩)).setCell ⟨w.heap.size + 1 + 1, 1, none⟩ (.string ⟨#[]⟩)).setCell ⟨w.heap.size + 1 + 1, 2, none⟩ (.int .i64 0)).setCell ⟨w.heap.size + 1 + 1, 3, none⟩ (.int .i64 0)).setCell ⟨w.heap.size + 1 + 1, 4, none⟩ (.int .i64 0)).setCell ⟨w.heap.size + 1 + 1, 5, none⟩ (.int .i64 0)) = y := ⟨_, rfl⟩
  have KY := hid (show CellsAt y (w.heap.size + 1 + 1) [.string ⟨#[]⟩, .string ⟨#[]⟩, .int .i64 0, .int .i64 0, .int .i64 0, .int .i64 0] by rw [← hy]; exact qty_put (HC.out z1 B1.out).2.2 _ _ _ _ _ _)
  have BY := hid (show Below w.heap.size w y by rw [← hy]; exact qty_below (show w.heap.size ≤ w.heap.size + 1 + 1 by omega) P1.out _ _ _ _ _ _)
  have HY := hid hy
  clear hy
  obtain ⟨⟨k0, k1, k2, k3, k4, k5⟩, ⟨k6, k7, k8, k9, ka, kb⟩⟩ := qty_facts (HC.out z1 B1.out).2.2
  go_wp2_with (rw [HY.out])
  obtain ⟨⟨r0, r1, r2, r3, r4, r5⟩, _⟩ := qty_facts KY.out
  exact bodyPost_ret (v := .tuple #[.agg #[.string ⟨#[]⟩, .string ⟨#[]⟩, .int .i64 0, .int .i64 0, .int .i64 0, .int .i64 0], .int .i64 50]) (by simp [results, Tryz.results24, go_sem, r0, r1, r2, r3, r4, r5]) rfl ⟨rfl, BY.out⟩
 | true =>
  rw [hx1] at VA
  cases hx2 : okU n' d' t' b' m' c' with
  | false =>
   clear hrn hrd hr0 hr1 hr2 hr3 hre
   rw [hx2] at VB
   show Calls _ _ _ _ fun e w' => e = .returned (.tuple #[.agg #[.string ⟨#[]⟩, .string ⟨#[]⟩, .int .i64 0, .int .i64 0, .int .i64 0, .int .i64 0], .int .i64 50]) ∧ _
   clear hx1 hx2
   go_enter Tryz.func24, Tryz.ntmps24
   obtain ⟨⟨p0, p1, p2, p3, p4, p5⟩, ⟨p6, p7, p8, p9, pa, pb⟩⟩ := qty_facts (HC.out W0 (Below.refl _ _)).1
   go_wp2_with (rw [HW.out])
   refine (VA.out _).mono ?_
   rintro e1 z1 ⟨rfl, b1⟩
   have B1 := hid b1
   have P1 := hid (below_up B0.out b1)
   clear b1 p0 p1 p2 p3 p4 p5 p6 p7 p8 p9 pa pb
   obtain ⟨⟨q0, q1, q2, q3, q4, q5⟩, ⟨q6, q7, q8, q9, qa, qb⟩⟩ := qty_facts (HC.out z1 B1.out).2.1
   go_wp2_with fail
   refine (VB.out _).mono ?_
   rintro e1 z2 ⟨rfl, b2⟩
   have B2 := hid (below_up B1.out b2)
   have P2 := hid (below_up B0.out B2.out)
   clear b2 q0 q1 q2 q3 q4 q5 q6 q7 q8 q9 qa qb
   obtain ⟨y, hy⟩ : ∃ y, ((((((z2.setCell ⟨w.heap.size + 1 + 1, 0, none⟩ (.string ⟨#[]⟩)).setCell ⟨w.heap.size + 1 + 1, 1, none⟩ (.string ⟨#[]⟩)).setCell ⟨w.heap.size + 1 + 1, 2, none⟩ (.int .i64 0)).setCell ⟨w.heap.size + 1 + 1, 3, none⟩ (.int .i64 0)).setCell ⟨w.heap.size + 1 + 1, 4, none⟩ (.int .i64 0)).setCell ⟨w.heap.size + 1 + 1, 5, none⟩ (.int .i64 0)) = y := ⟨_, rfl⟩
   have KY := hid (show CellsAt y (w.heap.size + 1 + 1) [.string ⟨#[]⟩, .string ⟨#[]⟩, .int .i64 0, .int .i64 0, .int .i64 0, .int .i64 0] by rw [← hy]; exact qty_put (HC.out z2 B2.out).2.2 _ _ _ _ _ _)
   have BY := hid (show Below w.heap.size w y by rw [← hy]; exact qty_below (show w.heap.size ≤ w.heap.size + 1 + 1 by omega) P2.out _ _ _ _ _ _)
   have HY := hid hy
   clear hy
   obtain ⟨⟨k0, k1, k2, k3, k4, k5⟩, ⟨k6, k7, k8, k9, ka, kb⟩⟩ := qty_facts (HC.out z2 B2.out).2.2
   go_wp2_with (rw [HY.out])
   obtain ⟨⟨r0, r1, r2, r3, r4, r5⟩, _⟩ := qty_facts KY.out
   exact bodyPost_ret (v := .tuple #[.agg #[.string ⟨#[]⟩, .string ⟨#[]⟩, .int .i64 0, .int .i64 0, .int .i64 0, .int .i64 0], .int .i64 50]) (by simp [results, Tryz.results24, go_sem, r0, r1, r2, r3, r4, r5]) rfl ⟨rfl, BY.out⟩
  | true =>
   rw [hx2] at VB
   have CS := hid (CS0.out (okU_parts hx1).1 (okU_parts hx2).1)
   clear hx1 hx2
   show Calls _ _ _ _ fun e w' => e = .returned (.tuple #[.agg #[.string (zT x3 VN), .string (zT x3 VD), .int .i64 (zI x3 Y0), .int .i64 (zI x3 Y1), .int .i64 (zI x3 Y2), .int .i64 (zI x3 Y3)], .int .i64 (zE x3)]) ∧ _
   rw [hrn, hrd, hr0, hr1, hr2, hr3, hre]
   clear hrn hrd hr0 hr1 hr2 hr3 hre
   go_enter Tryz.func24, Tryz.ntmps24
   obtain ⟨⟨p0, p1, p2, p3, p4, p5⟩, ⟨p6, p7, p8, p9, pa, pb⟩⟩ := qty_facts (HC.out W0 (Below.refl _ _)).1
   go_wp2_with (rw [HW.out])
   refine (VA.out _).mono ?_
   rintro e1 z1 ⟨rfl, b1⟩
   have B1 := hid b1
   have P1 := hid (below_up B0.out b1)
   clear b1 p0 p1 p2 p3 p4 p5 p6 p7 p8 p9 pa pb
   obtain ⟨⟨q0, q1, q2, q3, q4, q5⟩, ⟨q6, q7, q8, q9, qa, qb⟩⟩ := qty_facts (HC.out z1 B1.out).2.1
   go_wp2_with fail
   refine (VB.out _).mono ?_
   rintro e1 z2 ⟨rfl, b2⟩
   have B2 := hid (below_up B1.out b2)
   have P2 := hid (below_up B0.out B2.out)
   clear b2 q0 q1 q2 q3 q4 q5 q6 q7 q8 q9 qa qb
   obtain ⟨⟨p0, p1, p2, p3, p4, p5⟩, ⟨p6, p7, p8, p9, pa, pb⟩⟩ := qty_facts (HC.out z2 B2.out).1
   obtain ⟨⟨q0, q1, q2, q3, q4, q5⟩, ⟨q6, q7, q8, q9, qa, qb⟩⟩ := qty_facts (HC.out z2 B2.out).2.1
   go_wp2_with fail
   refine (CO.out _).mono ?_
   rintro e1 z3 ⟨rfl, b3⟩
   obtain ⟨z4, hz4, b4, f4⟩ := box_one z3 VN VD
   have V4 := hid hz4; have F4 := hid f4
   have B4 := hid (below_up B2.out (below_up b3 b4))
   have P4 := hid (below_up B0.out B4.out)
   clear b3 b4 hz4 f4 p0 p1 p2 p3 p4 p5 p6 p7 p8 p9 pa pb q0 q1 q2 q3 q4 q5 q6 q7 q8 q9 qa qb
   go_upto_region 4 with (rw [V4.out])
   go_cut [8, 9] from 27 to 37 (fun sp se wx => se = .int .i64 RE ∧ ∃ A : Nat, sp = .pointer (some ⟨A, 0, none⟩) ∧ Hid (CellsAt wx A [.string RN, .string RD, .int .i64 R0, .int .i64 R1, .int .i64 R2, .int .i64 R3]) ∧ Hid (Below z4.heap.size z4 wx))
   case first =>
    have K3 := hid (show ∀ W, Below z4.heap.size z4 W → ((W.cell? ⟨z3.heap.size, 0, none⟩ = some (.string VN) ∧ W.cell? ⟨z3.heap.size, 1, none⟩ = some (.string VD)) ∧ (W.cell? ⟨w.heap.size, 2, none⟩ = some (.int .i64 t) ∧ W.cell? ⟨w.heap.size, 3, none⟩ = some (.int .i64 b) ∧ W.cell? ⟨w.heap.size, 4, none⟩ = some (.int .i64 m) ∧ W.cell? ⟨w.heap.size, 5, none⟩ = some (.int .i64 c)) ∧ (W.cell? ⟨w.heap.size + 1, 2, none⟩ = some (.int .i64 t') ∧ W.cell? ⟨w.heap.size + 1, 3, none⟩ = some (.int .i64 b') ∧ W.cell? ⟨w.heap.size + 1, 4, none⟩ = some (.int .i64 m') ∧ W.cell? ⟨w.heap.size + 1, 5, none⟩ = some (.int .i64 c'))) from fun W b => by
     have h := HC.out W (below_up B4.out b)
     exact ⟨⟨(F4.out W b).1, (F4.out W b).2.1⟩, ⟨(h.1 2 (by simp)).1, (h.1 3 (by simp)).1, (h.1 4 (by simp)).1, (h.1 5 (by simp)).1⟩, (h.2.1 2 (by simp)).1, (h.2.1 3 (by simp)).1, (h.2.1 4 (by simp)).1, (h.2.1 5 (by simp)).1⟩)
    go_region_held3 (fun W => (W.cell? ⟨z3.heap.size, 0, none⟩ = some (.string VN) ∧ W.cell? ⟨z3.heap.size, 1, none⟩ = some (.string VD)) ∧ (W.cell? ⟨w.heap.size, 2, none⟩ = some (.int .i64 t) ∧ W.cell? ⟨w.heap.size, 3, none⟩ = some (.int .i64 b) ∧ W.cell? ⟨w.heap.size, 4, none⟩ = some (.int .i64 m) ∧ W.cell? ⟨w.heap.size, 5, none⟩ = some (.int .i64 c)) ∧ (W.cell? ⟨w.heap.size + 1, 2, none⟩ = some (.int .i64 t') ∧ W.cell? ⟨w.heap.size + 1, 3, none⟩ = some (.int .i64 b') ∧ W.cell? ⟨w.heap.size + 1, 4, none⟩ = some (.int .i64 m') ∧ W.cell? ⟨w.heap.size + 1, 5, none⟩ = some (.int .i64 c'))) (first | with_reducible exact K3.out _ h2 | with_reducible exact K3.out _ (h2.alloc h2.size _) | with_reducible exact K3.out _ (qty_below (Nat.le_refl _) h2 _ _ _ _ _ _) | with_reducible exact K3.out _ (qty_below h1.size h2 _ _ _ _ _ _) | with_reducible exact K3.out _ h1 | with_reducible exact K3.out _ (h1.alloc h1.size _) | with_reducible exact K3.out _ (((Below.refl _ _).alloc (Nat.le_refl _) _).drew) | with_reducible exact K3.out _ ((Below.refl _ _).drew.alloc (Nat.le_refl _) _) | with_reducible exact K3.out _ (Below.refl _ _).drew | with_reducible exact K3.out _ (Below.refl _ _)) (first | (go_at_call 54; (with_reducible refine (CS.out _).mono ?_); (rintro e1 y1 ⟨rfl, hb1'⟩); (have h1 : Below z4.heap.size z4 y1 := below_up (by first | with_reducible exact (Below.refl _ _).drew | with_reducible exact ((Below.refl _ _).alloc (Nat.le_refl _) _).drew | with_reducible exact ((Below.refl _ _).drew.alloc (Nat.le_refl _) _) | with_reducible exact Below.refl _ _ | with_reducible exact (Below.refl _ _).alloc (Nat.le_refl _) _) hb1'); (first | (have e2 : CellsAt y1 z4.heap.size [.string ⟨#[]⟩, .string ⟨#[]⟩, .int .i64 0, .int .i64 0, .int .i64 0, .int .i64 0] := (by with_reducible exact cellsAt_allocA rfl hb1')) | (have e2 : CellsAt y1 z4.heap.size [.string ⟨#[]⟩, .string ⟨#[]⟩, .int .i64 0, .int .i64 0, .int .i64 0, .int .i64 0] := (by with_reducible exact cellsAt_allocB (W := z4.drew) rfl hb1')) | skip)) | (go_at_call 48; (with_reducible refine (CR.out _).mono ?_); (rintro e1 y2 ⟨rfl, hb2'⟩); (have h2 : Below z4.heap.size z4 y2 := below_up (by first | with_reducible exact h1 | with_reducible exact h1.alloc h1.size _) hb2'); (first | ((have e3 := CellsAt.below e2 hb2'); (obtain ⟨_, ⟨q0, q1, q2, q3, q4, q5⟩⟩ := qty_facts e3); (obtain ⟨⟨k0, k1, k2, k3, k4, k5⟩, _⟩ := qty_facts e3)) | ((have e3 : CellsAt y2 y1.heap.size [.string ⟨#[]⟩, .string ⟨#[]⟩, .int .i64 0, .int .i64 0, .int .i64 0, .int .i64 0] := (by with_reducible exact cellsAt_allocB rfl hb2')); (obtain ⟨_, ⟨q0, q1, q2, q3, q4, q5⟩⟩ := qty_facts e3); (obtain ⟨⟨k0, k1, k2, k3, k4, k5⟩, _⟩ := qty_facts e3)) | skip)))
    all_goals (go_wp2_with fail; go_meet; exact ⟨rfl, _, rfl, hid (by first | with_reducible exact qty_put e3 _ _ _ _ _ _ | with_reducible exact cellsAt_new rfl | exact cellsAt_new rfl), hid (by first | with_reducible exact qty_below (Nat.le_refl _) h2 _ _ _ _ _ _ | with_reducible exact qty_below h1.size h2 _ _ _ _ _ _ | with_reducible exact h2.alloc h2.size _ | exact h2.alloc h2.size _)⟩)
   obtain ⟨rfl, AQ, rfl, hq, hbx⟩ := hcut
   generalize wc = z6 at *
   have F6 := hq
   have B6 := hid (below_up B4.out hbx.out)
   have P6 := hid (below_up B0.out B6.out)
   clear hq hbx
   obtain ⟨⟨s0, s1, s2, s3, s4, s5⟩, ⟨s6, s7, s8, s9, sa, sb⟩⟩ := qty_facts F6.out
   obtain ⟨y, hy⟩ : ∃ y, ((((((z6.setCell ⟨w.heap.size + 1 + 1, 0, none⟩ (.string RN)).setCell ⟨w.heap.size + 1 + 1, 1, none⟩ (.string RD)).setCell ⟨w.heap.size + 1 + 1, 2, none⟩ (.int .i64 R0)).setCell ⟨w.heap.size + 1 + 1, 3, none⟩ (.int .i64 R1)).setCell ⟨w.heap.size + 1 + 1, 4, none⟩ (.int .i64 R2)).setCell ⟨w.heap.size + 1 + 1, 5, none⟩ (.int .i64 R3)) = y := ⟨_, rfl⟩
   have KY := hid (show CellsAt y (w.heap.size + 1 + 1) [.string RN, .string RD, .int .i64 R0, .int .i64 R1, .int .i64 R2, .int .i64 R3] by rw [← hy]; exact qty_put (HC.out z6 B6.out).2.2 _ _ _ _ _ _)
   have BY := hid (show Below w.heap.size w y by rw [← hy]; exact qty_below (show w.heap.size ≤ w.heap.size + 1 + 1 by omega) P6.out _ _ _ _ _ _)
   have HY := hid hy
   clear hy
   obtain ⟨⟨k0, k1, k2, k3, k4, k5⟩, ⟨k6, k7, k8, k9, ka, kb⟩⟩ := qty_facts (HC.out z6 B6.out).2.2
   go_wp2_with (rw [HY.out])
   obtain ⟨⟨r0, r1, r2, r3, r4, r5⟩, _⟩ := qty_facts KY.out
   exact bodyPost_ret (v := .tuple #[.agg #[.string RN, .string RD, .int .i64 R0, .int .i64 R1, .int .i64 R2, .int .i64 R3], .int .i64 RE]) (by simp [results, Tryz.results24, go_sem, r0, r1, r2, r3, r4, r5]) rfl ⟨rfl, BY.out⟩
theorem two_qty (w : World) (n d : ByteArray) (t b m c : Int) (n' d' : ByteArray) (t' b' m' c' : Int) : ∃ W0, (w.alloc (.cells #[.string n, .string d, .int .i64 t, .int .i64 b, .int .i64 m, .int .i64 c] 27)).alloc (.cells #[.string n', .string d', .int .i64 t', .int .i64 b', .int .i64 m', .int .i64 c'] 27) = W0 ∧ Below w.heap.size w W0 ∧
 ∀ W, Below W0.heap.size W0 W → CellsAt W w.heap.size [.string n, .string d, .int .i64 t, .int .i64 b, .int .i64 m, .int .i64 c] ∧ CellsAt W (w.heap.size + 1) [.string n', .string d', .int .i64 t', .int .i64 b', .int .i64 m', .int .i64 c'] := by
 obtain ⟨W1, h1⟩ : ∃ W, w.alloc (.cells #[.string n, .string d, .int .i64 t, .int .i64 b, .int .i64 m, .int .i64 c] 27) = W := ⟨_, rfl⟩
 obtain ⟨W2, h2⟩ : ∃ W, W1.alloc (.cells #[.string n', .string d', .int .i64 t', .int .i64 b', .int .i64 m', .int .i64 c'] 27) = W := ⟨_, rfl⟩
 have s1 : W1.heap.size = w.heap.size + 1 := by rw [← h1]; simp
 have b1 : Below w.heap.size w W1 := by rw [← h1]; exact (Below.refl _ _).alloc (Nat.le_refl _) _
 have b2 : Below W1.heap.size W1 W2 := by rw [← h2]; exact (Below.refl _ _).alloc (Nat.le_refl _) _
 have k1 : CellsAt W1 w.heap.size [.string n, .string d, .int .i64 t, .int .i64 b, .int .i64 m, .int .i64 c] := by rw [← h1]; exact cellsAt_new rfl
 have k2 : CellsAt W2 (w.heap.size + 1) [.string n', .string d', .int .i64 t', .int .i64 b', .int .i64 m', .int .i64 c'] := by rw [← h2]; exact cellsAt_new s1.symm
 exact ⟨W2, by rw [h1, h2], below_up b1 b2, fun W hb => ⟨(k1.below b2).below hb, k2.below hb⟩⟩
theorem compareUR_any (n d : ByteArray) (t b m c : Int) (n' d' : ByteArray) (t' b' m' c' : Int) (h1 : n.size ≤ 1099511627776) (h2 : d.size ≤ 1099511627776) (h3 : n'.size ≤ 1099511627776) (h4 : d'.size ≤ 1099511627776) (w : World) :
 Calls Tryz.prog 26 #[.agg #[.string n, .string d, .int .i64 t, .int .i64 b, .int .i64 m, .int .i64 c], .agg #[.string n', .string d', .int .i64 t', .int .i64 b', .int .i64 m', .int .i64 c']] w fun e w' => e = .returned (.tuple #[.int .i64 (if okU n d t b m c && (okU n' d' t' b' m' c' && sameE t b m c t' b' m' c') then cmpQ n d n' d' else 0), .int .i64 (zE (okU n d t b m c && (okU n' d' t' b' m' c' && sameE t b m c t' b' m' c')))]) ∧ Below w.heap.size w w' := by
 obtain ⟨W0, hW0, b0, hcc⟩ := two_qty w n d t b m c n' d' t' b' m' c'
 have va := fun W => validUR_any n d t b m c h1 h2 W
 have vb := fun W => validUR_any n' d' t' b' m' c' h3 h4 W
 have co := fun W => cmpR4_any n d n' d' h1 h2 h3 h4 W
 generalize cmpQ n d n' d' = CQ at *
 generalize okU n d t b m c = x1 at *
 generalize okU n' d' t' b' m' c' = x2 at *
 generalize hx4 : sameE t b m c t' b' m' c' = x4 at *
 have HW := hid hW0; have B0 := hid b0; have HC := hid hcc; have VA := hid va; have VB := hid vb; have CO := hid co; have HX4 := hid hx4
 clear hW0 b0 hcc va vb co hx4
 cases x1 with
 | false =>
  show Calls _ _ _ _ fun e w' => e = .returned (.tuple #[.int .i64 0, .int .i64 50]) ∧ _
  go_enter Tryz.func26, Tryz.ntmps26
  obtain ⟨⟨p0, p1, p2, p3, p4, p5⟩, ⟨p6, p7, p8, p9, pa, pb⟩⟩ := qty_facts (HC.out W0 (Below.refl _ _)).1
  go_wp2_with (rw [HW.out])
  refine (VA.out _).mono ?_
  rintro e1 z1 ⟨rfl, b1⟩
  have B1 := hid b1
  have P1 := hid (below_up B0.out b1)
  clear b1 p0 p1 p2 p3 p4 p5 p6 p7 p8 p9 pa pb
  go_wp2
  go_ret2
  exact ⟨rfl, P1.out⟩
 | true =>
  cases x2 with
  | false =>
   show Calls _ _ _ _ fun e w' => e = .returned (.tuple #[.int .i64 0, .int .i64 50]) ∧ _
   go_enter Tryz.func26, Tryz.ntmps26
   obtain ⟨⟨p0, p1, p2, p3, p4, p5⟩, ⟨p6, p7, p8, p9, pa, pb⟩⟩ := qty_facts (HC.out W0 (Below.refl _ _)).1
   go_wp2_with (rw [HW.out])
   refine (VA.out _).mono ?_
   rintro e1 z1 ⟨rfl, b1⟩
   have B1 := hid b1
   have P1 := hid (below_up B0.out b1)
   clear b1 p0 p1 p2 p3 p4 p5 p6 p7 p8 p9 pa pb
   obtain ⟨⟨q0, q1, q2, q3, q4, q5⟩, ⟨q6, q7, q8, q9, qa, qb⟩⟩ := qty_facts (HC.out z1 B1.out).2
   go_wp2_with fail
   refine (VB.out _).mono ?_
   rintro e1 z2 ⟨rfl, b2⟩
   have B2 := hid (below_up B1.out b2)
   have P2 := hid (below_up B0.out B2.out)
   clear b2 q0 q1 q2 q3 q4 q5 q6 q7 q8 q9 qa qb
   go_wp2
   go_ret2
   exact ⟨rfl, P2.out⟩
  | true =>
   cases x4 with
   | false =>
    show Calls _ _ _ _ fun e w' => e = .returned (.tuple #[.int .i64 0, .int .i64 50]) ∧ _
    have hs := HX4.out
    unfold sameE at hs
    by_cases e1 : t = t'
    · have k1 : (t == t') = true := by rw [beq_iff_eq]; exact e1
      rw [k1, Bool.true_and] at hs
      by_cases e2 : b = b'
      · have k2 : (b == b') = true := by rw [beq_iff_eq]; exact e2
        rw [k2, Bool.true_and] at hs
        by_cases e3 : m = m'
        · have k3 : (m == m') = true := by rw [beq_iff_eq]; exact e3
          rw [k3, Bool.true_and] at hs
          have K1 := hid k1; have K2 := hid k2; have K3 := hid k3; have K4 := hid hs
          clear e1 e2 e3 k1 k2 k3 hs
          go_enter Tryz.func26, Tryz.ntmps26
          obtain ⟨⟨p0, p1, p2, p3, p4, p5⟩, ⟨p6, p7, p8, p9, pa, pb⟩⟩ := qty_facts (HC.out W0 (Below.refl _ _)).1
          go_wp2_with (rw [HW.out])
          refine (VA.out _).mono ?_
          rintro e1 z1 ⟨rfl, b1⟩
          have B1 := hid b1
          have P1 := hid (below_up B0.out b1)
          clear b1 p0 p1 p2 p3 p4 p5 p6 p7 p8 p9 pa pb
          obtain ⟨⟨q0, q1, q2, q3, q4, q5⟩, ⟨q6, q7, q8, q9, qa, qb⟩⟩ := qty_facts (HC.out z1 B1.out).2
          go_wp2_with fail
          refine (VB.out _).mono ?_
          rintro e1 z2 ⟨rfl, b2⟩
          have B2 := hid (below_up B1.out b2)
          have P2 := hid (below_up B0.out B2.out)
          clear b2 q0 q1 q2 q3 q4 q5 q6 q7 q8 q9 qa qb
          obtain ⟨⟨p0, p1, p2, p3, p4, p5⟩, ⟨p6, p7, p8, p9, pa, pb⟩⟩ := qty_facts (HC.out z2 B2.out).1
          obtain ⟨⟨q0, q1, q2, q3, q4, q5⟩, ⟨q6, q7, q8, q9, qa, qb⟩⟩ := qty_facts (HC.out z2 B2.out).2
          have k1 := K1.out; have k2 := K2.out; have k3 := K3.out; have k4 := K4.out
          go_wp2
          go_ret2
          exact ⟨rfl, P2.out⟩
        have k3 : (m == m') = false := by rw [beq_eq_false_iff_ne]; exact e3
        have K1 := hid k1; have K2 := hid k2; have K3 := hid k3
        clear e1 e2 e3 k1 k2 k3 hs
        go_enter Tryz.func26, Tryz.ntmps26
        obtain ⟨⟨p0, p1, p2, p3, p4, p5⟩, ⟨p6, p7, p8, p9, pa, pb⟩⟩ := qty_facts (HC.out W0 (Below.refl _ _)).1
        go_wp2_with (rw [HW.out])
        refine (VA.out _).mono ?_
        rintro e1 z1 ⟨rfl, b1⟩
        have B1 := hid b1
        have P1 := hid (below_up B0.out b1)
        clear b1 p0 p1 p2 p3 p4 p5 p6 p7 p8 p9 pa pb
        obtain ⟨⟨q0, q1, q2, q3, q4, q5⟩, ⟨q6, q7, q8, q9, qa, qb⟩⟩ := qty_facts (HC.out z1 B1.out).2
        go_wp2_with fail
        refine (VB.out _).mono ?_
        rintro e1 z2 ⟨rfl, b2⟩
        have B2 := hid (below_up B1.out b2)
        have P2 := hid (below_up B0.out B2.out)
        clear b2 q0 q1 q2 q3 q4 q5 q6 q7 q8 q9 qa qb
        obtain ⟨⟨p0, p1, p2, p3, p4, p5⟩, ⟨p6, p7, p8, p9, pa, pb⟩⟩ := qty_facts (HC.out z2 B2.out).1
        obtain ⟨⟨q0, q1, q2, q3, q4, q5⟩, ⟨q6, q7, q8, q9, qa, qb⟩⟩ := qty_facts (HC.out z2 B2.out).2
        have k1 := K1.out; have k2 := K2.out; have k3 := K3.out
        go_wp2
        go_ret2
        exact ⟨rfl, P2.out⟩
      have k2 : (b == b') = false := by rw [beq_eq_false_iff_ne]; exact e2
      have K1 := hid k1; have K2 := hid k2
      clear e1 e2 k1 k2 hs
      go_enter Tryz.func26, Tryz.ntmps26
      obtain ⟨⟨p0, p1, p2, p3, p4, p5⟩, ⟨p6, p7, p8, p9, pa, pb⟩⟩ := qty_facts (HC.out W0 (Below.refl _ _)).1
      go_wp2_with (rw [HW.out])
      refine (VA.out _).mono ?_
      rintro e1 z1 ⟨rfl, b1⟩
      have B1 := hid b1
      have P1 := hid (below_up B0.out b1)
      clear b1 p0 p1 p2 p3 p4 p5 p6 p7 p8 p9 pa pb
      obtain ⟨⟨q0, q1, q2, q3, q4, q5⟩, ⟨q6, q7, q8, q9, qa, qb⟩⟩ := qty_facts (HC.out z1 B1.out).2
      go_wp2_with fail
      refine (VB.out _).mono ?_
      rintro e1 z2 ⟨rfl, b2⟩
      have B2 := hid (below_up B1.out b2)
      have P2 := hid (below_up B0.out B2.out)
      clear b2 q0 q1 q2 q3 q4 q5 q6 q7 q8 q9 qa qb
      obtain ⟨⟨p0, p1, p2, p3, p4, p5⟩, ⟨p6, p7, p8, p9, pa, pb⟩⟩ := qty_facts (HC.out z2 B2.out).1
      obtain ⟨⟨q0, q1, q2, q3, q4, q5⟩, ⟨q6, q7, q8, q9, qa, qb⟩⟩ := qty_facts (HC.out z2 B2.out).2
      have k1 := K1.out; have k2 := K2.out
      go_wp2
      go_ret2
      exact ⟨rfl, P2.out⟩
    have k1 : (t == t') = false := by rw [beq_eq_false_iff_ne]; exact e1
    have K1 := hid k1
    clear e1 k1 hs
    go_enter Tryz.func26, Tryz.ntmps26
    obtain ⟨⟨p0, p1, p2, p3, p4, p5⟩, ⟨p6, p7, p8, p9, pa, pb⟩⟩ := qty_facts (HC.out W0 (Below.refl _ _)).1
    go_wp2_with (rw [HW.out])
    refine (VA.out _).mono ?_
    rintro e1 z1 ⟨rfl, b1⟩
    have B1 := hid b1
    have P1 := hid (below_up B0.out b1)
    clear b1 p0 p1 p2 p3 p4 p5 p6 p7 p8 p9 pa pb
    obtain ⟨⟨q0, q1, q2, q3, q4, q5⟩, ⟨q6, q7, q8, q9, qa, qb⟩⟩ := qty_facts (HC.out z1 B1.out).2
    go_wp2_with fail
    refine (VB.out _).mono ?_
    rintro e1 z2 ⟨rfl, b2⟩
    have B2 := hid (below_up B1.out b2)
    have P2 := hid (below_up B0.out B2.out)
    clear b2 q0 q1 q2 q3 q4 q5 q6 q7 q8 q9 qa qb
    obtain ⟨⟨p0, p1, p2, p3, p4, p5⟩, ⟨p6, p7, p8, p9, pa, pb⟩⟩ := qty_facts (HC.out z2 B2.out).1
    obtain ⟨⟨q0, q1, q2, q3, q4, q5⟩, ⟨q6, q7, q8, q9, qa, qb⟩⟩ := qty_facts (HC.out z2 B2.out).2
    have k1 := K1.out
    go_wp2
    go_ret2
    exact ⟨rfl, P2.out⟩
   | true =>
    obtain ⟨e1, e2, e3, e4⟩ := sameE_iff.1 HX4.out
    subst e1 e2 e3 e4
    show Calls _ _ _ _ fun e w' => e = .returned (.tuple #[.int .i64 CQ, .int .i64 0]) ∧ _
    go_enter Tryz.func26, Tryz.ntmps26
    obtain ⟨⟨p0, p1, p2, p3, p4, p5⟩, ⟨p6, p7, p8, p9, pa, pb⟩⟩ := qty_facts (HC.out W0 (Below.refl _ _)).1
    go_wp2_with (rw [HW.out])
    refine (VA.out _).mono ?_
    rintro e1 z1 ⟨rfl, b1⟩
    have B1 := hid b1
    have P1 := hid (below_up B0.out b1)
    clear b1 p0 p1 p2 p3 p4 p5 p6 p7 p8 p9 pa pb
    obtain ⟨⟨q0, q1, q2, q3, q4, q5⟩, ⟨q6, q7, q8, q9, qa, qb⟩⟩ := qty_facts (HC.out z1 B1.out).2
    go_wp2_with fail
    refine (VB.out _).mono ?_
    rintro e1 z2 ⟨rfl, b2⟩
    have B2 := hid (below_up B1.out b2)
    have P2 := hid (below_up B0.out B2.out)
    clear b2 q0 q1 q2 q3 q4 q5 q6 q7 q8 q9 qa qb
    obtain ⟨⟨p0, p1, p2, p3, p4, p5⟩, ⟨p6, p7, p8, p9, pa, pb⟩⟩ := qty_facts (HC.out z2 B2.out).1
    obtain ⟨⟨q0, q1, q2, q3, q4, q5⟩, ⟨q6, q7, q8, q9, qa, qb⟩⟩ := qty_facts (HC.out z2 B2.out).2
    go_wp2_with fail
    refine (CO.out _).mono ?_
    rintro e1 z3 ⟨rfl, b3⟩
    have P3 := hid (below_up P2.out b3)
    clear b3 p0 p1 p2 p3 p4 p5 p6 p7 p8 p9 pa pb q0 q1 q2 q3 q4 q5 q6 q7 q8 q9 qa qb
    go_wp2
    go_ret2
    exact ⟨rfl, P3.out⟩
theorem outE_ok (b : Bool) : decide (outE b = 0) = b := by cases b <;> rfl
theorem add_r (p q : Qt) (hp : p.short) (hq : q.short) (w : World) : Calls Tryz.prog 18 #[.agg #[.string p.n, .string p.d, .int .i64 p.t, .int .i64 p.b, .int .i64 p.m, .int .i64 p.c], .agg #[.string q.n, .string q.d, .int .i64 q.t, .int .i64 q.b, .int .i64 q.m, .int .i64 q.c]] w fun e w' => e = .returned (.tuple #[.agg #[.string (addQt p q).n, .string (addQt p q).d, .int .i64 (addQt p q).t, .int .i64 (addQt p q).b, .int .i64 (addQt p q).m, .int .i64 (addQt p q).c], .int .i64 (eU (addX p q))]) ∧ Below w.heap.size w w' := by
 have k := addUR_any p.n p.d p.t p.b p.m p.c q.n q.d q.t q.b q.m q.c (Nat.le_trans hp.1 (by decide)) (Nat.le_trans hp.2 (by decide)) (Nat.le_trans hq.1 (by decide)) (Nat.le_trans hq.2 (by decide)) w
 have hX : ((okU p.n p.d p.t p.b p.m p.c && (okU q.n q.d q.t q.b q.m q.c && sameE p.t p.b p.m p.c q.t q.b q.m q.c)) && (decide (outE (addB p.n p.d q.n q.d) = 0) && okU (sumN p.n p.d q.n q.d) (sumD p.n p.d q.n q.d) p.t p.b p.m p.c)) = addX p q := by rw [outE_ok]; rfl
 rw [hX] at k
 have e1 : zT (addX p q) (sumN p.n p.d q.n q.d) = (addQt p q).n := (pick_n _ (addQ0 p q)).symm
 have e2 : zT (addX p q) (sumD p.n p.d q.n q.d) = (addQt p q).d := (pick_d _ (addQ0 p q)).symm
 have e3 : zI (addX p q) p.t = (addQt p q).t := (pick_t _ (addQ0 p q)).symm
 have e4 : zI (addX p q) p.b = (addQt p q).b := (pick_b _ (addQ0 p q)).symm
 have e5 : zI (addX p q) p.m = (addQt p q).m := (pick_m _ (addQ0 p q)).symm
 have e6 : zI (addX p q) p.c = (addQt p q).c := (pick_c _ (addQ0 p q)).symm
 rw [e1, e2, e3, e4, e5, e6] at k
 exact k
theorem sub_r (p q : Qt) (hp : p.short) (hq : q.short) (w : World) : Calls Tryz.prog 20 #[.agg #[.string p.n, .string p.d, .int .i64 p.t, .int .i64 p.b, .int .i64 p.m, .int .i64 p.c], .agg #[.string q.n, .string q.d, .int .i64 q.t, .int .i64 q.b, .int .i64 q.m, .int .i64 q.c]] w fun e w' => e = .returned (.tuple #[.agg #[.string (subQt p q).n, .string (subQt p q).d, .int .i64 (subQt p q).t, .int .i64 (subQt p q).b, .int .i64 (subQt p q).m, .int .i64 (subQt p q).c], .int .i64 (eU (subX p q))]) ∧ Below w.heap.size w w' := by
 have k := subUR_any p.n p.d p.t p.b p.m p.c q.n q.d q.t q.b q.m q.c (Nat.le_trans hp.1 (by decide)) (Nat.le_trans hp.2 (by decide)) (Nat.le_trans hq.1 (by decide)) (Nat.le_trans hq.2 (by decide)) w
 have hX : ((okU p.n p.d p.t p.b p.m p.c && (okU q.n q.d q.t q.b q.m q.c && sameE p.t p.b p.m p.c q.t q.b q.m q.c)) && (decide (outE (subB p.n p.d q.n q.d) = 0) && okU (difN p.n p.d q.n q.d) (difD p.n p.d q.n q.d) p.t p.b p.m p.c)) = subX p q := by rw [outE_ok]; rfl
 rw [hX] at k
 have e1 : zT (subX p q) (difN p.n p.d q.n q.d) = (subQt p q).n := (pick_n _ (subQ0 p q)).symm
 have e2 : zT (subX p q) (difD p.n p.d q.n q.d) = (subQt p q).d := (pick_d _ (subQ0 p q)).symm
 have e3 : zI (subX p q) p.t = (subQt p q).t := (pick_t _ (subQ0 p q)).symm
 have e4 : zI (subX p q) p.b = (subQt p q).b := (pick_b _ (subQ0 p q)).symm
 have e5 : zI (subX p q) p.m = (subQt p q).m := (pick_m _ (subQ0 p q)).symm
 have e6 : zI (subX p q) p.c = (subQt p q).c := (pick_c _ (subQ0 p q)).symm
 rw [e1, e2, e3, e4, e5, e6] at k
 exact k
theorem mul_r (p q : Qt) (hp : p.short) (hq : q.short) (w : World) : Calls Tryz.prog 22 #[.agg #[.string p.n, .string p.d, .int .i64 p.t, .int .i64 p.b, .int .i64 p.m, .int .i64 p.c], .agg #[.string q.n, .string q.d, .int .i64 q.t, .int .i64 q.b, .int .i64 q.m, .int .i64 q.c]] w fun e w' => e = .returned (.tuple #[.agg #[.string (mulQt p q).n, .string (mulQt p q).d, .int .i64 (mulQt p q).t, .int .i64 (mulQt p q).b, .int .i64 (mulQt p q).m, .int .i64 (mulQt p q).c], .int .i64 (eU (mulX p q))]) ∧ Below w.heap.size w w' := by
 have k := mulUR_any p.n p.d p.t p.b p.m p.c q.n q.d q.t q.b q.m q.c (Nat.le_trans hp.1 (by decide)) (Nat.le_trans hp.2 (by decide)) (Nat.le_trans hq.1 (by decide)) (Nat.le_trans hq.2 (by decide)) w
 have hX : ((okU p.n p.d p.t p.b p.m p.c && okU q.n q.d q.t q.b q.m q.c) && (decide (outE (mulB p.n p.d q.n q.d) = 0) && okU (proN p.n p.d q.n q.d) (proD p.n p.d q.n q.d) (p.t + q.t) (p.b + q.b) (p.m + q.m) (p.c + q.c))) = mulX p q := by rw [outE_ok]; rfl
 rw [hX] at k
 have e1 : zT (mulX p q) (proN p.n p.d q.n q.d) = (mulQt p q).n := (pick_n _ (mulQ0 p q)).symm
 have e2 : zT (mulX p q) (proD p.n p.d q.n q.d) = (mulQt p q).d := (pick_d _ (mulQ0 p q)).symm
 have e3 : zI (mulX p q) (p.t + q.t) = (mulQt p q).t := (pick_t _ (mulQ0 p q)).symm
 have e4 : zI (mulX p q) (p.b + q.b) = (mulQt p q).b := (pick_b _ (mulQ0 p q)).symm
 have e5 : zI (mulX p q) (p.m + q.m) = (mulQt p q).m := (pick_m _ (mulQ0 p q)).symm
 have e6 : zI (mulX p q) (p.c + q.c) = (mulQt p q).c := (pick_c _ (mulQ0 p q)).symm
 rw [e1, e2, e3, e4, e5, e6] at k
 exact k
theorem div_r (p q : Qt) (hp : p.short) (hq : q.short) (w : World) : Calls Tryz.prog 24 #[.agg #[.string p.n, .string p.d, .int .i64 p.t, .int .i64 p.b, .int .i64 p.m, .int .i64 p.c], .agg #[.string q.n, .string q.d, .int .i64 q.t, .int .i64 q.b, .int .i64 q.m, .int .i64 q.c]] w fun e w' => e = .returned (.tuple #[.agg #[.string (divQt p q).n, .string (divQt p q).d, .int .i64 (divQt p q).t, .int .i64 (divQt p q).b, .int .i64 (divQt p q).m, .int .i64 (divQt p q).c], .int .i64 (eU (divX p q))]) ∧ Below w.heap.size w w' := by
 have k := divUR_any p.n p.d p.t p.b p.m p.c q.n q.d q.t q.b q.m q.c (Nat.le_trans hp.1 (by decide)) (Nat.le_trans hp.2 (by decide)) (Nat.le_trans hq.1 (by decide)) (Nat.le_trans hq.2 (by decide)) w
 have hX : ((okU p.n p.d p.t p.b p.m p.c && okU q.n q.d q.t q.b q.m q.c) && (decide (outE (divB p.n p.d q.n q.d) = 0) && okU (quoN p.n p.d q.n q.d) (quoD p.n p.d q.n q.d) (p.t - q.t) (p.b - q.b) (p.m - q.m) (p.c - q.c))) = divX p q := by rw [outE_ok]; rfl
 rw [hX] at k
 have e1 : zT (divX p q) (quoN p.n p.d q.n q.d) = (divQt p q).n := (pick_n _ (divQ0 p q)).symm
 have e2 : zT (divX p q) (quoD p.n p.d q.n q.d) = (divQt p q).d := (pick_d _ (divQ0 p q)).symm
 have e3 : zI (divX p q) (p.t - q.t) = (divQt p q).t := (pick_t _ (divQ0 p q)).symm
 have e4 : zI (divX p q) (p.b - q.b) = (divQt p q).b := (pick_b _ (divQ0 p q)).symm
 have e5 : zI (divX p q) (p.m - q.m) = (divQt p q).m := (pick_m _ (divQ0 p q)).symm
 have e6 : zI (divX p q) (p.c - q.c) = (divQt p q).c := (pick_c _ (divQ0 p q)).symm
 rw [e1, e2, e3, e4, e5, e6] at k
 exact k
theorem cmp_r (p q : Qt) (hp : p.short) (hq : q.short) (w : World) : Calls Tryz.prog 26 #[.agg #[.string p.n, .string p.d, .int .i64 p.t, .int .i64 p.b, .int .i64 p.m, .int .i64 p.c], .agg #[.string q.n, .string q.d, .int .i64 q.t, .int .i64 q.b, .int .i64 q.m, .int .i64 q.c]] w fun e w' => e = .returned (.tuple #[.int .i64 (cmpV p q), .int .i64 (eU (cmpX p q))]) ∧ Below w.heap.size w w' :=
 compareUR_any p.n p.d p.t p.b p.m p.c q.n q.d q.t q.b q.m q.c (Nat.le_trans hp.1 (by decide)) (Nat.le_trans hp.2 (by decide)) (Nat.le_trans hq.1 (by decide)) (Nat.le_trans hq.2 (by decide)) w
end Go.Proofs.YtcglcgphgahnpaaGreatDoor
