/-
  The contract of the laws' four: the results of the four operations, as eight texts and four codes.
-/
import Derived.Test.YtlcibnmcannapaaGreatDoorFieldQ
namespace Go.Proofs.YtlcibnmcannapaaGreatDoor
open Go Go.Proofs Go.RowKit Go.Lib

/-- A block of memory reads as these values, and may be written. -/
def CellsAt (W : World) (B : Nat) (vs : List Value) : Prop := ∀ i (h : i < vs.length), W.cell? ⟨B, i, none⟩ = some vs[i] ∧ W.frozen? ⟨B, i, none⟩ = false
theorem cellsAt_of {W : World} {B : Nat} {vs : List Value} {t : TypeId} (h : W.heap[B]? = some (.cells vs.toArray t)) : CellsAt W B vs := fun i hi => by
  simp [World.cell?, World.frozen?, h, hi]
theorem CellsAt.below {W W' : World} {B : Nat} {v : Value} {vs : List Value} (h : CellsAt W B (v :: vs)) (b : Below W.heap.size W W') : CellsAt W' B (v :: vs) := fun i hi => by
  have l := World.block_lt_of_cell? W ⟨B, 0, none⟩ (h 0 (Nat.zero_lt_succ _)).1
  exact ⟨(b.cell (p := ⟨B, i, none⟩) l).trans (h i hi).1, (b.frozen (p := ⟨B, i, none⟩) l).trans (h i hi).2⟩
theorem CellsAt.far {W : World} {A B i : Nat} {v : Value} {vs : List Value} (h : CellsAt W B vs) (hne : A ≠ B) : CellsAt (W.setCell ⟨A, i, none⟩ v) B vs := fun j hj =>
  ⟨(World.cell?_setCell_other W ⟨A, i, none⟩ ⟨B, j, none⟩ v (by intro e; injection e with e1 e2; exact hne e1)).trans (h j hj).1, by simp [(h j hj).2]⟩
theorem CellsAt.drew {W : World} {B : Nat} {vs : List Value} (h : CellsAt W B vs) : CellsAt W.drew B vs := fun i hi => h i hi
theorem CellsAt.put {W : World} {B : Nat} {vs : List Value} (h : CellsAt W B vs) (i : Nat) (v : Value) : CellsAt (W.setCell ⟨B, i, none⟩ v) B (vs.set i v) := fun j hj => by
  have hj' : j < vs.length := by simpa using hj
  refine ⟨?_, by simp [(h j hj').2]⟩
  by_cases e : i = j
  · subst e
    rw [List.getElem_set_self]
    exact World.cell?_setCell_same W ⟨B, i, none⟩ v (h i hj').1
  · rw [List.getElem_set_ne e]
    exact (World.cell?_setCell_other W ⟨B, i, none⟩ ⟨B, j, none⟩ v (by intro h2; injection h2 with e1 e2; exact e e2)).trans (h j hj').1
/-- The six blocks of four: its arguments, its results, and the two arrays. -/
def FourAt (w : World) (an ad bn bd : ByteArray) (R E : List Value) (W : World) : Prop :=
  Below w.heap.size w W ∧ CellsAt W w.heap.size [.string an, .string ad] ∧ CellsAt W (w.heap.size + 1) [.string bn, .string bd] ∧
    CellsAt W (w.heap.size + 1 + 1) [.string ⟨#[]⟩, .string ⟨#[]⟩, .string ⟨#[]⟩, .string ⟨#[]⟩, .string ⟨#[]⟩, .string ⟨#[]⟩, .string ⟨#[]⟩, .string ⟨#[]⟩] ∧
    CellsAt W (w.heap.size + 1 + 1 + 1) [.int .i64 0, .int .i64 0, .int .i64 0, .int .i64 0] ∧
    CellsAt W (w.heap.size + 1 + 1 + 1 + 1) R ∧ CellsAt W (w.heap.size + 1 + 1 + 1 + 1 + 1) E

theorem four_box (w : World) (an ad bn bd : ByteArray) : ∃ W0, ((((((w.alloc (.cells #[.string an, .string ad] 23)).alloc (.cells #[.string bn, .string bd] 23)).alloc (.cells #[.string ⟨#[]⟩, .string ⟨#[]⟩, .string ⟨#[]⟩, .string ⟨#[]⟩, .string ⟨#[]⟩, .string ⟨#[]⟩, .string ⟨#[]⟩, .string ⟨#[]⟩] 31)).alloc (.cells #[.int .i64 0, .int .i64 0, .int .i64 0, .int .i64 0] 33)).alloc (.cells #[.string ⟨#[]⟩, .string ⟨#[]⟩, .string ⟨#[]⟩, .string ⟨#[]⟩, .string ⟨#[]⟩, .string ⟨#[]⟩, .string ⟨#[]⟩, .string ⟨#[]⟩] 31)).alloc (.cells #[.int .i64 0, .int .i64 0, .int .i64 0, .int .i64 0] 33)) = W0 ∧ FourAt w an ad bn bd [.string ⟨#[]⟩, .string ⟨#[]⟩, .string ⟨#[]⟩, .string ⟨#[]⟩, .string ⟨#[]⟩, .string ⟨#[]⟩, .string ⟨#[]⟩, .string ⟨#[]⟩] [.int .i64 0, .int .i64 0, .int .i64 0, .int .i64 0] W0 := by
  obtain ⟨W1, h1⟩ : ∃ W, w.alloc (.cells #[.string an, .string ad] 23) = W := ⟨_, rfl⟩
  obtain ⟨W2, h2⟩ : ∃ W, W1.alloc (.cells #[.string bn, .string bd] 23) = W := ⟨_, rfl⟩
  obtain ⟨W3, h3⟩ : ∃ W, W2.alloc (.cells #[.string ⟨#[]⟩, .string ⟨#[]⟩, .string ⟨#[]⟩, .string ⟨#[]⟩, .string ⟨#[]⟩, .string ⟨#[]⟩, .string ⟨#[]⟩, .string ⟨#[]⟩] 31) = W := ⟨_, rfl⟩
  obtain ⟨W4, h4⟩ : ∃ W, W3.alloc (.cells #[.int .i64 0, .int .i64 0, .int .i64 0, .int .i64 0] 33) = W := ⟨_, rfl⟩
  obtain ⟨W5, h5⟩ : ∃ W, W4.alloc (.cells #[.string ⟨#[]⟩, .string ⟨#[]⟩, .string ⟨#[]⟩, .string ⟨#[]⟩, .string ⟨#[]⟩, .string ⟨#[]⟩, .string ⟨#[]⟩, .string ⟨#[]⟩] 31) = W := ⟨_, rfl⟩
  obtain ⟨W6, h6⟩ : ∃ W, W5.alloc (.cells #[.int .i64 0, .int .i64 0, .int .i64 0, .int .i64 0] 33) = W := ⟨_, rfl⟩
  have s1 : W1.heap.size = w.heap.size + 1 := by rw [← h1]; simp
  have s2 : W2.heap.size = w.heap.size + 1 + 1 := by rw [← h2]; simp [s1]
  have s3 : W3.heap.size = w.heap.size + 1 + 1 + 1 := by rw [← h3]; simp [s2]
  have s4 : W4.heap.size = w.heap.size + 1 + 1 + 1 + 1 := by rw [← h4]; simp [s3]
  have s5 : W5.heap.size = w.heap.size + 1 + 1 + 1 + 1 + 1 := by rw [← h5]; simp [s4]
  have s6 : W6.heap.size = w.heap.size + 1 + 1 + 1 + 1 + 1 + 1 := by rw [← h6]; simp [s5]
  have b1 : Below w.heap.size w W1 := by rw [← h1]; exact (Below.refl _ _).alloc (Nat.le_refl _) _
  have b2 : Below W1.heap.size W1 W2 := by rw [← h2]; exact (Below.refl _ _).alloc (Nat.le_refl _) _
  have b3 : Below W2.heap.size W2 W3 := by rw [← h3]; exact (Below.refl _ _).alloc (Nat.le_refl _) _
  have b4 : Below W3.heap.size W3 W4 := by rw [← h4]; exact (Below.refl _ _).alloc (Nat.le_refl _) _
  have b5 : Below W4.heap.size W4 W5 := by rw [← h5]; exact (Below.refl _ _).alloc (Nat.le_refl _) _
  have b6 : Below W5.heap.size W5 W6 := by rw [← h6]; exact (Below.refl _ _).alloc (Nat.le_refl _) _
  have k1 := cellsAt_of (vs := [.string an, .string ad]) (heap_alloc_new w (.cells #[.string an, .string ad] 23))
  rw [h1] at k1
  have k2 := cellsAt_of (vs := [.string bn, .string bd]) (heap_alloc_new W1 (.cells #[.string bn, .string bd] 23))
  rw [h2, s1] at k2
  have k3 := cellsAt_of (vs := [.string ⟨#[]⟩, .string ⟨#[]⟩, .string ⟨#[]⟩, .string ⟨#[]⟩, .string ⟨#[]⟩, .string ⟨#[]⟩, .string ⟨#[]⟩, .string ⟨#[]⟩]) (heap_alloc_new W2 (.cells #[.string ⟨#[]⟩, .string ⟨#[]⟩, .string ⟨#[]⟩, .string ⟨#[]⟩, .string ⟨#[]⟩, .string ⟨#[]⟩, .string ⟨#[]⟩, .string ⟨#[]⟩] 31))
  rw [h3, s2] at k3
  have k4 := cellsAt_of (vs := [.int .i64 0, .int .i64 0, .int .i64 0, .int .i64 0]) (heap_alloc_new W3 (.cells #[.int .i64 0, .int .i64 0, .int .i64 0, .int .i64 0] 33))
  rw [h4, s3] at k4
  have k5 := cellsAt_of (vs := [.string ⟨#[]⟩, .string ⟨#[]⟩, .string ⟨#[]⟩, .string ⟨#[]⟩, .string ⟨#[]⟩, .string ⟨#[]⟩, .string ⟨#[]⟩, .string ⟨#[]⟩]) (heap_alloc_new W4 (.cells #[.string ⟨#[]⟩, .string ⟨#[]⟩, .string ⟨#[]⟩, .string ⟨#[]⟩, .string ⟨#[]⟩, .string ⟨#[]⟩, .string ⟨#[]⟩, .string ⟨#[]⟩] 31))
  rw [h5, s4] at k5
  have k6 := cellsAt_of (vs := [.int .i64 0, .int .i64 0, .int .i64 0, .int .i64 0]) (heap_alloc_new W5 (.cells #[.int .i64 0, .int .i64 0, .int .i64 0, .int .i64 0] 33))
  rw [h6, s5] at k6
  refine ⟨W6, by rw [h1, h2, h3, h4, h5, h6], ?_, (((((k1.below b2).below b3).below b4).below b5).below b6), ((((k2.below b3).below b4).below b5).below b6), (((k3.below b4).below b5).below b6), ((k4.below b5).below b6), (k5.below b6), k6⟩
  exact below_up b1 (below_up b2 (below_up b3 (below_up b4 (below_up b5 b6))))
theorem FourAt.below {w W W' : World} {an ad bn bd : ByteArray} {r e : Value} {R E : List Value} (h : FourAt w an ad bn bd (r :: R) (e :: E) W) (b : Below W.heap.size W W') : FourAt w an ad bn bd (r :: R) (e :: E) W' :=
  ⟨below_up h.1 b, h.2.1.below b, h.2.2.1.below b, h.2.2.2.1.below b, h.2.2.2.2.1.below b, h.2.2.2.2.2.1.below b, h.2.2.2.2.2.2.below b⟩
theorem FourAt.putR {w W : World} {an ad bn bd : ByteArray} {R E : List Value} (h : FourAt w an ad bn bd R E W) (i : Nat) (v : Value) : FourAt w an ad bn bd (R.set i v) E (W.setCell ⟨w.heap.size + 1 + 1 + 1 + 1, i, none⟩ v) :=
  ⟨h.1.setCell (p := ⟨w.heap.size + 1 + 1 + 1 + 1, i, none⟩) (show w.heap.size ≤ w.heap.size + 1 + 1 + 1 + 1 by omega) _, h.2.1.far (by omega), h.2.2.1.far (by omega), h.2.2.2.1.far (by omega), h.2.2.2.2.1.far (by omega), h.2.2.2.2.2.1.put i v, h.2.2.2.2.2.2.far (by omega)⟩
theorem FourAt.putE {w W : World} {an ad bn bd : ByteArray} {R E : List Value} (h : FourAt w an ad bn bd R E W) (i : Nat) (v : Value) : FourAt w an ad bn bd R (E.set i v) (W.setCell ⟨w.heap.size + 1 + 1 + 1 + 1 + 1, i, none⟩ v) :=
  ⟨h.1.setCell (p := ⟨w.heap.size + 1 + 1 + 1 + 1 + 1, i, none⟩) (show w.heap.size ≤ w.heap.size + 1 + 1 + 1 + 1 + 1 by omega) _, h.2.1.far (by omega), h.2.2.1.far (by omega), h.2.2.2.1.far (by omega), h.2.2.2.2.1.far (by omega), h.2.2.2.2.2.1.far (by omega), h.2.2.2.2.2.2.put i v⟩

set_option maxRecDepth 100000 in
set_option maxHeartbeats 16000000 in
theorem four_q (an ad bn bd : ByteArray) (h1 : an.size ≤ 1099511627776) (h2 : ad.size ≤ 1099511627776) (h3 : bn.size ≤ 1099511627776) (h4 : bd.size ≤ 1099511627776) (w : World) (hR : Ready w) :
    Calls Tryz.prog 15 #[.agg #[.string an, .string ad], .agg #[.string bn, .string bd]] w fun e w' => e = .returned (.tuple #[.agg #[.string (sumN an ad bn bd), .string (sumD an ad bn bd), .string (difN an ad bn bd), .string (difD an ad bn bd), .string (proN an ad bn bd), .string (proD an ad bn bd), .string (quoN an ad bn bd), .string (quoD an ad bn bd)], .agg #[.int .i64 (outE (addB an ad bn bd)), .int .i64 (outE (subB an ad bn bd)), .int .i64 (outE (mulB an ad bn bd)), .int .i64 (outE (divB an ad bn bd))]]) ∧ Below w.heap.size w w' := by
  obtain ⟨W0, hW0, hF0⟩ := four_box w an ad bn bd
  have csum := fun W (h : Ready W) => add_q an ad bn bd h1 h2 h3 h4 W h
  rw [show outN (addB an ad bn bd) (valQ an ad + valQ bn bd) = sumN an ad bn bd from rfl, show outD (addB an ad bn bd) (valQ an ad + valQ bn bd) = sumD an ad bn bd from rfl] at csum
  have cdif := fun W (h : Ready W) => sub_q an ad bn bd h1 h2 h3 h4 W h
  rw [show outN (subB an ad bn bd) (valQ an ad - valQ bn bd) = difN an ad bn bd from rfl, show outD (subB an ad bn bd) (valQ an ad - valQ bn bd) = difD an ad bn bd from rfl] at cdif
  have cpro := fun W (h : Ready W) => mul_q an ad bn bd h1 h2 h3 h4 W h
  rw [show outN (mulB an ad bn bd) (valQ an ad * valQ bn bd) = proN an ad bn bd from rfl, show outD (mulB an ad bn bd) (valQ an ad * valQ bn bd) = proD an ad bn bd from rfl] at cpro
  have cquo := fun W (h : Ready W) => div_q an ad bn bd h1 h2 h3 h4 W h
  rw [show outN (divB an ad bn bd) (valQ an ad / valQ bn bd) = quoN an ad bn bd from rfl, show outD (divB an ad bn bd) (valQ an ad / valQ bn bd) = quoD an ad bn bd from rfl] at cquo
  generalize sumN an ad bn bd = sumN' at *
  generalize sumD an ad bn bd = sumD' at *
  generalize outE (addB an ad bn bd) = sumE' at *
  generalize difN an ad bn bd = difN' at *
  generalize difD an ad bn bd = difD' at *
  generalize outE (subB an ad bn bd) = difE' at *
  generalize proN an ad bn bd = proN' at *
  generalize proD an ad bn bd = proD' at *
  generalize outE (mulB an ad bn bd) = proE' at *
  generalize quoN an ad bn bd = quoN' at *
  generalize quoD an ad bn bd = quoD' at *
  generalize outE (divB an ad bn bd) = quoE' at *
  have HW := Lib.hid hW0; have HF0 := Lib.hid hF0; have HR := Lib.hid hR
  have Csum := Lib.hid csum
  have Cdif := Lib.hid cdif
  have Cpro := Lib.hid cpro
  have Cquo := Lib.hid cquo
  clear hW0 hF0 hR csum cdif cpro cquo h1 h2 h3 h4
  go_enter Tryz.func15, Tryz.ntmps15
  obtain ⟨qb, qA, qB, qZ, qY, qR, qE⟩ := HF0.out
  have a0 := (qA 0 (by simp)).1; have a1 := (qA 1 (by simp)).1; have a2 := (qB 0 (by simp)).1; have a3 := (qB 1 (by simp)).1
  simp only [List.getElem_cons_zero, List.getElem_cons_succ] at a0 a1 a2 a3
  clear qb qA qB qZ qY qR qE
  go_wp2_with (rw [HW.out])
  refine (Csum.out _ (HR.out.below HF0.out.1)).mono ?_
  rintro e z1 ⟨rfl, b1⟩
  have G := HF0.out.below b1
  obtain ⟨qb, qA, qB, qZ, qY, qR, qE⟩ := G
  have f0 := (qR 0 (by simp)).2; have f1 := (qR 1 (by simp)).2; have f2 := (qE 0 (by simp)).2
  have g0 := (qR 0 (by simp)).1; have g1 := (qR 1 (by simp)).1; have g2 := (qE 0 (by simp)).1
  simp only [List.getElem_cons_zero, List.getElem_cons_succ] at g0 g1 g2
  have G := HF0.out.below b1
  have HG := Lib.hid (((G.putR 0 (.string sumN')).putR 1 (.string sumD')).putE 0 (.int .i64 sumE'))
  clear G qb qA qB qZ qY qR qE a0 a1 a2 a3 b1
  go_upto_region 4 with fail
  obtain ⟨y1, hy1⟩ : ∃ y, ((z1.setCell ⟨w.heap.size + 1 + 1 + 1 + 1, 0, none⟩ (.string sumN')).setCell ⟨w.heap.size + 1 + 1 + 1 + 1, 1, none⟩ (.string sumD')).setCell ⟨w.heap.size + 1 + 1 + 1 + 1 + 1, 0, none⟩ (.int .i64 sumE') = y := ⟨_, rfl⟩
  rw [hy1]
  have HF1 := Lib.hid (show FourAt w an ad bn bd [.string sumN', .string sumD', .string ⟨#[]⟩, .string ⟨#[]⟩, .string ⟨#[]⟩, .string ⟨#[]⟩, .string ⟨#[]⟩, .string ⟨#[]⟩] [.int .i64 sumE', .int .i64 0, .int .i64 0, .int .i64 0] y1 by rw [← hy1]; exact HG.out)
  clear f0 f1 f2 g0 g1 g2 hy1 HG
  obtain ⟨qb, qA, qB, qZ, qY, qR, qE⟩ := HF1.out
  have a0 := (qA 0 (by simp)).1; have a1 := (qA 1 (by simp)).1; have a2 := (qB 0 (by simp)).1; have a3 := (qB 1 (by simp)).1
  simp only [List.getElem_cons_zero, List.getElem_cons_succ] at a0 a1 a2 a3
  clear qb qA qB qZ qY qR qE
  go_wp2_with fail
  refine (Cdif.out _ (HR.out.below HF1.out.1)).mono ?_
  rintro e z2 ⟨rfl, b2⟩
  have G := HF1.out.below b2
  obtain ⟨qb, qA, qB, qZ, qY, qR, qE⟩ := G
  have f0 := (qR 2 (by simp)).2; have f1 := (qR 3 (by simp)).2; have f2 := (qE 1 (by simp)).2
  have g0 := (qR 2 (by simp)).1; have g1 := (qR 3 (by simp)).1; have g2 := (qE 1 (by simp)).1
  simp only [List.getElem_cons_zero, List.getElem_cons_succ] at g0 g1 g2
  have G := HF1.out.below b2
  have HG := Lib.hid (((G.putR 2 (.string difN')).putR 3 (.string difD')).putE 1 (.int .i64 difE'))
  clear G qb qA qB qZ qY qR qE a0 a1 a2 a3 b2
  go_upto_region 5 with fail
  obtain ⟨y2, hy2⟩ : ∃ y, ((z2.setCell ⟨w.heap.size + 1 + 1 + 1 + 1, 2, none⟩ (.string difN')).setCell ⟨w.heap.size + 1 + 1 + 1 + 1, 3, none⟩ (.string difD')).setCell ⟨w.heap.size + 1 + 1 + 1 + 1 + 1, 1, none⟩ (.int .i64 difE') = y := ⟨_, rfl⟩
  rw [hy2]
  have HF2 := Lib.hid (show FourAt w an ad bn bd [.string sumN', .string sumD', .string difN', .string difD', .string ⟨#[]⟩, .string ⟨#[]⟩, .string ⟨#[]⟩, .string ⟨#[]⟩] [.int .i64 sumE', .int .i64 difE', .int .i64 0, .int .i64 0] y2 by rw [← hy2]; exact HG.out)
  clear f0 f1 f2 g0 g1 g2 hy2 HG
  obtain ⟨qb, qA, qB, qZ, qY, qR, qE⟩ := HF2.out
  have a0 := (qA 0 (by simp)).1; have a1 := (qA 1 (by simp)).1; have a2 := (qB 0 (by simp)).1; have a3 := (qB 1 (by simp)).1
  simp only [List.getElem_cons_zero, List.getElem_cons_succ] at a0 a1 a2 a3
  clear qb qA qB qZ qY qR qE
  go_wp2_with fail
  refine (Cpro.out _ (HR.out.below HF2.out.1)).mono ?_
  rintro e z3 ⟨rfl, b3⟩
  have G := HF2.out.below b3
  obtain ⟨qb, qA, qB, qZ, qY, qR, qE⟩ := G
  have f0 := (qR 4 (by simp)).2; have f1 := (qR 5 (by simp)).2; have f2 := (qE 2 (by simp)).2
  have g0 := (qR 4 (by simp)).1; have g1 := (qR 5 (by simp)).1; have g2 := (qE 2 (by simp)).1
  simp only [List.getElem_cons_zero, List.getElem_cons_succ] at g0 g1 g2
  have G := HF2.out.below b3
  have HG := Lib.hid (((G.putR 4 (.string proN')).putR 5 (.string proD')).putE 2 (.int .i64 proE'))
  clear G qb qA qB qZ qY qR qE a0 a1 a2 a3 b3
  go_upto_region 6 with fail
  obtain ⟨y3, hy3⟩ : ∃ y, ((z3.setCell ⟨w.heap.size + 1 + 1 + 1 + 1, 4, none⟩ (.string proN')).setCell ⟨w.heap.size + 1 + 1 + 1 + 1, 5, none⟩ (.string proD')).setCell ⟨w.heap.size + 1 + 1 + 1 + 1 + 1, 2, none⟩ (.int .i64 proE') = y := ⟨_, rfl⟩
  rw [hy3]
  have HF3 := Lib.hid (show FourAt w an ad bn bd [.string sumN', .string sumD', .string difN', .string difD', .string proN', .string proD', .string ⟨#[]⟩, .string ⟨#[]⟩] [.int .i64 sumE', .int .i64 difE', .int .i64 proE', .int .i64 0] y3 by rw [← hy3]; exact HG.out)
  clear f0 f1 f2 g0 g1 g2 hy3 HG
  obtain ⟨qb, qA, qB, qZ, qY, qR, qE⟩ := HF3.out
  have a0 := (qA 0 (by simp)).1; have a1 := (qA 1 (by simp)).1; have a2 := (qB 0 (by simp)).1; have a3 := (qB 1 (by simp)).1
  simp only [List.getElem_cons_zero, List.getElem_cons_succ] at a0 a1 a2 a3
  clear qb qA qB qZ qY qR qE
  go_wp2_with fail
  refine (Cquo.out _ (HR.out.below HF3.out.1)).mono ?_
  rintro e z4 ⟨rfl, b4⟩
  have G := HF3.out.below b4
  obtain ⟨qb, qA, qB, qZ, qY, qR, qE⟩ := G
  have f0 := (qR 6 (by simp)).2; have f1 := (qR 7 (by simp)).2; have f2 := (qE 3 (by simp)).2
  have g0 := (qR 6 (by simp)).1; have g1 := (qR 7 (by simp)).1; have g2 := (qE 3 (by simp)).1
  simp only [List.getElem_cons_zero, List.getElem_cons_succ] at g0 g1 g2
  have G := HF3.out.below b4
  have HG := Lib.hid (((G.putR 6 (.string quoN')).putR 7 (.string quoD')).putE 3 (.int .i64 quoE'))
  clear G qb qA qB qZ qY qR qE a0 a1 a2 a3 b4
  go_upto_region 7 with fail
  obtain ⟨y4, hy4⟩ : ∃ y, ((z4.setCell ⟨w.heap.size + 1 + 1 + 1 + 1, 6, none⟩ (.string quoN')).setCell ⟨w.heap.size + 1 + 1 + 1 + 1, 7, none⟩ (.string quoD')).setCell ⟨w.heap.size + 1 + 1 + 1 + 1 + 1, 3, none⟩ (.int .i64 quoE') = y := ⟨_, rfl⟩
  rw [hy4]
  have HF4 := Lib.hid (show FourAt w an ad bn bd [.string sumN', .string sumD', .string difN', .string difD', .string proN', .string proD', .string quoN', .string quoD'] [.int .i64 sumE', .int .i64 difE', .int .i64 proE', .int .i64 quoE'] y4 by rw [← hy4]; exact HG.out)
  clear f0 f1 f2 g0 g1 g2 hy4 HG
  obtain ⟨qb, qA, qB, qZ, qY, qR, qE⟩ := HF4.out
  have t0 := (qR 0 (by simp)).1
  have t1 := (qR 1 (by simp)).1
  have t2 := (qR 2 (by simp)).1
  have t3 := (qR 3 (by simp)).1
  have t4 := (qR 4 (by simp)).1
  have t5 := (qR 5 (by simp)).1
  have t6 := (qR 6 (by simp)).1
  have t7 := (qR 7 (by simp)).1
  have c0 := (qE 0 (by simp)).1
  have c1 := (qE 1 (by simp)).1
  have c2 := (qE 2 (by simp)).1
  have c3 := (qE 3 (by simp)).1
  have x0 := (qZ 0 (by simp)).1
  have x1 := (qZ 1 (by simp)).1
  have x2 := (qZ 2 (by simp)).1
  have x3 := (qZ 3 (by simp)).1
  have x4 := (qZ 4 (by simp)).1
  have x5 := (qZ 5 (by simp)).1
  have x6 := (qZ 6 (by simp)).1
  have x7 := (qZ 7 (by simp)).1
  have y0 := (qY 0 (by simp)).1
  have y1 := (qY 1 (by simp)).1
  have y2 := (qY 2 (by simp)).1
  have y3 := (qY 3 (by simp)).1
  have fx0 := (qZ 0 (by simp)).2
  have fx1 := (qZ 1 (by simp)).2
  have fx2 := (qZ 2 (by simp)).2
  have fx3 := (qZ 3 (by simp)).2
  have fx4 := (qZ 4 (by simp)).2
  have fx5 := (qZ 5 (by simp)).2
  have fx6 := (qZ 6 (by simp)).2
  have fx7 := (qZ 7 (by simp)).2
  have fy0 := (qY 0 (by simp)).2
  have fy1 := (qY 1 (by simp)).2
  have fy2 := (qY 2 (by simp)).2
  have fy3 := (qY 3 (by simp)).2
  simp only [List.getElem_cons_zero, List.getElem_cons_succ] at t0 x0 t1 x1 t2 x2 t3 x3 t4 x4 t5 x5 t6 x6 t7 x7 c0 y0 c1 y1 c2 y2 c3 y3
  obtain ⟨y5, hy5⟩ : ∃ y, ((((((((((((y4.setCell ⟨w.heap.size + 1 + 1, 0, none⟩ (.string sumN')).setCell ⟨w.heap.size + 1 + 1, 1, none⟩ (.string sumD')).setCell ⟨w.heap.size + 1 + 1, 2, none⟩ (.string difN')).setCell ⟨w.heap.size + 1 + 1, 3, none⟩ (.string difD')).setCell ⟨w.heap.size + 1 + 1, 4, none⟩ (.string proN')).setCell ⟨w.heap.size + 1 + 1, 5, none⟩ (.string proD')).setCell ⟨w.heap.size + 1 + 1, 6, none⟩ (.string quoN')).setCell ⟨w.heap.size + 1 + 1, 7, none⟩ (.string quoD')).setCell ⟨w.heap.size + 1 + 1 + 1, 0, none⟩ (.int .i64 sumE')).setCell ⟨w.heap.size + 1 + 1 + 1, 1, none⟩ (.int .i64 difE')).setCell ⟨w.heap.size + 1 + 1 + 1, 2, none⟩ (.int .i64 proE')).setCell ⟨w.heap.size + 1 + 1 + 1, 3, none⟩ (.int .i64 quoE')).drew = y := ⟨_, rfl⟩
  have k2 : CellsAt y5 (w.heap.size + 1 + 1) [.string sumN', .string sumD', .string difN', .string difD', .string proN', .string proD', .string quoN', .string quoD'] := by rw [← hy5]; exact ((((((((((((qZ.put 0 (.string sumN')).put 1 (.string sumD')).put 2 (.string difN')).put 3 (.string difD')).put 4 (.string proN')).put 5 (.string proD')).put 6 (.string quoN')).put 7 (.string quoD')).far (A := w.heap.size + 1 + 1 + 1) (i := 0) (v := .int .i64 sumE') (by omega)).far (A := w.heap.size + 1 + 1 + 1) (i := 1) (v := .int .i64 difE') (by omega)).far (A := w.heap.size + 1 + 1 + 1) (i := 2) (v := .int .i64 proE') (by omega)).far (A := w.heap.size + 1 + 1 + 1) (i := 3) (v := .int .i64 quoE') (by omega)).drew
  have k3 : CellsAt y5 (w.heap.size + 1 + 1 + 1) [.int .i64 sumE', .int .i64 difE', .int .i64 proE', .int .i64 quoE'] := by rw [← hy5]; exact ((((((((((((qY.far (A := w.heap.size + 1 + 1) (i := 0) (v := .string sumN') (by omega)).far (A := w.heap.size + 1 + 1) (i := 1) (v := .string sumD') (by omega)).far (A := w.heap.size + 1 + 1) (i := 2) (v := .string difN') (by omega)).far (A := w.heap.size + 1 + 1) (i := 3) (v := .string difD') (by omega)).far (A := w.heap.size + 1 + 1) (i := 4) (v := .string proN') (by omega)).far (A := w.heap.size + 1 + 1) (i := 5) (v := .string proD') (by omega)).far (A := w.heap.size + 1 + 1) (i := 6) (v := .string quoN') (by omega)).far (A := w.heap.size + 1 + 1) (i := 7) (v := .string quoD') (by omega)).put 0 (.int .i64 sumE')).put 1 (.int .i64 difE')).put 2 (.int .i64 proE')).put 3 (.int .i64 quoE')).drew
  have hb : Below w.heap.size w y5 := by rw [← hy5]; exact ((((((((((((qb.setCell (p := ⟨w.heap.size + 1 + 1, 0, none⟩) (show w.heap.size ≤ w.heap.size + 1 + 1 by omega) (.string sumN')).setCell (p := ⟨w.heap.size + 1 + 1, 1, none⟩) (show w.heap.size ≤ w.heap.size + 1 + 1 by omega) (.string sumD')).setCell (p := ⟨w.heap.size + 1 + 1, 2, none⟩) (show w.heap.size ≤ w.heap.size + 1 + 1 by omega) (.string difN')).setCell (p := ⟨w.heap.size + 1 + 1, 3, none⟩) (show w.heap.size ≤ w.heap.size + 1 + 1 by omega) (.string difD')).setCell (p := ⟨w.heap.size + 1 + 1, 4, none⟩) (show w.heap.size ≤ w.heap.size + 1 + 1 by omega) (.string proN')).setCell (p := ⟨w.heap.size + 1 + 1, 5, none⟩) (show w.heap.size ≤ w.heap.size + 1 + 1 by omega) (.string proD')).setCell (p := ⟨w.heap.size + 1 + 1, 6, none⟩) (show w.heap.size ≤ w.heap.size + 1 + 1 by omega) (.string quoN')).setCell (p := ⟨w.heap.size + 1 + 1, 7, none⟩) (show w.heap.size ≤ w.heap.size + 1 + 1 by omega) (.string quoD')).setCell (p := ⟨w.heap.size + 1 + 1 + 1, 0, none⟩) (show w.heap.size ≤ w.heap.size + 1 + 1 + 1 by omega) (.int .i64 sumE')).setCell (p := ⟨w.heap.size + 1 + 1 + 1, 1, none⟩) (show w.heap.size ≤ w.heap.size + 1 + 1 + 1 by omega) (.int .i64 difE')).setCell (p := ⟨w.heap.size + 1 + 1 + 1, 2, none⟩) (show w.heap.size ≤ w.heap.size + 1 + 1 + 1 by omega) (.int .i64 proE')).setCell (p := ⟨w.heap.size + 1 + 1 + 1, 3, none⟩) (show w.heap.size ≤ w.heap.size + 1 + 1 + 1 by omega) (.int .i64 quoE')).drew
  have HY := Lib.hid hy5; have K2 := Lib.hid k2; have K3 := Lib.hid k3; have HB := Lib.hid hb
  clear hy5 k2 k3 hb qb qA qB qZ qY qR qE
  go_region
  rw [HY.out]
  clear t0 x0 fx0 t1 x1 fx1 t2 x2 fx2 t3 x3 fx3 t4 x4 fx4 t5 x5 fx5 t6 x6 fx6 t7 x7 fx7 c0 y0 fy0 c1 y1 fy1 c2 y2 fy2 c3 y3 fy3
  have k2 := K2.out; have k3 := K3.out
  have t0 := (k2 0 (by simp)).1
  have t1 := (k2 1 (by simp)).1
  have t2 := (k2 2 (by simp)).1
  have t3 := (k2 3 (by simp)).1
  have t4 := (k2 4 (by simp)).1
  have t5 := (k2 5 (by simp)).1
  have t6 := (k2 6 (by simp)).1
  have t7 := (k2 7 (by simp)).1
  have c0 := (k3 0 (by simp)).1
  have c1 := (k3 1 (by simp)).1
  have c2 := (k3 2 (by simp)).1
  have c3 := (k3 3 (by simp)).1
  simp only [List.getElem_cons_zero, List.getElem_cons_succ] at t0 t1 t2 t3 t4 t5 t6 t7 c0 c1 c2 c3
  clear k2 k3
  go_wp2
  exact bodyPost_ret (v := .tuple #[.agg #[.string sumN', .string sumD', .string difN', .string difD', .string proN', .string proD', .string quoN', .string quoD'], .agg #[.int .i64 sumE', .int .i64 difE', .int .i64 proE', .int .i64 quoE']]) (by simp [results, Tryz.results15, go_sem, t0, t1, t2, t3, t4, t5, t6, t7, c0, c1, c2, c3]) rfl ⟨rfl, HB.out⟩
end Go.Proofs.YtlcibnmcannapaaGreatDoor
