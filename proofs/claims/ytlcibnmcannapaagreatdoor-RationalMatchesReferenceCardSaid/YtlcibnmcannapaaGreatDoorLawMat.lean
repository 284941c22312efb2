/-
  RationalMatchesReference: its walk.
-/
import Derived.Test.YtlcibnmcannapaaGreatDoorFourQ
import Derived.Test.YtlcibnmcannapaaGreatDoorEqArr
import Derived.Test.YtlcibnmcannapaaGreatDoorCutQ
import Derived.Test.YtlcibnmcannapaaGreatDoorSaneQ
import Derived.Test.YtlcibnmcannapaaGreatDoorLongQ
import Derived.Test.YtlcibnmcannapaaGreatDoorSmallQ
namespace Go.Proofs.YtlcibnmcannapaaGreatDoor
open Go Go.Proofs Go.RowKit Go.Lib

/-- The blocks of the arguments. -/
def MatchAt (w : World) (xn xd yn yd : ByteArray) (L M S : List Value) (W : World) : Prop :=
  Below w.heap.size w W ∧ RatAt W w.heap.size xn xd ∧ RatAt W (w.heap.size + 1) yn yd ∧ CellsAt W (w.heap.size + 1 + 1) L ∧ CellsAt W (w.heap.size + 1 + 1 + 1) M ∧ CellsAt W (w.heap.size + 1 + 1 + 1 + 1) S
theorem CellsAt.below' {W W' : World} {B : Nat} {vs : List Value} (hn : 0 < vs.length) (h : CellsAt W B vs) (b : Below W.heap.size W W') : CellsAt W' B vs := fun i hi => by
  have l := World.block_lt_of_cell? W ⟨B, 0, none⟩ (h 0 hn).1
  exact ⟨(b.cell (p := ⟨B, i, none⟩) l).trans (h i hi).1, (b.frozen (p := ⟨B, i, none⟩) l).trans (h i hi).2⟩
theorem MatchAt.below {w W W' : World} {xn xd yn yd : ByteArray} {l m s : Value} {L M S : List Value} (h : MatchAt w xn xd yn yd (l :: L) (m :: M) (s :: S) W) (b : Below W.heap.size W W') : MatchAt w xn xd yn yd (l :: L) (m :: M) (s :: S) W' :=
  ⟨below_up h.1 b, h.2.1.below b, h.2.2.1.below b, h.2.2.2.1.below b, h.2.2.2.2.1.below b, h.2.2.2.2.2.below b⟩
theorem MatchAt.putX {w W : World} {xn xd yn yd : ByteArray} {L M S : List Value} (h : MatchAt w xn xd yn yd L M S W) (n d : ByteArray) : MatchAt w n d yn yd L M S ((W.setCell ⟨w.heap.size, 0, none⟩ (.string n)).setCell ⟨w.heap.size, 1, none⟩ (.string d)) :=
  ⟨(h.1.setCell (p := ⟨w.heap.size, 0, none⟩) (Nat.le_refl _) _).setCell (p := ⟨w.heap.size, 1, none⟩) (Nat.le_refl _) _, ratAt_set h.2.1, ratAt_far (by omega) (ratAt_far (by omega) h.2.2.1), (h.2.2.2.1.far (by omega)).far (by omega), (h.2.2.2.2.1.far (by omega)).far (by omega), (h.2.2.2.2.2.far (by omega)).far (by omega)⟩
theorem MatchAt.putY {w W : World} {xn xd yn yd : ByteArray} {L M S : List Value} (h : MatchAt w xn xd yn yd L M S W) (n d : ByteArray) : MatchAt w xn xd n d L M S ((W.setCell ⟨w.heap.size + 1, 0, none⟩ (.string n)).setCell ⟨w.heap.size + 1, 1, none⟩ (.string d)) :=
  ⟨(h.1.setCell (p := ⟨w.heap.size + 1, 0, none⟩) (show w.heap.size ≤ w.heap.size + 1 by omega) _).setCell (p := ⟨w.heap.size + 1, 1, none⟩) (show w.heap.size ≤ w.heap.size + 1 by omega) _, ratAt_far (by omega) (ratAt_far (by omega) h.2.1), ratAt_set h.2.2.1, (h.2.2.2.1.far (by omega)).far (by omega), (h.2.2.2.2.1.far (by omega)).far (by omega), (h.2.2.2.2.2.far (by omega)).far (by omega)⟩
theorem match_box (w : World) (xn xd yn yd : ByteArray) (l0 l1 l2 l3 m0 m1 m2 m3 s0 s1 : Int) : ∃ W0, ((((w.alloc (.cells #[.string xn, .string xd] 23)).alloc (.cells #[.string yn, .string yd] 23)).alloc (.cells #[.int .i64 l0, .int .i64 l1, .int .i64 l2, .int .i64 l3] 24)).alloc (.cells #[.int .i64 m0, .int .i64 m1, .int .i64 m2, .int .i64 m3] 24)).alloc (.cells #[.int .i64 s0, .int .i64 s1] 25) = W0 ∧ MatchAt w xn xd yn yd [.int .i64 l0, .int .i64 l1, .int .i64 l2, .int .i64 l3] [.int .i64 m0, .int .i64 m1, .int .i64 m2, .int .i64 m3] [.int .i64 s0, .int .i64 s1] W0 := by
  obtain ⟨W2, h2, b2, f2⟩ := box_two w xn xd yn yd
  obtain ⟨W3, h3⟩ : ∃ W, W2.alloc (.cells #[.int .i64 l0, .int .i64 l1, .int .i64 l2, .int .i64 l3] 24) = W := ⟨_, rfl⟩
  obtain ⟨W4, h4⟩ : ∃ W, W3.alloc (.cells #[.int .i64 m0, .int .i64 m1, .int .i64 m2, .int .i64 m3] 24) = W := ⟨_, rfl⟩
  obtain ⟨W5, h5⟩ : ∃ W, W4.alloc (.cells #[.int .i64 s0, .int .i64 s1] 25) = W := ⟨_, rfl⟩
  have z2 : W2.heap.size = w.heap.size + 1 + 1 := by rw [← h2]; simp
  have z3 : W3.heap.size = w.heap.size + 1 + 1 + 1 := by rw [← h3]; simp [z2]
  have z4 : W4.heap.size = w.heap.size + 1 + 1 + 1 + 1 := by rw [← h4]; simp [z3]
  have b3 : Below W2.heap.size W2 W3 := by rw [← h3]; exact (Below.refl _ _).alloc (Nat.le_refl _) _
  have b4 : Below W3.heap.size W3 W4 := by rw [← h4]; exact (Below.refl _ _).alloc (Nat.le_refl _) _
  have b5 : Below W4.heap.size W4 W5 := by rw [← h5]; exact (Below.refl _ _).alloc (Nat.le_refl _) _
  have k3 := cellsAt_of (vs := [.int .i64 l0, .int .i64 l1, .int .i64 l2, .int .i64 l3]) (heap_alloc_new W2 (.cells #[.int .i64 l0, .int .i64 l1, .int .i64 l2, .int .i64 l3] 24))
  have k4 := cellsAt_of (vs := [.int .i64 m0, .int .i64 m1, .int .i64 m2, .int .i64 m3]) (heap_alloc_new W3 (.cells #[.int .i64 m0, .int .i64 m1, .int .i64 m2, .int .i64 m3] 24))
  have k5 := cellsAt_of (vs := [.int .i64 s0, .int .i64 s1]) (heap_alloc_new W4 (.cells #[.int .i64 s0, .int .i64 s1] 25))
  rw [h3, z2] at k3
  rw [h4, z3] at k4
  rw [h5, z4] at k5
  have f := f2 W5 (below_up b3 (below_up b4 b5))
  exact ⟨W5, by rw [h2, h3, h4, h5], below_up b2 (below_up b3 (below_up b4 b5)), f.1, f.2, (k3.below b4).below b5, k4.below b5, k5⟩
/-- Five fractions, one behind the other. -/
def TenAt (W : World) (A : Nat) (tn td : Nat → ByteArray) : Prop := ∀ k, k < 5 → W.cell? ⟨A, 2 * k, none⟩ = some (.string (tn k)) ∧ W.cell? ⟨A, 2 * k + 1, none⟩ = some (.string (td k))
theorem TenAt.below {W W' : World} {A : Nat} {tn td : Nat → ByteArray} (h : TenAt W A tn td) (b : Below W.heap.size W W') : TenAt W' A tn td := fun k hk => by
  have l := World.block_lt_of_cell? W ⟨A, 2 * 0, none⟩ (h 0 (by omega)).1
  exact ⟨(b.cell (p := ⟨A, 2 * k, none⟩) l).trans (h k hk).1, (b.cell (p := ⟨A, 2 * k + 1, none⟩) l).trans (h k hk).2⟩
def fiveN (a b c d e : ByteArray) (k : Nat) : ByteArray := match k with | 0 => a | 1 => b | 2 => c | 3 => d | _ => e
theorem tenAt_of {W : World} {A : Nat} {t : TypeId} {n0 d0 n1 d1 n2 d2 n3 d3 n4 d4 : ByteArray} (h : W.heap[A]? = some (.cells #[.string n0, .string d0, .string n1, .string d1, .string n2, .string d2, .string n3, .string d3, .string n4, .string d4] t)) :
    TenAt W A (fiveN n0 n1 n2 n3 n4) (fiveN d0 d1 d2 d3 d4) := fun k hk => by
  have : k = 0 ∨ k = 1 ∨ k = 2 ∨ k = 3 ∨ k = 4 := by omega
  rcases this with rfl | rfl | rfl | rfl | rfl <;> exact ⟨by simp [World.cell?, h, fiveN], by simp [World.cell?, h, fiveN]⟩
theorem five_size {a b c d e : ByteArray} (h0 : a.size ≤ 1000) (h1 : b.size ≤ 1000) (h2 : c.size ≤ 1000) (h3 : d.size ≤ 1000) (h4 : e.size ≤ 1000) (k : Nat) : (fiveN a b c d e k).size ≤ 1000 := by
  unfold fiveN
  split <;> assumption
theorem five_elem : Tryz.prog.underlying 30 = some (.slice (Tryz.prog.elem 30)) := by kernel_rfl
theorem ratio_cells (w : World) : (Go.sizeOf (Tryz.prog.elem 30)).run Tryz.prog w = .ok 2 w := by kernel_rfl
theorem at_five (g k : Nat) (hk : k < 5) (w : World) : (Instr.indexAt 30 (.slice (some ⟨g, 0, none⟩) 5 5) (.int .i64 (k : Int))).run Tryz.prog w = .ok (.pointer (some ⟨g, 2 * k, none⟩)) w := by
  rw [run_indexAt_slice w 30 _ _ _ _ _ five_elem, if_pos (by omega)]
  simp [ratio_cells, add_at, Result.andThen]
theorem at_first (g : Nat) (w : World) : (Instr.indexAt 30 (.slice (some ⟨g, 0, none⟩) 5 5) (.int .i64 0)).run Tryz.prog w = .ok (.pointer (some ⟨g, 0, none⟩)) w := at_five g 0 (by omega) w
/-- Two arrays in blocks of their own. -/
def PairAt (z : World) (R E : List Value) (W : World) : Prop := Below z.heap.size z W ∧ CellsAt W z.heap.size R ∧ CellsAt W (z.heap.size + 1) E
theorem PairAt.below {z W W' : World} {r e : Value} {R E : List Value} (h : PairAt z (r :: R) (e :: E) W) (b : Below W.heap.size W W') : PairAt z (r :: R) (e :: E) W' := ⟨below_up h.1 b, h.2.1.below b, h.2.2.below b⟩
theorem PairAt.putR {z W : World} {R E : List Value} (h : PairAt z R E W) (i : Nat) (v : Value) : PairAt z (R.set i v) E (W.setCell ⟨z.heap.size, i, none⟩ v) :=
  ⟨h.1.setCell (p := ⟨z.heap.size, i, none⟩) (Nat.le_refl _) _, h.2.1.put i v, h.2.2.far (by omega)⟩
theorem PairAt.putE {z W : World} {R E : List Value} (h : PairAt z R E W) (i : Nat) (v : Value) : PairAt z R (E.set i v) (W.setCell ⟨z.heap.size + 1, i, none⟩ v) :=
  ⟨h.1.setCell (p := ⟨z.heap.size + 1, i, none⟩) (show z.heap.size ≤ z.heap.size + 1 by omega) _, h.2.1.far (by omega), h.2.2.put i v⟩
theorem pair_box (w : World) (t0 t1 t2 t3 t4 t5 t6 t7 : ByteArray) (c0 c1 c2 c3 : Int) : ∃ W0, (w.alloc (.cells #[.string t0, .string t1, .string t2, .string t3, .string t4, .string t5, .string t6, .string t7] 31)).alloc (.cells #[.int .i64 c0, .int .i64 c1, .int .i64 c2, .int .i64 c3] 33) = W0 ∧ PairAt w [.string t0, .string t1, .string t2, .string t3, .string t4, .string t5, .string t6, .string t7] [.int .i64 c0, .int .i64 c1, .int .i64 c2, .int .i64 c3] W0 := by
  obtain ⟨W1, h1⟩ : ∃ W, w.alloc (.cells #[.string t0, .string t1, .string t2, .string t3, .string t4, .string t5, .string t6, .string t7] 31) = W := ⟨_, rfl⟩
  obtain ⟨W2, h2⟩ : ∃ W, W1.alloc (.cells #[.int .i64 c0, .int .i64 c1, .int .i64 c2, .int .i64 c3] 33) = W := ⟨_, rfl⟩
  have s1 : W1.heap.size = w.heap.size + 1 := by rw [← h1]; simp
  have b1 : Below w.heap.size w W1 := by rw [← h1]; exact (Below.refl _ _).alloc (Nat.le_refl _) _
  have b2 : Below W1.heap.size W1 W2 := by rw [← h2]; exact (Below.refl _ _).alloc (Nat.le_refl _) _
  have k1 := cellsAt_of (vs := [.string t0, .string t1, .string t2, .string t3, .string t4, .string t5, .string t6, .string t7]) (heap_alloc_new w (.cells #[.string t0, .string t1, .string t2, .string t3, .string t4, .string t5, .string t6, .string t7] 31))
  have k2 := cellsAt_of (vs := [.int .i64 c0, .int .i64 c1, .int .i64 c2, .int .i64 c3]) (heap_alloc_new W1 (.cells #[.int .i64 c0, .int .i64 c1, .int .i64 c2, .int .i64 c3] 33))
  rw [h1] at k1
  rw [h2, s1] at k2
  exact ⟨W2, by rw [h1, h2], below_up b1 b2, k1.below b2, k2⟩
theorem ints_box (w : World) (p q : Int) : ∃ W0, w.alloc (.cells #[.int .i64 p, .int .i64 q] 3) = W0 ∧ Below w.heap.size w W0 ∧ ∀ W, Below W0.heap.size W0 W → CellsAt W w.heap.size [.int .i64 p, .int .i64 q] := by
  obtain ⟨W1, h1⟩ : ∃ W, w.alloc (.cells #[.int .i64 p, .int .i64 q] 3) = W := ⟨_, rfl⟩
  have b1 : Below w.heap.size w W1 := by rw [← h1]; exact (Below.refl _ _).alloc (Nat.le_refl _) _
  have k1 := cellsAt_of (vs := [.int .i64 p, .int .i64 q]) (heap_alloc_new w (.cells #[.int .i64 p, .int .i64 q] 3))
  rw [h1] at k1
  exact ⟨W1, h1, b1, fun W hb => k1.below hb⟩
set_option maxRecDepth 100000 in
set_option maxHeartbeats 100000000 in
theorem rationalMatches_walk (xn xd yn yd : ByteArray) (l0 l1 l2 l3 m0 m1 m2 m3 s0 s1 n d places : Int) (hxn : xn.size ≤ maxLen) (hxd : xd.size ≤ maxLen) (hyn : yn.size ≤ maxLen) (hyd : yd.size ≤ maxLen) (al0 : -9223372036854775808 ≤ l0) (cl0 : l0 ≤ 9223372036854775807) (al1 : -9223372036854775808 ≤ l1) (cl1 : l1 ≤ 9223372036854775807) (al2 : -9223372036854775808 ≤ l2) (cl2 : l2 ≤ 9223372036854775807) (al3 : -9223372036854775808 ≤ l3) (cl3 : l3 ≤ 9223372036854775807) (am0 : -9223372036854775808 ≤ m0) (cm0 : m0 ≤ 9223372036854775807) (am1 : -9223372036854775808 ≤ m1) (cm1 : m1 ≤ 9223372036854775807) (am2 : -9223372036854775808 ≤ m2) (cm2 : m2 ≤ 9223372036854775807) (am3 : -9223372036854775808 ≤ m3) (cm3 : m3 ≤ 9223372036854775807) (as0 : -9223372036854775808 ≤ s0) (cs0 : s0 ≤ 9223372036854775807) (as1 : -9223372036854775808 ≤ s1) (cs1 : s1 ≤ 9223372036854775807) (an : -9223372036854775808 ≤ n) (cn : n ≤ 9223372036854775807) (ad : -9223372036854775808 ≤ d) (cd : d ≤ 9223372036854775807) (aplaces : -9223372036854775808 ≤ places) (cplaces : places ≤ 9223372036854775807) (w : World) (hR : Ready w) :
    Calls Tryz.prog 3 #[.agg #[.string xn, .string xd], .agg #[.string yn, .string yd], .agg #[.int .i64 l0, .int .i64 l1, .int .i64 l2, .int .i64 l3], .agg #[.int .i64 m0, .int .i64 m1, .int .i64 m2, .int .i64 m3], .agg #[.int .i64 s0, .int .i64 s1], .int .i64 n, .int .i64 d, .int .i64 places] w fun e w' => e = .returned (.bool true) ∧ Below w.heap.size w w' := by
  have hlL := fun W => longR_any l0 l1 l2 l3 al0 cl0 al1 cl1 al2 cl2 al3 cl3 W
  have hlM := fun W => longR_any m0 m1 m2 m3 am0 cm0 am1 cm1 am2 cm2 am3 cm3 W
  have hsS := fun W => smallR_any s0 s1 as0 cs0 as1 cs1 W
  have hfS := smallQ_fits s0 s1
  have hs1 := nT_size hfS; have hs2 := dT_size hfS
  generalize nT (smallQ s0 s1) = SN at *
  generalize dT (smallQ s0 s1) = SD at *
  have hcx := fun W => cutL_any xn xd hxn hxd W
  have hcy := fun W => cutL_any yn yd hyn hyd W
  have hu1 := cutT_size xn; have hu2 := cutT_size xd; have hu3 := cutT_size yn; have hu4 := cutT_size yd
  generalize cutT xn = un at *
  generalize cutT xd = ud at *
  generalize cutT yn = vn at *
  generalize cutT yd = vd at *
  have hpk := fun W => pickL_any places 32 aplaces cplaces (by decide) (by decide) W
  have hpr := pickI_range places (n := 32) (by decide)
  generalize pickI places 32 = pp at *
  have ofq := fun W (h : Ready W) => of_q n d an cn ad cd W h
  have ofr := fun W => ofR4_any n d an cn ad cd W
  generalize outN (decide (d ≠ 0)) (Rat.divInt n d) = ON at *
  generalize outD (decide (d ≠ 0)) (Rat.divInt n d) = OD at *
  generalize outE (decide (d ≠ 0)) = OE at *
  have LL := Lib.hid hlL; have LM := Lib.hid hlM; have SS := Lib.hid hsS; have CX := Lib.hid hcx; have CY := Lib.hid hcy; have PK := Lib.hid hpk
  have OFQ := Lib.hid ofq; have OFR := Lib.hid ofr
  have HPL := Lib.hid (And.intro aplaces cplaces); have HPP := Lib.hid (show -9223372036854775808 ≤ pp ∧ pp ≤ 9223372036854775807 by omega)
  have HU := Lib.hid (show (un.size ≤ 1000 ∧ ud.size ≤ 1000 ∧ vn.size ≤ 1000 ∧ vd.size ≤ 1000) ∧ SN.size ≤ 1000 ∧ SD.size ≤ 1000 from ⟨⟨by omega, by omega, by omega, by omega⟩, hs1, hs2⟩)
  have SANE := Lib.hid sane_any
  obtain ⟨W0, hW0, hM0⟩ := match_box w xn xd yn yd l0 l1 l2 l3 m0 m1 m2 m3 s0 s1
  have HW := Lib.hid hW0; have HM0 := Lib.hid hM0
  have HB0 := Lib.hid hM0.1; have HRW0 := Lib.hid hR
  have HR0 := Lib.hid (hR.below hM0.1)
  clear hlL hlM hsS hfS hs1 hs2 hcx hcy hu1 hu2 hu3 hu4 hpk hpr ofq ofr hxn hxd hyn hyd hW0 hM0 hR al0 cl0 al1 cl1 al2 cl2 al3 cl3 am0 cm0 am1 cm1 am2 cm2 am3 cm3 as0 cs0 as1 cs1 an cn ad cd aplaces cplaces
  go_enter Tryz.func3, Tryz.ntmps3
  go_wp2_with (rw [HW.out])
  refine (SANE.out _ HR0.out).mono ?_
  rintro e z1 ⟨rfl, b1⟩
  have M1 := Lib.hid (HM0.out.below b1)
  clear b1
  obtain ⟨qx0, qx1, qx2, qx3⟩ := M1.out.2.1
  go_wp2_with fail
  refine (CX.out _).mono ?_
  rintro e z2 ⟨rfl, b2⟩
  have M2 := Lib.hid (M1.out.below b2)
  clear b2 qx0 qx1 qx2 qx3
  obtain ⟨y2, hy2⟩ : ∃ y, (z2.setCell ⟨w.heap.size, 0, none⟩ (.string un)).setCell ⟨w.heap.size, 1, none⟩ (.string ud) = y := ⟨_, rfl⟩
  have M3 := Lib.hid (show MatchAt w un ud yn yd [.int .i64 l0, .int .i64 l1, .int .i64 l2, .int .i64 l3] [.int .i64 m0, .int .i64 m1, .int .i64 m2, .int .i64 m3] [.int .i64 s0, .int .i64 s1] y2 by rw [← hy2]; exact M2.out.putX un ud)
  have HY2 := Lib.hid hy2
  obtain ⟨qx0, qx1, qx2, qx3⟩ := M2.out.2.1
  obtain ⟨qy0, qy1, qy2, qy3⟩ := M3.out.2.2.1
  clear hy2
  go_wp2_with (rw [HY2.out])
  refine (CY.out _).mono ?_
  rintro e z3 ⟨rfl, b3⟩
  have M4 := Lib.hid (M3.out.below b3)
  clear b3 qx0 qx1 qx2 qx3 qy0 qy1 qy2 qy3
  obtain ⟨y3, hy3⟩ : ∃ y, (z3.setCell ⟨w.heap.size + 1, 0, none⟩ (.string vn)).setCell ⟨w.heap.size + 1, 1, none⟩ (.string vd) = y := ⟨_, rfl⟩
  have M5 := Lib.hid (show MatchAt w un ud vn vd [.int .i64 l0, .int .i64 l1, .int .i64 l2, .int .i64 l3] [.int .i64 m0, .int .i64 m1, .int .i64 m2, .int .i64 m3] [.int .i64 s0, .int .i64 s1] y3 by rw [← hy3]; exact M4.out.putY vn vd)
  have HY3 := Lib.hid hy3
  obtain ⟨qy0, qy1, qy2, qy3⟩ := M4.out.2.2.1
  clear hy3
  go_upto_region 4 with (rw [HY3.out])
  clear qy0 qy1 qy2 qy3
  have M6 := Lib.hid (fun W (b : Below y3.heap.size y3 W) => M5.out.below b)
  have HRy := Lib.hid (HR0.out)
  go_cut [18] from 50 to 58 (fun sa wx => ∃ (A : Nat) (tn td : Nat → ByteArray), sa = .slice (some ⟨A, 0, none⟩) 5 5 ∧ Hid (∀ k, (tn k).size ≤ 1000 ∧ (td k).size ≤ 1000) ∧ Hid (TenAt wx A tn td) ∧ Hid (Below w.heap.size w wx))
  case first =>
    have K := Lib.hid (show ∀ W, Below y3.heap.size y3 W → ((W.cell? ⟨w.heap.size, 0, none⟩ = some (.string un) ∧ W.cell? ⟨w.heap.size, 1, none⟩ = some (.string ud)) ∧ (W.cell? ⟨w.heap.size + 1, 0, none⟩ = some (.string vn) ∧ W.cell? ⟨w.heap.size + 1, 1, none⟩ = some (.string vd)) ∧ (W.cell? ⟨w.heap.size + 1 + 1, 0, none⟩ = some (.int .i64 l0) ∧ W.cell? ⟨w.heap.size + 1 + 1, 1, none⟩ = some (.int .i64 l1) ∧ W.cell? ⟨w.heap.size + 1 + 1, 2, none⟩ = some (.int .i64 l2) ∧ W.cell? ⟨w.heap.size + 1 + 1, 3, none⟩ = some (.int .i64 l3)) ∧ (W.cell? ⟨w.heap.size + 1 + 1 + 1, 0, none⟩ = some (.int .i64 m0) ∧ W.cell? ⟨w.heap.size + 1 + 1 + 1, 1, none⟩ = some (.int .i64 m1) ∧ W.cell? ⟨w.heap.size + 1 + 1 + 1, 2, none⟩ = some (.int .i64 m2) ∧ W.cell? ⟨w.heap.size + 1 + 1 + 1, 3, none⟩ = some (.int .i64 m3)) ∧ (W.cell? ⟨w.heap.size + 1 + 1 + 1 + 1, 0, none⟩ = some (.int .i64 s0) ∧ W.cell? ⟨w.heap.size + 1 + 1 + 1 + 1, 1, none⟩ = some (.int .i64 s1))) from fun W b => by
      have h := M6.out W b
      exact ⟨⟨h.2.1.1, h.2.1.2.1⟩, ⟨h.2.2.1.1, h.2.2.1.2.1⟩, ⟨(h.2.2.2.1 0 (by simp)).1, (h.2.2.2.1 1 (by simp)).1, (h.2.2.2.1 2 (by simp)).1, (h.2.2.2.1 3 (by simp)).1⟩, ⟨(h.2.2.2.2.1 0 (by simp)).1, (h.2.2.2.2.1 1 (by simp)).1, (h.2.2.2.2.1 2 (by simp)).1, (h.2.2.2.2.1 3 (by simp)).1⟩, ⟨(h.2.2.2.2.2 0 (by simp)).1, (h.2.2.2.2.2 1 (by simp)).1⟩⟩)
    have g := Below.refl y3.heap.size y3
    go_region_held3 (fun W => (W.cell? ⟨w.heap.size, 0, none⟩ = some (.string un) ∧ W.cell? ⟨w.heap.size, 1, none⟩ = some (.string ud)) ∧ (W.cell? ⟨w.heap.size + 1, 0, none⟩ = some (.string vn) ∧ W.cell? ⟨w.heap.size + 1, 1, none⟩ = some (.string vd)) ∧ (W.cell? ⟨w.heap.size + 1 + 1, 0, none⟩ = some (.int .i64 l0) ∧ W.cell? ⟨w.heap.size + 1 + 1, 1, none⟩ = some (.int .i64 l1) ∧ W.cell? ⟨w.heap.size + 1 + 1, 2, none⟩ = some (.int .i64 l2) ∧ W.cell? ⟨w.heap.size + 1 + 1, 3, none⟩ = some (.int .i64 l3)) ∧ (W.cell? ⟨w.heap.size + 1 + 1 + 1, 0, none⟩ = some (.int .i64 m0) ∧ W.cell? ⟨w.heap.size + 1 + 1 + 1, 1, none⟩ = some (.int .i64 m1) ∧ W.cell? ⟨w.heap.size + 1 + 1 + 1, 2, none⟩ = some (.int .i64 m2) ∧ W.cell? ⟨w.heap.size + 1 + 1 + 1, 3, none⟩ = some (.int .i64 m3)) ∧ (W.cell? ⟨w.heap.size + 1 + 1 + 1 + 1, 0, none⟩ = some (.int .i64 s0) ∧ W.cell? ⟨w.heap.size + 1 + 1 + 1 + 1, 1, none⟩ = some (.int .i64 s1))) (first | exact K.out _ g | exact K.out _ ⟨g.os, g.tape, g.output, g.size, g.block⟩ | exact K.out _ (g.alloc g.size _)) (first | (go_at_call 13; (with_reducible refine (LL.out _).mono ?_); (rintro e y ⟨qa, ha, rfl, k'⟩); (have g : Below y3.heap.size y3 y := below_up (by first | exact g | exact ⟨g.os, g.tape, g.output, g.size, g.block⟩) k')) | (go_at_call 13; (with_reducible refine (LM.out _).mono ?_); (rintro e y ⟨qb, hb, rfl, k'⟩); (have g : Below y3.heap.size y3 y := below_up (by first | exact g | exact ⟨g.os, g.tape, g.output, g.size, g.block⟩) k')) | (go_at_call 14; (with_reducible refine (SS.out _).mono ?_); (rintro e y ⟨rfl, k'⟩); (have g : Below y3.heap.size y3 y := below_up (by first | exact g | exact ⟨g.os, g.tape, g.output, g.size, g.block⟩) k')))
    all_goals (
      have g2 : Below y3.heap.size y3 _ := (show Below y3.heap.size y3 _ by first | exact g | exact ⟨g.os, g.tape, g.output, g.size, g.block⟩)
      have fa := ha.fits; have fb := hb.fits
      go_wp2_with fail
      go_meet
      exact ⟨_, _, _, rfl, Lib.hid (fun k => ⟨five_size HU.out.1.1 HU.out.1.2.2.1 (nT_size fa) (nT_size fb) HU.out.2.1 k, five_size HU.out.1.2.1 HU.out.1.2.2.2 (dT_size fa) (dT_size fb) HU.out.2.2 k⟩), Lib.hid (tenAt_of (heap_alloc_new _ _)), Lib.hid (below_up M5.out.1 (g2.alloc g2.size _))⟩)
  case rest =>
    obtain ⟨AS, tn, td, rfl, HSZ, hten, hbx⟩ := hcut
    generalize wc = z4 at *
    have P4 := hbx
    have HRS := Lib.hid (HR0.out)
    have FT := Lib.hid (fun W (b : Below z4.heap.size z4 W) => TenAt.below hten.out b)
    have HRW := Lib.hid hbx.out
    clear hten hbx M1 M2 M3 M4 M5 M6 HY2 HY3 HM0 HW CX CY LL LM SS HU HRy HRS
    go_wp2_with fail
    go_loopw [19] (fun i wr => ∃ k : Nat, k ≤ 5 ∧ i = .int .i64 k ∧ Hid (Below z4.heap.size z4 wr)) (fun i _ => 5 - (RowKit.intOf i).toNat)
    case atStart => exact ⟨0, by omega, rfl, Lib.hid (Below.refl _ _)⟩
    case round =>
      obtain ⟨k, hk, rfl, hbw⟩ := hrel
      by_cases hk5 : k < 5
      · have hki : (k : Int) < 5 := by omega
        have HK5 := Lib.hid hk5
        generalize wr = z5 at *
        have B5 := hbw
        have P5 := Lib.hid (below_up P4.out hbw.out)
        clear hbw
        obtain ⟨XN, hXN⟩ : ∃ t, tn k = t := ⟨_, rfl⟩
        obtain ⟨XD, hXD⟩ : ∃ t, td k = t := ⟨_, rfl⟩
        obtain ⟨ZD, hZD⟩ : ∃ t, td 0 = t := ⟨_, rfl⟩
        have sx1 : XN.size ≤ 1000 := by rw [← hXN]; exact (HSZ.out k).1
        have sx2 : XD.size ≤ 1000 := by rw [← hXD]; exact (HSZ.out k).2
        have sz0 : ZD.size ≤ 1000 := by rw [← hZD]; exact (HSZ.out 0).2
        have FX := Lib.hid (show ∀ W, Below z4.heap.size z4 W → W.cell? ⟨AS, 2 * k, none⟩ = some (.string XN) ∧ W.cell? ⟨AS, 2 * k + 1, none⟩ = some (.string XD) from fun W b => by rw [← hXN, ← hXD]; exact FT.out W b k hk5)
        have FZ := Lib.hid (show ∀ W, Below z4.heap.size z4 W → W.cell? ⟨AS, 1, none⟩ = some (.string ZD) from fun W b => by rw [← hZD]; exact (FT.out W b 0 (by omega)).2)
        have HIK := Lib.hid (fun W => at_five AS k hk5 W)
        have SX1 := Lib.hid sx1; have SX2 := Lib.hid sx2; have SZ0 := Lib.hid sz0; have HKI := Lib.hid hki
        clear hXN hXD hZD sx1 sx2 sz0 hk hki
        have hki := HKI.out
        go_wp2_with fail
        go_loopw [20] (fun i wr => ∃ j : Nat, j ≤ 5 ∧ i = .int .i64 j ∧ Hid (Below z5.heap.size z5 wr)) (fun i _ => 5 - (RowKit.intOf i).toNat)
        case atStart => exact ⟨0, by omega, rfl, Lib.hid (Below.refl _ _)⟩
        case round =>
          obtain ⟨j, hj, rfl, hbw⟩ := hrel
          by_cases hj5 : j < 5
          · have hji : (j : Int) < 5 := by omega
            generalize wr = z6 at *
            have B6 := hbw
            have P6 := Lib.hid (below_up P5.out hbw.out)
            clear hbw
            obtain ⟨YN, hYN⟩ : ∃ t, tn j = t := ⟨_, rfl⟩
            obtain ⟨YD, hYD⟩ : ∃ t, td j = t := ⟨_, rfl⟩
            have sy1 : YN.size ≤ 1000 := by rw [← hYN]; exact (HSZ.out j).1
            have sy2 : YD.size ≤ 1000 := by rw [← hYD]; exact (HSZ.out j).2
            have FY := Lib.hid (show ∀ W, Below z4.heap.size z4 W → W.cell? ⟨AS, 2 * j, none⟩ = some (.string YN) ∧ W.cell? ⟨AS, 2 * j + 1, none⟩ = some (.string YD) from fun W b => by rw [← hYN, ← hYD]; exact FT.out W b j hj5)
            have HIJ := Lib.hid (fun W => at_five AS j hj5 W)
            have HJ5 := Lib.hid hj5; have HJI := Lib.hid hji
            have sx1 := SX1.out; have sx2 := SX2.out
            clear hYN hYD hj
            have cf := fun W (h : Ready W) => four_q XN XD YN YD (by omega) (by omega) (by omega) (by omega) W h
            have cc := fun W (h : Ready W) => cmp_q XN XD YN YD (by omega) (by omega) (by omega) (by omega) W h
            have cd := fun W => cmpR4_any XN XD YN YD (by omega) (by omega) (by omega) (by omega) W
            have csum := fun W => addR4_any XN XD YN YD (by omega) (by omega) (by omega) (by omega) W
            rw [show outN (addB XN XD YN YD) (valQ XN XD + valQ YN YD) = sumN XN XD YN YD from rfl, show outD (addB XN XD YN YD) (valQ XN XD + valQ YN YD) = sumD XN XD YN YD from rfl] at csum
            have cdif := fun W => subR4_any XN XD YN YD (by omega) (by omega) (by omega) (by omega) W
            rw [show outN (subB XN XD YN YD) (valQ XN XD - valQ YN YD) = difN XN XD YN YD from rfl, show outD (subB XN XD YN YD) (valQ XN XD - valQ YN YD) = difD XN XD YN YD from rfl] at cdif
            have cpro := fun W => mulR4_any XN XD YN YD (by omega) (by omega) (by omega) (by omega) W
            rw [show outN (mulB XN XD YN YD) (valQ XN XD * valQ YN YD) = proN XN XD YN YD from rfl, show outD (mulB XN XD YN YD) (valQ XN XD * valQ YN YD) = proD XN XD YN YD from rfl] at cpro
            have cquo := fun W => divR4_any XN XD YN YD (by omega) (by omega) (by omega) (by omega) W
            rw [show outN (divB XN XD YN YD) (valQ XN XD / valQ YN YD) = quoN XN XD YN YD from rfl, show outD (divB XN XD YN YD) (valQ XN XD / valQ YN YD) = quoD XN XD YN YD from rfl] at cquo
            generalize sumN XN XD YN YD = sumN' at *
            generalize sumD XN XD YN YD = sumD' at *
            generalize outE (addB XN XD YN YD) = sumE' at *
            generalize difN XN XD YN YD = difN' at *
            generalize difD XN XD YN YD = difD' at *
            generalize outE (subB XN XD YN YD) = difE' at *
            generalize proN XN XD YN YD = proN' at *
            generalize proD XN XD YN YD = proD' at *
            generalize outE (mulB XN XD YN YD) = proE' at *
            generalize quoN XN XD YN YD = quoN' at *
            generalize quoD XN XD YN YD = quoD' at *
            generalize outE (divB XN XD YN YD) = quoE' at *
            generalize cmpQ XN XD YN YD = CQ at *
            have CF := Lib.hid cf; have CC := Lib.hid cc; have CD := Lib.hid cd; have CS1 := Lib.hid csum; have CS2 := Lib.hid cdif; have CS3 := Lib.hid cpro; have CS4 := Lib.hid cquo
            clear cf cc cd csum cdif cpro cquo sx1 sx2 sy1 sy2 hj5
            have hik := HIK.out; have hij := HIJ.out
            obtain ⟨gx0, gx1⟩ := FX.out z6 (below_up B5.out (below_up B6.out (Below.refl _ _)))
            obtain ⟨gy0, gy1⟩ := FY.out z6 (below_up B5.out (below_up B6.out (Below.refl _ _)))
            obtain ⟨z7, hz7, b7, f7⟩ := box_one z6 XN XD
            have V7 := Lib.hid hz7; have F7 := Lib.hid f7
            clear hz7 f7
            have B7 := Lib.hid b7
            have P7 := Lib.hid (below_up P6.out b7)
            clear b7
            obtain ⟨gy2, gy3⟩ := FY.out z7 (below_up B5.out (below_up B6.out (below_up B7.out (Below.refl _ _))))
            go_upto_region 12 with (rw [V7.out])
            obtain ⟨z8, hz8, b8, f8⟩ := box_one z7 YN YD
            have V8 := Lib.hid hz8; have F8 := Lib.hid f8
            clear hz8 f8
            have B8 := Lib.hid b8
            have P8 := Lib.hid (below_up P7.out b8)
            clear b8
            go_upto_region 13 with (rw [V8.out])
            clear gx0 gx1 gy0 gy1 gy2 gy3 hik hij
            obtain ⟨qa0, qa1, qa2, qa3⟩ := F7.out z8 (below_up B8.out (Below.refl _ _))
            obtain ⟨qb0, qb1, qb2, qb3⟩ := F8.out z8 (Below.refl _ _)
            go_wp2_with fail
            refine (CF.out _ (HRW0.out.below P8.out)).mono ?_
            rintro e z9 ⟨rfl, b9⟩
            have B9 := Lib.hid b9
            have P9 := Lib.hid (below_up P8.out b9)
            clear b9
            clear qa0 qa1 qa2 qa3 qb0 qb1 qb2 qb3
            obtain ⟨z10, hz10, hp10⟩ := pair_box z9 sumN' sumD' difN' difD' proN' proD' quoN' quoD' sumE' difE' proE' quoE'
            have b10 := hp10.1
            have V10 := Lib.hid hz10; have G10 := Lib.hid (fun W (b : Below z10.heap.size z10 W) => hp10.below b)
            clear hz10 hp10
            have B10 := Lib.hid b10
            have P10 := Lib.hid (below_up P9.out b10)
            clear b10
            go_upto_region 14 with (rw [V10.out])
            obtain ⟨y0, hy0, hp0⟩ := pair_box z10 ⟨#[]⟩ ⟨#[]⟩ ⟨#[]⟩ ⟨#[]⟩ ⟨#[]⟩ ⟨#[]⟩ ⟨#[]⟩ ⟨#[]⟩ 0 0 0 0
            have VY0 := Lib.hid hy0; have HF0 := Lib.hid hp0
            clear hy0 hp0
            go_upto_region 16 with (rw [VY0.out])
            obtain ⟨qa0, qa1, qa2, qa3⟩ := F7.out y0 (below_up B8.out (below_up B9.out (below_up B10.out HF0.out.1)))
            obtain ⟨qb0, qb1, qb2, qb3⟩ := F8.out y0 (below_up B9.out (below_up B10.out HF0.out.1))
            go_wp2_with fail
            refine (CS1.out _).mono ?_
            rintro e x1 ⟨rfl, b1'⟩
            have G := HF0.out.below b1'
            obtain ⟨qb, qR, qE⟩ := G
            have f0 := (qR 0 (by simp)).2; have f1 := (qR 1 (by simp)).2; have f2 := (qE 0 (by simp)).2
            have g0 := (qR 0 (by simp)).1; have g1 := (qR 1 (by simp)).1; have g2 := (qE 0 (by simp)).1
            simp only [List.getElem_cons_zero, List.getElem_cons_succ] at g0 g1 g2
            have HG := Lib.hid ((((HF0.out.below b1').putR 0 (.string sumN')).putR 1 (.string sumD')).putE 0 (.int .i64 sumE'))
            clear qb qR qE qa0 qa1 qa2 qa3 qb0 qb1 qb2 qb3 b1'
            go_upto_region 17 with fail
            obtain ⟨y1, hy1⟩ : ∃ y, ((x1.setCell ⟨z10.heap.size, 0, none⟩ (.string sumN')).setCell ⟨z10.heap.size, 1, none⟩ (.string sumD')).setCell ⟨z10.heap.size + 1, 0, none⟩ (.int .i64 sumE') = y := ⟨_, rfl⟩
            rw [hy1]
            have HF1 := Lib.hid (show PairAt z10 [.string sumN', .string sumD', .string ⟨#[]⟩, .string ⟨#[]⟩, .string ⟨#[]⟩, .string ⟨#[]⟩, .string ⟨#[]⟩, .string ⟨#[]⟩] [.int .i64 sumE', .int .i64 0, .int .i64 0, .int .i64 0] y1 by rw [← hy1]; exact HG.out)
            clear f0 f1 f2 g0 g1 g2 hy1 HG
            obtain ⟨qa0, qa1, qa2, qa3⟩ := F7.out y1 (below_up B8.out (below_up B9.out (below_up B10.out HF1.out.1)))
            obtain ⟨qb0, qb1, qb2, qb3⟩ := F8.out y1 (below_up B9.out (below_up B10.out HF1.out.1))
            go_wp2_with fail
            refine (CS2.out _).mono ?_
            rintro e x2 ⟨rfl, b2'⟩
            have G := HF1.out.below b2'
            obtain ⟨qb, qR, qE⟩ := G
            have f0 := (qR 2 (by simp)).2; have f1 := (qR 3 (by simp)).2; have f2 := (qE 1 (by simp)).2
            have g0 := (qR 2 (by simp)).1; have g1 := (qR 3 (by simp)).1; have g2 := (qE 1 (by simp)).1
            simp only [List.getElem_cons_zero, List.getElem_cons_succ] at g0 g1 g2
            have HG := Lib.hid ((((HF1.out.below b2').putR 2 (.string difN')).putR 3 (.string difD')).putE 1 (.int .i64 difE'))
            clear qb qR qE qa0 qa1 qa2 qa3 qb0 qb1 qb2 qb3 b2'
            go_upto_region 18 with fail
            obtain ⟨y2, hy2⟩ : ∃ y, ((x2.setCell ⟨z10.heap.size, 2, none⟩ (.string difN')).setCell ⟨z10.heap.size, 3, none⟩ (.string difD')).setCell ⟨z10.heap.size + 1, 1, none⟩ (.int .i64 difE') = y := ⟨_, rfl⟩
            rw [hy2]
            have HF2 := Lib.hid (show PairAt z10 [.string sumN', .string sumD', .string difN', .string difD', .string ⟨#[]⟩, .string ⟨#[]⟩, .string ⟨#[]⟩, .string ⟨#[]⟩] [.int .i64 sumE', .int .i64 difE', .int .i64 0, .int .i64 0] y2 by rw [← hy2]; exact HG.out)
            clear f0 f1 f2 g0 g1 g2 hy2 HG
            obtain ⟨qa0, qa1, qa2, qa3⟩ := F7.out y2 (below_up B8.out (below_up B9.out (below_up B10.out HF2.out.1)))
            obtain ⟨qb0, qb1, qb2, qb3⟩ := F8.out y2 (below_up B9.out (below_up B10.out HF2.out.1))
            go_wp2_with fail
            refine (CS3.out _).mono ?_
            rintro e x3 ⟨rfl, b3'⟩
            have G := HF2.out.below b3'
            obtain ⟨qb, qR, qE⟩ := G
            have f0 := (qR 4 (by simp)).2; have f1 := (qR 5 (by simp)).2; have f2 := (qE 2 (by simp)).2
            have g0 := (qR 4 (by simp)).1; have g1 := (qR 5 (by simp)).1; have g2 := (qE 2 (by simp)).1
            simp only [List.getElem_cons_zero, List.getElem_cons_succ] at g0 g1 g2
            have HG := Lib.hid ((((HF2.out.below b3').putR 4 (.string proN')).putR 5 (.string proD')).putE 2 (.int .i64 proE'))
            clear qb qR qE qa0 qa1 qa2 qa3 qb0 qb1 qb2 qb3 b3'
            go_upto_region 19 with fail
            obtain ⟨y3, hy3⟩ : ∃ y, ((x3.setCell ⟨z10.heap.size, 4, none⟩ (.string proN')).setCell ⟨z10.heap.size, 5, none⟩ (.string proD')).setCell ⟨z10.heap.size + 1, 2, none⟩ (.int .i64 proE') = y := ⟨_, rfl⟩
            rw [hy3]
            have HF3 := Lib.hid (show PairAt z10 [.string sumN', .string sumD', .string difN', .string difD', .string proN', .string proD', .string ⟨#[]⟩, .string ⟨#[]⟩] [.int .i64 sumE', .int .i64 difE', .int .i64 proE', .int .i64 0] y3 by rw [← hy3]; exact HG.out)
            clear f0 f1 f2 g0 g1 g2 hy3 HG
            obtain ⟨qa0, qa1, qa2, qa3⟩ := F7.out y3 (below_up B8.out (below_up B9.out (below_up B10.out HF3.out.1)))
            obtain ⟨qb0, qb1, qb2, qb3⟩ := F8.out y3 (below_up B9.out (below_up B10.out HF3.out.1))
            go_wp2_with fail
            refine (CS4.out _).mono ?_
            rintro e x4 ⟨rfl, b4'⟩
            have G := HF3.out.below b4'
            obtain ⟨qb, qR, qE⟩ := G
            have f0 := (qR 6 (by simp)).2; have f1 := (qR 7 (by simp)).2; have f2 := (qE 3 (by simp)).2
            have g0 := (qR 6 (by simp)).1; have g1 := (qR 7 (by simp)).1; have g2 := (qE 3 (by simp)).1
            simp only [List.getElem_cons_zero, List.getElem_cons_succ] at g0 g1 g2
            have HG := Lib.hid ((((HF3.out.below b4').putR 6 (.string quoN')).putR 7 (.string quoD')).putE 3 (.int .i64 quoE'))
            clear qb qR qE qa0 qa1 qa2 qa3 qb0 qb1 qb2 qb3 b4'
            go_upto_region 20 with fail
            obtain ⟨y4, hy4⟩ : ∃ y, ((x4.setCell ⟨z10.heap.size, 6, none⟩ (.string quoN')).setCell ⟨z10.heap.size, 7, none⟩ (.string quoD')).setCell ⟨z10.heap.size + 1, 3, none⟩ (.int .i64 quoE') = y := ⟨_, rfl⟩
            rw [hy4]
            have HF4 := Lib.hid (show PairAt z10 [.string sumN', .string sumD', .string difN', .string difD', .string proN', .string proD', .string quoN', .string quoD'] [.int .i64 sumE', .int .i64 difE', .int .i64 proE', .int .i64 quoE'] y4 by rw [← hy4]; exact HG.out)
            clear f0 f1 f2 g0 g1 g2 hy4 HG
            generalize y4 = z11 at *
            have B11 := Lib.hid HF4.out.1
            have P11 := Lib.hid (below_up P10.out HF4.out.1)
            have G11 := Lib.hid (fun W (b : Below z11.heap.size z11 W) => HF4.out.below b)
            go_cut [133] from 117 to 133 (fun s133 wx => s133 = .bool false ∧ Hid (Below z11.heap.size z11 wx))
            case first =>
              have K := Lib.hid (show ∀ W, Below z11.heap.size z11 W → ((W.cell? ⟨z6.heap.size, 0, none⟩ = some (.string XN) ∧ W.cell? ⟨z6.heap.size, 1, none⟩ = some (.string XD)) ∧ (W.cell? ⟨z7.heap.size, 0, none⟩ = some (.string YN) ∧ W.cell? ⟨z7.heap.size, 1, none⟩ = some (.string YD)) ∧ (W.cell? ⟨z9.heap.size, 0, none⟩ = some (.string sumN') ∧ W.cell? ⟨z9.heap.size, 1, none⟩ = some (.string sumD') ∧ W.cell? ⟨z9.heap.size, 2, none⟩ = some (.string difN') ∧ W.cell? ⟨z9.heap.size, 3, none⟩ = some (.string difD') ∧ W.cell? ⟨z9.heap.size, 4, none⟩ = some (.string proN') ∧ W.cell? ⟨z9.heap.size, 5, none⟩ = some (.string proD') ∧ W.cell? ⟨z9.heap.size, 6, none⟩ = some (.string quoN') ∧ W.cell? ⟨z9.heap.size, 7, none⟩ = some (.string quoD')) ∧ (W.cell? ⟨z9.heap.size + 1, 0, none⟩ = some (.int .i64 sumE') ∧ W.cell? ⟨z9.heap.size + 1, 1, none⟩ = some (.int .i64 difE') ∧ W.cell? ⟨z9.heap.size + 1, 2, none⟩ = some (.int .i64 proE') ∧ W.cell? ⟨z9.heap.size + 1, 3, none⟩ = some (.int .i64 quoE')) ∧ (W.cell? ⟨z10.heap.size, 0, none⟩ = some (.string sumN') ∧ W.cell? ⟨z10.heap.size, 1, none⟩ = some (.string sumD') ∧ W.cell? ⟨z10.heap.size, 2, none⟩ = some (.string difN') ∧ W.cell? ⟨z10.heap.size, 3, none⟩ = some (.string difD') ∧ W.cell? ⟨z10.heap.size, 4, none⟩ = some (.string proN') ∧ W.cell? ⟨z10.heap.size, 5, none⟩ = some (.string proD') ∧ W.cell? ⟨z10.heap.size, 6, none⟩ = some (.string quoN') ∧ W.cell? ⟨z10.heap.size, 7, none⟩ = some (.string quoD')) ∧ (W.cell? ⟨z10.heap.size + 1, 0, none⟩ = some (.int .i64 sumE') ∧ W.cell? ⟨z10.heap.size + 1, 1, none⟩ = some (.int .i64 difE') ∧ W.cell? ⟨z10.heap.size + 1, 2, none⟩ = some (.int .i64 proE') ∧ W.cell? ⟨z10.heap.size + 1, 3, none⟩ = some (.int .i64 quoE'))) from fun W b => ⟨⟨(F7.out W (below_up B8.out (below_up B9.out (below_up B10.out (below_up B11.out b))))).1, (F7.out W (below_up B8.out (below_up B9.out (below_up B10.out (below_up B11.out b))))).2.1⟩, ⟨(F8.out W (below_up B9.out (below_up B10.out (below_up B11.out b)))).1, (F8.out W (below_up B9.out (below_up B10.out (below_up B11.out b)))).2.1⟩, ⟨((G10.out W (below_up B11.out b)).2.1 0 (by simp)).1, ((G10.out W (below_up B11.out b)).2.1 1 (by simp)).1, ((G10.out W (below_up B11.out b)).2.1 2 (by simp)).1, ((G10.out W (below_up B11.out b)).2.1 3 (by simp)).1, ((G10.out W (below_up B11.out b)).2.1 4 (by simp)).1, ((G10.out W (below_up B11.out b)).2.1 5 (by simp)).1, ((G10.out W (below_up B11.out b)).2.1 6 (by simp)).1, ((G10.out W (below_up B11.out b)).2.1 7 (by simp)).1⟩, ⟨((G10.out W (below_up B11.out b)).2.2 0 (by simp)).1, ((G10.out W (below_up B11.out b)).2.2 1 (by simp)).1, ((G10.out W (below_up B11.out b)).2.2 2 (by simp)).1, ((G10.out W (below_up B11.out b)).2.2 3 (by simp)).1⟩, ⟨((G11.out W b).2.1 0 (by simp)).1, ((G11.out W b).2.1 1 (by simp)).1, ((G11.out W b).2.1 2 (by simp)).1, ((G11.out W b).2.1 3 (by simp)).1, ((G11.out W b).2.1 4 (by simp)).1, ((G11.out W b).2.1 5 (by simp)).1, ((G11.out W b).2.1 6 (by simp)).1, ((G11.out W b).2.1 7 (by simp)).1⟩, ⟨((G11.out W b).2.2 0 (by simp)).1, ((G11.out W b).2.2 1 (by simp)).1, ((G11.out W b).2.2 2 (by simp)).1, ((G11.out W b).2.2 3 (by simp)).1⟩⟩)
              have HRz := Lib.hid (HRW0.out.below P11.out)
              have g := Below.refl z11.heap.size z11
              have er := fun W => eq_ratios sumN' sumD' difN' difD' proN' proD' quoN' quoD' W
              have ec := fun W => eq_codes sumE' difE' proE' quoE' W
              go_region_held3 (fun W => (W.cell? ⟨z6.heap.size, 0, none⟩ = some (.string XN) ∧ W.cell? ⟨z6.heap.size, 1, none⟩ = some (.string XD)) ∧ (W.cell? ⟨z7.heap.size, 0, none⟩ = some (.string YN) ∧ W.cell? ⟨z7.heap.size, 1, none⟩ = some (.string YD)) ∧ (W.cell? ⟨z9.heap.size, 0, none⟩ = some (.string sumN') ∧ W.cell? ⟨z9.heap.size, 1, none⟩ = some (.string sumD') ∧ W.cell? ⟨z9.heap.size, 2, none⟩ = some (.string difN') ∧ W.cell? ⟨z9.heap.size, 3, none⟩ = some (.string difD') ∧ W.cell? ⟨z9.heap.size, 4, none⟩ = some (.string proN') ∧ W.cell? ⟨z9.heap.size, 5, none⟩ = some (.string proD') ∧ W.cell? ⟨z9.heap.size, 6, none⟩ = some (.string quoN') ∧ W.cell? ⟨z9.heap.size, 7, none⟩ = some (.string quoD')) ∧ (W.cell? ⟨z9.heap.size + 1, 0, none⟩ = some (.int .i64 sumE') ∧ W.cell? ⟨z9.heap.size + 1, 1, none⟩ = some (.int .i64 difE') ∧ W.cell? ⟨z9.heap.size + 1, 2, none⟩ = some (.int .i64 proE') ∧ W.cell? ⟨z9.heap.size + 1, 3, none⟩ = some (.int .i64 quoE')) ∧ (W.cell? ⟨z10.heap.size, 0, none⟩ = some (.string sumN') ∧ W.cell? ⟨z10.heap.size, 1, none⟩ = some (.string sumD') ∧ W.cell? ⟨z10.heap.size, 2, none⟩ = some (.string difN') ∧ W.cell? ⟨z10.heap.size, 3, none⟩ = some (.string difD') ∧ W.cell? ⟨z10.heap.size, 4, none⟩ = some (.string proN') ∧ W.cell? ⟨z10.heap.size, 5, none⟩ = some (.string proD') ∧ W.cell? ⟨z10.heap.size, 6, none⟩ = some (.string quoN') ∧ W.cell? ⟨z10.heap.size, 7, none⟩ = some (.string quoD')) ∧ (W.cell? ⟨z10.heap.size + 1, 0, none⟩ = some (.int .i64 sumE') ∧ W.cell? ⟨z10.heap.size + 1, 1, none⟩ = some (.int .i64 difE') ∧ W.cell? ⟨z10.heap.size + 1, 2, none⟩ = some (.int .i64 proE') ∧ W.cell? ⟨z10.heap.size + 1, 3, none⟩ = some (.int .i64 quoE'))) (first | exact K.out _ g | exact K.out _ ⟨g.os, g.tape, g.output, g.size, g.block⟩) (first | (go_at_call 20; (with_reducible refine (CC.out _ ?_).mono ?_); (first | exact HRz.out.below g | exact HRz.out.below ⟨g.os, g.tape, g.output, g.size, g.block⟩); (rintro e y ⟨rfl, k'⟩); (have g : Below z11.heap.size z11 y := below_up (by first | exact g | exact ⟨g.os, g.tape, g.output, g.size, g.block⟩) k')) | (go_at_call 21; (with_reducible refine (CD.out _).mono ?_); (rintro e y ⟨rfl, k'⟩); (have g : Below z11.heap.size z11 y := below_up (by first | exact g | exact ⟨g.os, g.tape, g.output, g.size, g.block⟩) k')))
              all_goals (go_wp2_with fail; go_meet; first | exact ⟨rfl, Lib.hid g⟩ | exact ⟨rfl, Lib.hid ⟨g.os, g.tape, g.output, g.size, g.block⟩⟩)
            case rest =>
              obtain ⟨rfl, hbx⟩ := hcut
              generalize wc = z12 at *
              have B12 := hbx
              have P12 := Lib.hid (below_up P11.out hbx.out)
              clear hbx
              have hji := HJI.out; have hj5 := HJ5.out
              go_wp2_with fail
              go_roundw
              case rel => exact ⟨j + 1, by omega, by go_num, Lib.hid (below_up B6.out (below_up B7.out (below_up B8.out (below_up B9.out (below_up B10.out (below_up B11.out (below_up B12.out (Below.refl _ _))))))))⟩
              case measure => simp [RowKit.intOf]; omega
          · have hji : ¬ (j : Int) < 5 := by omega
            clear hj hj5
            generalize wr = z6 at *
            have B6 := hbw
            have P6 := Lib.hid (below_up P5.out hbw.out)
            clear hbw
            go_wp2_with fail
            refine (PK.out _).mono ?_
            rintro e zq106 ⟨rfl, rfl⟩
            clear hji
            obtain ⟨z7, hz7, b7, hp7⟩ := ints_box z6 places pp
            have V7 := Lib.hid hz7; have FI := Lib.hid hp7
            clear hz7 hp7
            have B7 := Lib.hid b7
            have P7 := Lib.hid (below_up P6.out b7)
            clear b7
            go_wp2_with (rw [V7.out])
            go_loopw [139] (fun i wr => ∃ j : Nat, j ≤ 2 ∧ i = .int .i64 j ∧ Hid (Below z7.heap.size z7 wr)) (fun i _ => 2 - (RowKit.intOf i).toNat)
            case atStart => exact ⟨0, by omega, rfl, Lib.hid (Below.refl _ _)⟩
            case round =>
              obtain ⟨j, hj, rfl, hbw⟩ := hrel
              have hj2 : j = 0 ∨ j = 1 ∨ j = 2 := by omega
              clear hj
              rcases hj2 with rfl | rfl | rfl
              · skip
                generalize wr = z8 at *
                have B8 := hbw
                have P8 := Lib.hid (below_up P7.out hbw.out)
                clear hbw
                have hp := HPL.out; have sx1 := SX1.out; have sx2 := SX2.out
                have c1 := fun W (h : Ready W) => down_q XN XD (by omega) (by omega) places hp.1 hp.2 W h
                have c3 := fun W (h : Ready W) => up_q XN XD (by omega) (by omega) places hp.1 hp.2 W h
                have c2 := fun W => downR4_any XN XD (by omega) (by omega) places hp.1 hp.2 W
                have c4 := fun W => upR4_any XN XD (by omega) (by omega) places hp.1 hp.2 W
                generalize outN (gridB XN XD places) (downV XN XD places) = DN at *
                generalize outD (gridB XN XD places) (downV XN XD places) = DD at *
                generalize outN (gridB XN XD places) (upV XN XD places) = UN at *
                generalize outD (gridB XN XD places) (upV XN XD places) = UD at *
                generalize outE (gridB XN XD places) = GE at *
                have C1 := Lib.hid c1; have C2 := Lib.hid c2; have C3 := Lib.hid c3; have C4 := Lib.hid c4
                clear c1 c2 c3 c4 hp sx1 sx2
                have hik := HIK.out
                have ei := ((FI.out z8 (below_up B8.out (Below.refl _ _))) 0 (by simp)).1
                simp only [List.getElem_cons_zero] at ei
                obtain ⟨gx0, gx1⟩ := FX.out z8 (below_up B5.out (below_up B6.out (below_up B7.out (below_up B8.out (Below.refl _ _)))))
                go_wp2_with fail
                refine (C1.out _ (HRW0.out.below P8.out)).mono ?_
                rintro e z9 ⟨rfl, b9⟩
                have B9 := Lib.hid b9
                have P9 := Lib.hid (below_up P8.out b9)
                clear b9
                clear gx0 gx1 ei
                obtain ⟨z10, hz10, b10, f10⟩ := box_one z9 DN DD
                have V10 := Lib.hid hz10; have F10 := Lib.hid f10
                clear hz10 f10
                have B10 := Lib.hid b10
                have P10 := Lib.hid (below_up P9.out b10)
                clear b10
                obtain ⟨gx0, gx1⟩ := FX.out z10 (below_up B5.out (below_up B6.out (below_up B7.out (below_up B8.out (below_up B9.out (below_up B10.out (Below.refl _ _)))))))
                go_wp2_with (rw [V10.out])
                refine (C2.out _).mono ?_
                rintro e z11 ⟨rfl, b11⟩
                have B11 := Lib.hid b11
                have P11 := Lib.hid (below_up P10.out b11)
                clear b11
                clear gx0 gx1
                obtain ⟨z12, hz12, b12, f12⟩ := box_one z11 DN DD
                have V12 := Lib.hid hz12; have F12 := Lib.hid f12
                clear hz12 f12
                have B12 := Lib.hid b12
                have P12 := Lib.hid (below_up P11.out b12)
                clear b12
                obtain ⟨gx0, gx1⟩ := FX.out z12 (below_up B5.out (below_up B6.out (below_up B7.out (below_up B8.out (below_up B9.out (below_up B10.out (below_up B11.out (below_up B12.out (Below.refl _ _)))))))))
                go_wp2_with (rw [V12.out])
                refine (C3.out _ (HRW0.out.below P12.out)).mono ?_
                rintro e z13 ⟨rfl, b13⟩
                have B13 := Lib.hid b13
                have P13 := Lib.hid (below_up P12.out b13)
                clear b13
                clear gx0 gx1
                obtain ⟨z14, hz14, b14, f14⟩ := box_one z13 UN UD
                have V14 := Lib.hid hz14; have F14 := Lib.hid f14
                clear hz14 f14
                have B14 := Lib.hid b14
                have P14 := Lib.hid (below_up P13.out b14)
                clear b14
                obtain ⟨gx0, gx1⟩ := FX.out z14 (below_up B5.out (below_up B6.out (below_up B7.out (below_up B8.out (below_up B9.out (below_up B10.out (below_up B11.out (below_up B12.out (below_up B13.out (below_up B14.out (Below.refl _ _)))))))))))
                go_wp2_with (rw [V14.out])
                refine (C4.out _).mono ?_
                rintro e z15 ⟨rfl, b15⟩
                have B15 := Lib.hid b15
                have P15 := Lib.hid (below_up P14.out b15)
                clear b15
                clear gx0 gx1
                obtain ⟨z16, hz16, b16, f16⟩ := box_one z15 UN UD
                have V16 := Lib.hid hz16; have F16 := Lib.hid f16
                clear hz16 f16
                have B16 := Lib.hid b16
                have P16 := Lib.hid (below_up P15.out b16)
                clear b16
                go_upto_region 29 with (rw [V16.out])
                clear hik
                go_cut [196] from 179 to 196 (fun s196 wx => s196 = .bool false ∧ wx = z16)
                case first =>
                  obtain ⟨qp10, qp11, qp12, qp13⟩ := F10.out z16 (below_up B11.out (below_up B12.out (below_up B13.out (below_up B14.out (below_up B15.out (below_up B16.out (Below.refl _ _)))))))
                  obtain ⟨qp20, qp21, qp22, qp23⟩ := F12.out z16 (below_up B13.out (below_up B14.out (below_up B15.out (below_up B16.out (Below.refl _ _)))))
                  obtain ⟨qp30, qp31, qp32, qp33⟩ := F14.out z16 (below_up B15.out (below_up B16.out (Below.refl _ _)))
                  obtain ⟨qp40, qp41, qp42, qp43⟩ := F16.out z16 (Below.refl _ _)
                  go_wp2_with fail
                  go_meet
                  exact ⟨rfl, rfl⟩
                case rest =>
                  obtain ⟨rfl, rfl⟩ := hcut
                  generalize wc = z16 at *
                  go_wp2_with fail
                  go_roundw
                  case rel => exact ⟨1, by omega, rfl, Lib.hid (below_up B8.out (below_up B9.out (below_up B10.out (below_up B11.out (below_up B12.out (below_up B13.out (below_up B14.out (below_up B15.out (below_up B16.out (Below.refl _ _))))))))))⟩
                  case measure => simp [RowKit.intOf]
              · skip
                generalize wr = z8 at *
                have B8 := hbw
                have P8 := Lib.hid (below_up P7.out hbw.out)
                clear hbw
                have hp := HPP.out; have sx1 := SX1.out; have sx2 := SX2.out
                have c1 := fun W (h : Ready W) => down_q XN XD (by omega) (by omega) pp hp.1 hp.2 W h
                have c3 := fun W (h : Ready W) => up_q XN XD (by omega) (by omega) pp hp.1 hp.2 W h
                have c2 := fun W => downR4_any XN XD (by omega) (by omega) pp hp.1 hp.2 W
                have c4 := fun W => upR4_any XN XD (by omega) (by omega) pp hp.1 hp.2 W
                generalize outN (gridB XN XD pp) (downV XN XD pp) = DN at *
                generalize outD (gridB XN XD pp) (downV XN XD pp) = DD at *
                generalize outN (gridB XN XD pp) (upV XN XD pp) = UN at *
                generalize outD (gridB XN XD pp) (upV XN XD pp) = UD at *
                generalize outE (gridB XN XD pp) = GE at *
                have C1 := Lib.hid c1; have C2 := Lib.hid c2; have C3 := Lib.hid c3; have C4 := Lib.hid c4
                clear c1 c2 c3 c4 hp sx1 sx2
                have hik := HIK.out
                have ei := ((FI.out z8 (below_up B8.out (Below.refl _ _))) 1 (by simp)).1
                simp only [List.getElem_cons_zero, List.getElem_cons_succ] at ei
                obtain ⟨gx0, gx1⟩ := FX.out z8 (below_up B5.out (below_up B6.out (below_up B7.out (below_up B8.out (Below.refl _ _)))))
                go_wp2_with fail
                refine (C1.out _ (HRW0.out.below P8.out)).mono ?_
                rintro e z9 ⟨rfl, b9⟩
                have B9 := Lib.hid b9
                have P9 := Lib.hid (below_up P8.out b9)
                clear b9
                clear gx0 gx1 ei
                obtain ⟨z10, hz10, b10, f10⟩ := box_one z9 DN DD
                have V10 := Lib.hid hz10; have F10 := Lib.hid f10
                clear hz10 f10
                have B10 := Lib.hid b10
                have P10 := Lib.hid (below_up P9.out b10)
                clear b10
                obtain ⟨gx0, gx1⟩ := FX.out z10 (below_up B5.out (below_up B6.out (below_up B7.out (below_up B8.out (below_up B9.out (below_up B10.out (Below.refl _ _)))))))
                go_wp2_with (rw [V10.out])
                refine (C2.out _).mono ?_
                rintro e z11 ⟨rfl, b11⟩
                have B11 := Lib.hid b11
                have P11 := Lib.hid (below_up P10.out b11)
                clear b11
                clear gx0 gx1
                obtain ⟨z12, hz12, b12, f12⟩ := box_one z11 DN DD
                have V12 := Lib.hid hz12; have F12 := Lib.hid f12
                clear hz12 f12
                have B12 := Lib.hid b12
                have P12 := Lib.hid (below_up P11.out b12)
                clear b12
                obtain ⟨gx0, gx1⟩ := FX.out z12 (below_up B5.out (below_up B6.out (below_up B7.out (below_up B8.out (below_up B9.out (below_up B10.out (below_up B11.out (below_up B12.out (Below.refl _ _)))))))))
                go_wp2_with (rw [V12.out])
                refine (C3.out _ (HRW0.out.below P12.out)).mono ?_
                rintro e z13 ⟨rfl, b13⟩
                have B13 := Lib.hid b13
                have P13 := Lib.hid (below_up P12.out b13)
                clear b13
                clear gx0 gx1
                obtain ⟨z14, hz14, b14, f14⟩ := box_one z13 UN UD
                have V14 := Lib.hid hz14; have F14 := Lib.hid f14
                clear hz14 f14
                have B14 := Lib.hid b14
                have P14 := Lib.hid (below_up P13.out b14)
                clear b14
                obtain ⟨gx0, gx1⟩ := FX.out z14 (below_up B5.out (below_up B6.out (below_up B7.out (below_up B8.out (below_up B9.out (below_up B10.out (below_up B11.out (below_up B12.out (below_up B13.out (below_up B14.out (Below.refl _ _)))))))))))
                go_wp2_with (rw [V14.out])
                refine (C4.out _).mono ?_
                rintro e z15 ⟨rfl, b15⟩
                have B15 := Lib.hid b15
                have P15 := Lib.hid (below_up P14.out b15)
                clear b15
                clear gx0 gx1
                obtain ⟨z16, hz16, b16, f16⟩ := box_one z15 UN UD
                have V16 := Lib.hid hz16; have F16 := Lib.hid f16
                clear hz16 f16
                have B16 := Lib.hid b16
                have P16 := Lib.hid (below_up P15.out b16)
                clear b16
                go_upto_region 29 with (rw [V16.out])
                clear hik
                go_cut [196] from 179 to 196 (fun s196 wx => s196 = .bool false ∧ wx = z16)
                case first =>
                  obtain ⟨qp10, qp11, qp12, qp13⟩ := F10.out z16 (below_up B11.out (below_up B12.out (below_up B13.out (below_up B14.out (below_up B15.out (below_up B16.out (Below.refl _ _)))))))
                  obtain ⟨qp20, qp21, qp22, qp23⟩ := F12.out z16 (below_up B13.out (below_up B14.out (below_up B15.out (below_up B16.out (Below.refl _ _)))))
                  obtain ⟨qp30, qp31, qp32, qp33⟩ := F14.out z16 (below_up B15.out (below_up B16.out (Below.refl _ _)))
                  obtain ⟨qp40, qp41, qp42, qp43⟩ := F16.out z16 (Below.refl _ _)
                  go_wp2_with fail
                  go_meet
                  exact ⟨rfl, rfl⟩
                case rest =>
                  obtain ⟨rfl, rfl⟩ := hcut
                  generalize wc = z16 at *
                  go_wp2_with fail
                  go_roundw
                  case rel => exact ⟨2, by omega, rfl, Lib.hid (below_up B8.out (below_up B9.out (below_up B10.out (below_up B11.out (below_up B12.out (below_up B13.out (below_up B14.out (below_up B15.out (below_up B16.out (Below.refl _ _))))))))))⟩
                  case measure => simp [RowKit.intOf]
              · skip
                generalize wr = z8 at *
                have B8 := hbw
                have P8 := Lib.hid (below_up P7.out hbw.out)
                clear hbw
                have sx1 := SX1.out; have sx2 := SX2.out; have sz0 := SZ0.out
                have mk := fun W (h : Ready W) => make_q XN ZD (by omega) (by omega) W h
                have mr := fun W => makeR4_any XN ZD (by omega) (by omega) W
                generalize outN (makeB XN ZD) (valQ XN ZD) = MN at *
                generalize outD (makeB XN ZD) (valQ XN ZD) = MD at *
                generalize outE (makeB XN ZD) = ME at *
                have va := fun W (h : Ready W) => valid_q XN XD (by omega) (by omega) W h
                have vr := fun W => validR4_any XN XD (by omega) (by omega) W
                generalize validQ XN XD = VB at *
                have MK := Lib.hid mk; have MR := Lib.hid mr; have VA := Lib.hid va; have VR := Lib.hid vr
                have HI0 := Lib.hid (fun W => at_first AS W)
                clear mk mr va vr sx1 sx2 sz0
                go_upto_region 32 with fail
                go_cut [37, 38] from 198 to 210 (fun sp se wx => se = .int .i64 ME ∧ ∃ A : Nat, sp = .pointer (some ⟨A, 0, none⟩) ∧ Hid (RatAt wx A MN MD) ∧ Hid (Below z8.heap.size z8 wx))
                case first =>
                  have K3 := Lib.hid (show ∀ W, Below z8.heap.size z8 W → (W.cell? ⟨AS, 2 * k, none⟩ = some (.string XN) ∧ W.cell? ⟨AS, 1, none⟩ = some (.string ZD)) from fun W b => ⟨(FX.out W (below_up B5.out (below_up B6.out (below_up B7.out (below_up B8.out b))))).1, FZ.out W (below_up B5.out (below_up B6.out (below_up B7.out (below_up B8.out b))))⟩)
                  have hik := HIK.out; have hi0 := HI0.out
                  go_region_held3 (fun W => (W.cell? ⟨AS, 2 * k, none⟩ = some (.string XN) ∧ W.cell? ⟨AS, 1, none⟩ = some (.string ZD))) (first | exact K3.out _ ⟨rfl, rfl, rfl, Nat.le_refl _, fun _ _ => rfl⟩ | exact K3.out _ (((Below.refl _ _).alloc (Nat.le_refl _) _).drew) | exact K3.out _ ((Below.refl _ _).drew.alloc (Nat.le_refl _) _) | exact K3.out _ ((Below.refl _ _).alloc (Nat.le_refl _) _) | exact K3.out _ h2 | exact K3.out _ (h2.alloc h2.size _) | exact K3.out _ ((h2.setCell (p := _) (by first | exact Nat.le_refl _ | simp) _).setCell (p := _) (by first | exact Nat.le_refl _ | simp) _)) (first | (go_at_call 27; (refine (MK.out _ (HRW0.out.below (below_up P8.out (by first | exact (Below.refl _ _).drew | exact ((Below.refl _ _).alloc (Nat.le_refl _) _).drew | exact ((Below.refl _ _).drew.alloc (Nat.le_refl _) _) | exact Below.refl _ _ | exact (Below.refl _ _).alloc (Nat.le_refl _) _)))).mono ?_); (rintro e y2 ⟨rfl, hb2'⟩); (have h2 : Below z8.heap.size z8 y2 := below_up (by first | exact (Below.refl _ _).drew | exact ((Below.refl _ _).alloc (Nat.le_refl _) _).drew | exact ((Below.refl _ _).drew.alloc (Nat.le_refl _) _) | exact Below.refl _ _ | exact (Below.refl _ _).alloc (Nat.le_refl _) _) hb2'); (first | ((have e2 : RatAt y2 z8.heap.size ⟨#[]⟩ ⟨#[]⟩ := ratAt_alloc (W := z8) (t := 23) ⟨hb2'.os, hb2'.tape, hb2'.output, hb2'.size, hb2'.block⟩); (obtain ⟨q1, q2, q3, q4⟩ := e2)) | ((have e2 : RatAt y2 z8.heap.size ⟨#[]⟩ ⟨#[]⟩ := ratAt_alloc (W := z8.drew) (t := 23) hb2'); (obtain ⟨q1, q2, q3, q4⟩ := e2)) | skip)))
                  all_goals (go_wp2_with fail; go_meet; exact ⟨rfl, _, rfl, by first | exact ratAt_of (heap_alloc_new _ _) | exact ratAt_set (n := ⟨#[]⟩) (d := ⟨#[]⟩) ⟨q1, q2, q3, q4⟩, by first | exact h2.alloc h2.size _ | exact (h2.setCell (p := _) (by first | exact Nat.le_refl _ | simp) _).setCell (p := _) (by first | exact Nat.le_refl _ | simp) _⟩)
                case rest =>
                  obtain ⟨rfl, ADe1, rfl, hrat, hbx⟩ := hcut
                  generalize wc = z9 at *
                  have B9 := Lib.hid hbx.out
                  have P9 := Lib.hid (below_up P8.out hbx.out)
                  have F9 := Lib.hid (fun W (b : Below z9.heap.size z9 W) => RatAt.below hrat.out b)
                  clear hbx hrat
                  go_upto_region 33 with fail
                  go_cut [39, 40] from 211 to 223 (fun sp se wx => se = .int .i64 ME ∧ ∃ A : Nat, sp = .pointer (some ⟨A, 0, none⟩) ∧ Hid (RatAt wx A MN MD) ∧ Hid (Below z9.heap.size z9 wx))
                  case first =>
                    have K3 := Lib.hid (show ∀ W, Below z9.heap.size z9 W → (W.cell? ⟨AS, 2 * k, none⟩ = some (.string XN) ∧ W.cell? ⟨AS, 1, none⟩ = some (.string ZD)) from fun W b => ⟨(FX.out W (below_up B5.out (below_up B6.out (below_up B7.out (below_up B8.out (below_up B9.out b)))))).1, FZ.out W (below_up B5.out (below_up B6.out (below_up B7.out (below_up B8.out (below_up B9.out b)))))⟩)
                    have hik := HIK.out; have hi0 := HI0.out
                    go_region_held3 (fun W => (W.cell? ⟨AS, 2 * k, none⟩ = some (.string XN) ∧ W.cell? ⟨AS, 1, none⟩ = some (.string ZD))) (first | exact K3.out _ ⟨rfl, rfl, rfl, Nat.le_refl _, fun _ _ => rfl⟩ | exact K3.out _ (((Below.refl _ _).alloc (Nat.le_refl _) _).drew) | exact K3.out _ ((Below.refl _ _).drew.alloc (Nat.le_refl _) _) | exact K3.out _ ((Below.refl _ _).alloc (Nat.le_refl _) _) | exact K3.out _ h2 | exact K3.out _ (h2.alloc h2.size _) | exact K3.out _ ((h2.setCell (p := _) (by first | exact Nat.le_refl _ | simp) _).setCell (p := _) (by first | exact Nat.le_refl _ | simp) _)) (first | (go_at_call 28; (refine (MR.out _).mono ?_); (rintro e y2 ⟨rfl, hb2'⟩); (have h2 : Below z9.heap.size z9 y2 := below_up (by first | exact (Below.refl _ _).drew | exact ((Below.refl _ _).alloc (Nat.le_refl _) _).drew | exact ((Below.refl _ _).drew.alloc (Nat.le_refl _) _) | exact Below.refl _ _ | exact (Below.refl _ _).alloc (Nat.le_refl _) _) hb2'); (first | ((have e2 : RatAt y2 z9.heap.size ⟨#[]⟩ ⟨#[]⟩ := ratAt_alloc (W := z9) (t := 23) ⟨hb2'.os, hb2'.tape, hb2'.output, hb2'.size, hb2'.block⟩); (obtain ⟨q1, q2, q3, q4⟩ := e2)) | ((have e2 : RatAt y2 z9.heap.size ⟨#[]⟩ ⟨#[]⟩ := ratAt_alloc (W := z9.drew) (t := 23) hb2'); (obtain ⟨q1, q2, q3, q4⟩ := e2)) | skip)))
                    all_goals (go_wp2_with fail; go_meet; exact ⟨rfl, _, rfl, by first | exact ratAt_of (heap_alloc_new _ _) | exact ratAt_set (n := ⟨#[]⟩) (d := ⟨#[]⟩) ⟨q1, q2, q3, q4⟩, by first | exact h2.alloc h2.size _ | exact (h2.setCell (p := _) (by first | exact Nat.le_refl _ | simp) _).setCell (p := _) (by first | exact Nat.le_refl _ | simp) _⟩)
                  case rest =>
                    obtain ⟨rfl, ADe2, rfl, hrat, hbx⟩ := hcut
                    generalize wc = z10 at *
                    have B10 := Lib.hid hbx.out
                    have P10 := Lib.hid (below_up P9.out hbx.out)
                    have F10 := Lib.hid (fun W (b : Below z10.heap.size z10 W) => RatAt.below hrat.out b)
                    clear hbx hrat
                    go_upto_region 34 with fail
                    go_cut [244] from 224 to 244 (fun s244 wx => s244 = .bool false ∧ Hid (Below z10.heap.size z10 wx))
                    case first =>
                      have K := Lib.hid (show ∀ W, Below z10.heap.size z10 W → ((W.cell? ⟨AS, 2 * k, none⟩ = some (.string XN) ∧ W.cell? ⟨AS, 2 * k + 1, none⟩ = some (.string XD)) ∧ (W.cell? ⟨ADe1, 0, none⟩ = some (.string MN) ∧ W.cell? ⟨ADe1, 1, none⟩ = some (.string MD)) ∧ (W.cell? ⟨ADe2, 0, none⟩ = some (.string MN) ∧ W.cell? ⟨ADe2, 1, none⟩ = some (.string MD))) from fun W b => ⟨FX.out W (below_up B5.out (below_up B6.out (below_up B7.out (below_up B8.out (below_up B9.out (below_up B10.out b)))))), ⟨(F9.out W (below_up B10.out b)).1, (F9.out W (below_up B10.out b)).2.1⟩, ⟨(F10.out W b).1, (F10.out W b).2.1⟩⟩)
                      have HRz := Lib.hid (HRW0.out.below P10.out)
                      have g := Below.refl z10.heap.size z10
                      have hik := HIK.out
                      go_region_held3 (fun W => (W.cell? ⟨AS, 2 * k, none⟩ = some (.string XN) ∧ W.cell? ⟨AS, 2 * k + 1, none⟩ = some (.string XD)) ∧ (W.cell? ⟨ADe1, 0, none⟩ = some (.string MN) ∧ W.cell? ⟨ADe1, 1, none⟩ = some (.string MD)) ∧ (W.cell? ⟨ADe2, 0, none⟩ = some (.string MN) ∧ W.cell? ⟨ADe2, 1, none⟩ = some (.string MD))) (first | exact K.out _ g | exact K.out _ ⟨g.os, g.tape, g.output, g.size, g.block⟩) (first | (go_at_call 29; (with_reducible refine (VA.out _ ?_).mono ?_); (first | exact HRz.out.below g | exact HRz.out.below ⟨g.os, g.tape, g.output, g.size, g.block⟩); (rintro e y ⟨rfl, k'⟩); (have g : Below z10.heap.size z10 y := below_up (by first | exact g | exact ⟨g.os, g.tape, g.output, g.size, g.block⟩) k')) | (go_at_call 30; (with_reducible refine (VR.out _).mono ?_); (rintro e y ⟨rfl, k'⟩); (have g : Below z10.heap.size z10 y := below_up (by first | exact g | exact ⟨g.os, g.tape, g.output, g.size, g.block⟩) k')))
                      all_goals (go_wp2_with fail; go_meet; first | exact ⟨rfl, Lib.hid g⟩ | exact ⟨rfl, Lib.hid ⟨g.os, g.tape, g.output, g.size, g.block⟩⟩)
                    case rest =>
                      obtain ⟨rfl, hbx⟩ := hcut
                      generalize wc = z11 at *
                      have B11 := hbx
                      have P11 := Lib.hid (below_up P10.out hbx.out)
                      clear hbx
                      have hki := HKI.out; have hk5 := HK5.out
                      go_wp2_with fail
                      go_roundw
                      case rel => exact ⟨k + 1, by omega, by go_num, Lib.hid (below_up B5.out (below_up B6.out (below_up B7.out (below_up B8.out (below_up B9.out (below_up B10.out (below_up B11.out (Below.refl _ _))))))))⟩
                      case measure => simp [RowKit.intOf]; omega
      · have hki : ¬ (k : Int) < 5 := by omega
        clear hk hk5
        generalize wr = z5 at *
        have B5 := hbw
        have P5 := Lib.hid (below_up P4.out hbw.out)
        clear hbw
        go_wp2_with fail
        refine (OFQ.out _ (HRW0.out.below P5.out)).mono ?_
        rintro e z6 ⟨rfl, b6⟩
        have B6 := Lib.hid b6
        have P6 := Lib.hid (below_up P5.out b6)
        clear b6
        clear hki
        obtain ⟨z7, hz7, b7, f7⟩ := box_one z6 ON OD
        have V7 := Lib.hid hz7; have F7 := Lib.hid f7
        clear hz7 f7
        have B7 := Lib.hid b7
        have P7 := Lib.hid (below_up P6.out b7)
        clear b7
        go_wp2_with (rw [V7.out])
        refine (OFR.out _).mono ?_
        rintro e z8 ⟨rfl, b8⟩
        have B8 := Lib.hid b8
        have P8 := Lib.hid (below_up P7.out b8)
        clear b8
        obtain ⟨z9, hz9, b9, f9⟩ := box_one z8 ON OD
        have V9 := Lib.hid hz9; have F9 := Lib.hid f9
        clear hz9 f9
        have B9 := Lib.hid b9
        have P9 := Lib.hid (below_up P8.out b9)
        clear b9
        go_upto_region 38 with (rw [V9.out])
        obtain ⟨qf10, qf11, qf12, qf13⟩ := F7.out z9 (below_up B8.out (below_up B9.out (Below.refl _ _)))
        obtain ⟨qf20, qf21, qf22, qf23⟩ := F9.out z9 (Below.refl _ _)
        go_wp2
        go_ret
        exact ⟨rfl, P9.out⟩
end Go.Proofs.YtlcibnmcannapaaGreatDoor
