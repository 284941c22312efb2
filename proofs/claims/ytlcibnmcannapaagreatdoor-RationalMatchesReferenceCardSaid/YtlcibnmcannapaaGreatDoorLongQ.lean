/-
  The contract of the reference's Long.
-/
import Derived.Test.YtlcibnmcannapaaGreatDoorPickQ
import Derived.Test.YtlcibnmcannapaaGreatDoorRefP
namespace Go.Proofs.YtlcibnmcannapaaGreatDoor
open Go Go.Proofs Go.RowKit Go.Lib

/-- A fraction of at most 100 digits. -/
def LongQ (q : Rat) : Prop := q.num.natAbs < 10 ^ 100 ∧ q.den < 10 ^ 100
theorem LongQ.fits {q : Rat} (h : LongQ q) : FitsQ q := by
  have : (10 : Nat) ^ 100 ≤ 10 ^ 200 := Nat.pow_le_pow_right (by decide) (by decide)
  exact ⟨Nat.lt_of_lt_of_le h.1 this, by unfold Fits; rw [Int.natAbs_natCast]; exact Nat.lt_of_lt_of_le h.2 this⟩
def IsTxt (l : List Nat) : Prop := ∀ d ∈ l, 48 ≤ d ∧ d < 58
/-- A text of digits, without a zero ahead. -/
def DigX (s : ByteArray) : Prop := ∃ v : Nat, v < 10 ^ 100 ∧ s = textI (v : Int)
theorem long_text {l : List Nat} (h : IsTxt l) (h1 : 1 ≤ l.length) (h2 : l.length ≤ 100) (h3 : l.length = 1 ∨ l.head? ≠ some 48) : DigX (byteL l) := by
  have hb : bytesL (byteL l) = l := bytesL_byteL (fun x hx => by have := h x hx; omega)
  have hp : plainB l = true := by
    unfold plainB
    have e1 : l.all (fun x => decide (48 ≤ x ∧ x < 58)) = true := by
      rw [List.all_eq_true]; intro x hx; exact decide_eq_true (h x hx)
    rw [e1, decide_eq_true (show 0 < l.length ∧ l.length ≤ 200 by omega), Bool.true_and, Bool.true_and, Bool.or_eq_true, decide_eq_true_eq, decide_eq_true_eq]
    rcases h3 with h3 | h3
    · match l, h3 with
      | [x], _ =>
        by_cases hx : x = 48
        · exact .inl (by rw [hx])
        · exact .inr (by simpa using hx)
    · exact .inr h3
  have hvn : validL l = true ∧ numL l = (valD (digT l) : Int) := by
    match l, h1, h, hp with
    | x :: r, _, h, hp =>
      have hx := (h x (List.mem_cons_self ..)).1
      have hne : x ≠ 45 := by omega
      constructor
      · unfold validL
        split
        · rename_i heq; injection heq with e _; exact absurd e hne
        · exact hp
      · unfold numL
        split
        · rename_i heq; injection heq with e _; exact absurd e hne
        · rfl
  have hv : validB (byteL l) = true := by unfold validB; rw [hb]; exact hvn.1
  have hn : numB (byteL l) = (valD (digT l) : Int) := by unfold numB; rw [hb]; exact hvn.2
  refine ⟨valD (digT l), ?_, by rw [← hn]; exact (text_valid hv).2⟩
  have := valD_lt (digT_dig h)
  rw [show (digT l).length = l.length by unfold digT; simp] at this
  exact Nat.lt_of_lt_of_le this (Nat.pow_le_pow_right (by decide) h2)
theorem byteL_snoc (l : List Nat) (d : Nat) : byteL l ++ byteL [d] = byteL (l ++ [d]) := byteL_append l [d]
theorem byteL_tail (x : Nat) (r : List Nat) : (byteL (x :: r)).extract 1 (byteL (x :: r)).size = byteL r := by
  apply ByteArray.ext
  rw [ByteArray.data_extract, byteL_size]
  unfold byteL
  simp
  rw [List.take_of_length_le (by simp)]
/-- The blocks of Long: its argument, its result, and the two texts. -/
def LongAt (w : World) (x0 x1 x2 x3 : Int) (S0 S1 : ByteArray) (W : World) : Prop :=
  Below w.heap.size w W ∧ (W.cell? ⟨w.heap.size, 0, none⟩ = some (.int .i64 x0) ∧ W.cell? ⟨w.heap.size, 1, none⟩ = some (.int .i64 x1) ∧ W.cell? ⟨w.heap.size, 2, none⟩ = some (.int .i64 x2) ∧ W.cell? ⟨w.heap.size, 3, none⟩ = some (.int .i64 x3)) ∧
    RatAt W (w.heap.size + 1) ⟨#[]⟩ ⟨#[]⟩ ∧ RatAt W (w.heap.size + 1 + 1) S0 S1
theorem LongAt.below {w W W' : World} {x0 x1 x2 x3 : Int} {S0 S1 : ByteArray} (h : LongAt w x0 x1 x2 x3 S0 S1 W) (b : Below W.heap.size W W') : LongAt w x0 x1 x2 x3 S0 S1 W' := by
  obtain ⟨h1, ⟨c0, c1, c2, c3⟩, h3, h4⟩ := h
  have l := World.block_lt_of_cell? W ⟨w.heap.size, 0, none⟩ c0
  exact ⟨below_up h1 b, ⟨(b.cell (p := ⟨w.heap.size, 0, none⟩) l).trans c0, (b.cell (p := ⟨w.heap.size, 1, none⟩) l).trans c1, (b.cell (p := ⟨w.heap.size, 2, none⟩) l).trans c2, (b.cell (p := ⟨w.heap.size, 3, none⟩) l).trans c3⟩, h3.below b, h4.below b⟩
theorem cell_far {W : World} {A B i j : Nat} {v u : Value} (hne : A ≠ B) (h : W.cell? ⟨B, j, none⟩ = some u) : (W.setCell ⟨A, i, none⟩ v).cell? ⟨B, j, none⟩ = some u :=
  (World.cell?_setCell_other W ⟨A, i, none⟩ ⟨B, j, none⟩ v (by intro e; injection e with e1 e2; exact hne e1)).trans h
theorem ratAt_far {W : World} {A B i : Nat} {v : Value} {n d : ByteArray} (hne : A ≠ B) (h : RatAt W B n d) : RatAt (W.setCell ⟨A, i, none⟩ v) B n d :=
  ⟨cell_far hne h.1, cell_far hne h.2.1, by simp [h.2.2.1], by simp [h.2.2.2]⟩
theorem ratAt_first {W : World} {A : Nat} {n d x : ByteArray} (h : RatAt W A n d) : RatAt (W.setCell ⟨A, 0, none⟩ (.string x)) A x d :=
  ⟨World.cell?_setCell_same W ⟨A, 0, none⟩ (.string x) h.1, (World.cell?_setCell_other W ⟨A, 0, none⟩ ⟨A, 1, none⟩ (.string x) (by intro e; injection e with e1 e2; omega)).trans h.2.1, by simp [h.2.2.1], by simp [h.2.2.2]⟩
theorem ratAt_second {W : World} {A : Nat} {n d x : ByteArray} (h : RatAt W A n d) : RatAt (W.setCell ⟨A, 1, none⟩ (.string x)) A n x :=
  ⟨(World.cell?_setCell_other W ⟨A, 1, none⟩ ⟨A, 0, none⟩ (.string x) (by intro e; injection e with e1 e2; omega)).trans h.1, World.cell?_setCell_same W ⟨A, 1, none⟩ (.string x) h.2.1, by simp [h.2.2.1], by simp [h.2.2.2]⟩
theorem LongAt.first {w W : World} {x0 x1 x2 x3 : Int} {S0 S1 : ByteArray} (h : LongAt w x0 x1 x2 x3 S0 S1 W) (S : ByteArray) : LongAt w x0 x1 x2 x3 S S1 (W.setCell ⟨w.heap.size + 1 + 1, 0, none⟩ (.string S)) := by
  obtain ⟨h1, ⟨c0, c1, c2, c3⟩, h3, h4⟩ := h
  exact ⟨h1.setCell (p := ⟨w.heap.size + 1 + 1, 0, none⟩) (show w.heap.size ≤ w.heap.size + 1 + 1 by omega) _, ⟨cell_far (by omega) c0, cell_far (by omega) c1, cell_far (by omega) c2, cell_far (by omega) c3⟩, ratAt_far (by omega) h3, ratAt_first h4⟩
theorem LongAt.second {w W : World} {x0 x1 x2 x3 : Int} {S0 S1 : ByteArray} (h : LongAt w x0 x1 x2 x3 S0 S1 W) (S : ByteArray) : LongAt w x0 x1 x2 x3 S0 S (W.setCell ⟨w.heap.size + 1 + 1, 1, none⟩ (.string S)) := by
  obtain ⟨h1, ⟨c0, c1, c2, c3⟩, h3, h4⟩ := h
  exact ⟨h1.setCell (p := ⟨w.heap.size + 1 + 1, 1, none⟩) (show w.heap.size ≤ w.heap.size + 1 + 1 by omega) _, ⟨cell_far (by omega) c0, cell_far (by omega) c1, cell_far (by omega) c2, cell_far (by omega) c3⟩, ratAt_far (by omega) h3, ratAt_second h4⟩
theorem long_box (w : World) (x0 x1 x2 x3 : Int) : ∃ W0, ((w.alloc (.cells #[.int .i64 x0, .int .i64 x1, .int .i64 x2, .int .i64 x3] 24)).alloc (.cells #[.string ⟨#[]⟩, .string ⟨#[]⟩] 23)).alloc (.cells #[.string ⟨#[]⟩, .string ⟨#[]⟩] 64) = W0 ∧ LongAt w x0 x1 x2 x3 ⟨#[]⟩ ⟨#[]⟩ W0 := by
  obtain ⟨W1, h1⟩ : ∃ W, w.alloc (.cells #[.int .i64 x0, .int .i64 x1, .int .i64 x2, .int .i64 x3] 24) = W := ⟨_, rfl⟩
  obtain ⟨W2, h2⟩ : ∃ W, W1.alloc (.cells #[.string ⟨#[]⟩, .string ⟨#[]⟩] 23) = W := ⟨_, rfl⟩
  obtain ⟨W3, h3⟩ : ∃ W, W2.alloc (.cells #[.string ⟨#[]⟩, .string ⟨#[]⟩] 64) = W := ⟨_, rfl⟩
  have s1 : W1.heap.size = w.heap.size + 1 := by rw [← h1]; simp
  have s2 : W2.heap.size = w.heap.size + 1 + 1 := by rw [← h2]; simp [s1]
  have b1 : Below w.heap.size w W1 := by rw [← h1]; exact (Below.refl _ _).alloc (Nat.le_refl _) _
  have b2 : Below W1.heap.size W1 W2 := by rw [← h2]; exact (Below.refl _ _).alloc (Nat.le_refl _) _
  have b3 : Below W2.heap.size W2 W3 := by rw [← h3]; exact (Below.refl _ _).alloc (Nat.le_refl _) _
  have k1 := heap_alloc_new w (.cells #[.int .i64 x0, .int .i64 x1, .int .i64 x2, .int .i64 x3] 24)
  have k2 := ratAt_of (heap_alloc_new W1 (.cells #[.string ⟨#[]⟩, .string ⟨#[]⟩] 23))
  have k3 := ratAt_of (heap_alloc_new W2 (.cells #[.string ⟨#[]⟩, .string ⟨#[]⟩] 64))
  rw [h1] at k1
  rw [h2, s1] at k2
  rw [h3, s2] at k3
  have e := ((below_up b2 b3).block w.heap.size (by omega)).trans k1
  exact ⟨W3, by rw [h1, h2, h3], below_up b1 (below_up b2 b3), ⟨by simp [World.cell?, e], by simp [World.cell?, e], by simp [World.cell?, e], by simp [World.cell?, e]⟩, k2.below b3, k3⟩
def LongPost (w : World) (e : Ending) (w' : World) : Prop := ∃ q : Rat, LongQ q ∧ e = .returned (.agg #[.string (nT q), .string (dT q)]) ∧ Below w.heap.size w w'
theorem txt_nil : IsTxt [] := fun _ h => by cases h
theorem txt_snoc {l : List Nat} (h : IsTxt l) {d : Nat} (hd : 48 ≤ d ∧ d < 58) : IsTxt (l ++ [d]) := fun x hx => by
  rcases List.mem_append.1 hx with h2 | h2
  · exact h x h2
  · rw [List.mem_singleton] at h2; subst h2; exact hd

theorem minus_text {v : Nat} (h : v ≠ 0) : (⟨#[45]⟩ : ByteArray) ++ textI (v : Int) = textI (-(v : Int)) := by
  have e1 : textI (v : Int) = byteL (textN v) := by unfold textI; rw [if_neg (by omega), Int.natAbs_natCast]; rfl
  have e2 : textI (-(v : Int)) = byteL (45 :: textN v) := by unfold textI; rw [if_pos (by omega), Int.natAbs_neg, Int.natAbs_natCast]; rfl
  rw [e1, e2, show (⟨#[45]⟩ : ByteArray) = byteL [45] from rfl, byteL_append]; rfl
theorem seven_text : (⟨#[55]⟩ : ByteArray) = textI 7 := by decide +kernel
theorem long_end (X Y : ByteArray) (n d : Int) (hX : X = textI n) (hY : Y = textI d) (hn : n.natAbs < 10 ^ 100) (hd : d.natAbs < 10 ^ 100) (h0 : d ≠ 0) :
    ∃ q : Rat, LongQ q ∧ ∀ W, Calls Tryz.prog 28 #[.string X, .string Y] W fun e w' => e = .returned (.tuple #[.agg #[.string (nT q), .string (dT q)], .int .i64 0]) ∧ Below W.heap.size W w' := by
  have hp : (10 : Nat) ^ 100 ≤ 10 ^ 200 := Nat.pow_le_pow_right (by decide) (by decide)
  have f1 : Fits n := Nat.lt_of_lt_of_le hn hp
  have f2 : Fits d := Nat.lt_of_lt_of_le hd hp
  obtain ⟨l1, l2⟩ := divInt_num_le n d h0
  refine ⟨Rat.divInt n d, ⟨Nat.lt_of_le_of_lt l1 hn, Nat.lt_of_le_of_lt l2 hd⟩, fun W => ?_⟩
  have cm := makeR4_any (textI n) (textI d) (le_of_fits f1) (le_of_fits f2) W
  rw [(make_texts f1 f2 h0).1, (make_texts f1 f2 h0).2] at cm
  rw [hX, hY]
  exact cm
theorem one_conv (W : World) (q : Nat) (hq : q < 10) : (convert 48 9 (.slice (some ⟨W.heap.size, 0, none⟩) 1 1)).run Tryz.prog (W.alloc (.cells #[.int .u8 (48 + (q : Int))] 5)) = .ok (.string (byteL [48 + q])) (W.alloc (.cells #[.int .u8 (48 + (q : Int))] 5)) := by
  have hb : Bytes (W.alloc (.cells #[.int .u8 (48 + (q : Int))] 5)) W.heap.size 0 (byteL [48 + q]) := by
    intro i hi
    have hi2 : i < 1 := by rw [byteL_size] at hi; simpa using hi
    obtain rfl : i = 0 := by omega
    rw [byteL_get [48 + q] (by intro x hx; rw [List.mem_singleton] at hx; omega) 0 hi]
    have key : ∀ (W2 : World) (g : Nat) (v : Value) (t : TypeId), W2.heap[g]? = some (.cells #[v] t) → W2.cell? ⟨g, 0, none⟩ = some v := fun W2 g v t h => by simp [World.cell?, h]
    exact key _ _ _ _ (heap_alloc_new W (.cells #[.int .u8 (48 + (q : Int))] 5))
  have := run_convert_whole (P := Tryz.prog) (W.alloc (.cells #[.int .u8 (48 + (q : Int))] 5)) 48 5 9 Tryz.underlying48 Tryz.underlying5 Tryz.underlying9 W.heap.size 0 (byteL [48 + q]) hb 1
  rw [byteL_size] at this
  exact this
set_option maxRecDepth 100000 in
set_option maxHeartbeats 8000000 in
theorem longR_any (x0 x1 x2 x3 : Int) (a0 : -9223372036854775808 ≤ x0) (c0 : x0 ≤ 9223372036854775807) (a1 : -9223372036854775808 ≤ x1) (c1 : x1 ≤ 9223372036854775807) (a2 : -9223372036854775808 ≤ x2) (c2 : x2 ≤ 9223372036854775807) (a3 : -9223372036854775808 ≤ x3) (c3 : x3 ≤ 9223372036854775807) (w : World) :
    Calls Tryz.prog 13 #[.agg #[.int .i64 x0, .int .i64 x1, .int .i64 x2, .int .i64 x3]] w (LongPost w) := by
  obtain ⟨W0, hW0, hL0⟩ := long_box w x0 x1 x2 x3
  have HW := Lib.hid hW0; have L0 := Lib.hid hL0
  have p0 := fun W => pickR_any x0 1000000007 a0 c0 (by decide) (by decide) W
  have p1 := fun W => pickR_any x1 100 a1 c1 (by decide) (by decide) W
  have p2 := fun W => pickR_any x2 1000000007 a2 c2 (by decide) (by decide) W
  have p3 := fun W => pickR_any x3 100 a3 c3 (by decide) (by decide) W
  have p4 := fun W => pickR_any x0 2 a0 c0 (by decide) (by decide) W
  have R0 := Lib.hid (pickI_range x0 (n := 1000000007) (by decide))
  have R1 := Lib.hid (pickI_range x1 (n := 100) (by decide))
  have R2 := Lib.hid (pickI_range x2 (n := 1000000007) (by decide))
  have R3 := Lib.hid (pickI_range x3 (n := 100) (by decide))
  have R4 := Lib.hid (pickI_range x0 (n := 2) (by decide))
  generalize pickI x0 1000000007 = y0 at *
  generalize pickI x1 100 = y1 at *
  generalize pickI x2 1000000007 = y2 at *
  generalize pickI x3 100 = y3 at *
  generalize pickI x0 2 = y4 at *
  have P0 := Lib.hid p0; have P1 := Lib.hid p1; have P2 := Lib.hid p2; have P3 := Lib.hid p3; have P4 := Lib.hid p4
  clear hW0 hL0 p0 p1 p2 p3 p4 a0 c0 a1 c1 a2 c2 a3 c3
  go_enter Tryz.func13, Tryz.ntmps13
  go_wp2_with (rw [HW.out])
  go_loopw [4] (fun vk wr => ∃ (k : Nat) (S0 S1 : ByteArray), k ≤ 2 ∧ vk = .int .i64 (k : Int) ∧ Hid (LongAt w x0 x1 x2 x3 S0 S1 wr) ∧ Hid (1 ≤ k → DigX S0) ∧ Hid (2 ≤ k → DigX S1)) (fun vk _ => 2 - (RowKit.intOf vk).toNat)
  case atStart => exact ⟨0, ⟨#[]⟩, ⟨#[]⟩, by omega, rfl, L0.out, fun h => by omega, fun h => by omega⟩
  case round =>
    obtain ⟨k, S0, S1, hk, rfl, hat, hd0, hd1⟩ := hrel
    by_cases hk2 : k = 2
    · subst hk2
      obtain ⟨v0, hv0, e0⟩ := hd0.out (by omega)
      obtain ⟨v1, hv1, e1⟩ := hd1.out (by omega)
      subst e0 e1
      have t0 := text_is0' (v0 : Int)
      have t1 := text_is0' (v1 : Int)
      have l0 : (textI (v0 : Int)).size ≤ 1000 := fits_size (by unfold Fits; rw [Int.natAbs_natCast]; exact Nat.lt_of_lt_of_le hv0 (Nat.pow_le_pow_right (by decide) (by decide)))
      have hr4 := R4.out
      clear hd0 hd1
      by_cases hz1 : v1 = 0
      · rw [decide_eq_true (show (v1 : Int) = 0 by omega)] at t1
        have hy : y4 = 0 ∨ y4 = 1 := by omega
        rcases hy with rfl | rfl
        · by_cases hz0 : v0 = 0
          · rw [decide_eq_true (show (v0 : Int) = 0 by omega)] at t0
            obtain ⟨q, hq, cm⟩ := long_end (textI (v0 : Int)) ⟨#[55]⟩ (v0 : Int) 7 (rfl) (seven_text) (by rw [Int.natAbs_natCast]; exact hv0) (Nat.lt_of_lt_of_le (show (7 : Int).natAbs < 10 ^ 1 by decide) (Nat.pow_le_pow_right (by decide) (by decide))) (by omega)
            have t2 : ((textI (v0 : Int)).toList != [48]) = false := by rw [bne, t0]; rfl
            have HQ := Lib.hid hq; have CM := Lib.hid cm; have HL := Lib.hid hat.out
            clear hq cm hv0 hv1 hr4 hk hat R0 R1 R2 R3 R4 P0 P1 P2 P3
            generalize textI (v0 : Int) = T0 at *
            generalize textI (v1 : Int) = T1 at *
            obtain ⟨hb, ⟨m0, m1, m2, m3⟩, ⟨ra, rb, rc, rd⟩, ⟨sa, sb, sc, sd⟩⟩ := HL.out
            go_wp2_with fail
            have HL2 := Lib.hid (LongAt.second HL.out ⟨#[55]⟩)
            clear hb m0 m1 m2 m3 ra rb rc rd sa sb sc sd
            generalize wr.setCell ⟨w.heap.size + 1 + 1, 1, none⟩ (.string ⟨#[55]⟩) = wz at *
            obtain ⟨hb, ⟨m0, m1, m2, m3⟩, ⟨ra, rb, rc, rd⟩, ⟨sa, sb, sc, sd⟩⟩ := HL2.out
            refine (P4.out _).mono ?_
            rintro e w5 ⟨rfl, rfl⟩
            go_wp2_with fail
            refine (CM.out _).mono ?_
            rintro e w7 ⟨rfl, b7⟩
            clear hb m0 m1 m2 m3 ra rb rc rd sa sb sc sd
            have HL4 := Lib.hid ((LongAt.below HL2.out b7).below ((Below.refl _ _).alloc (Nat.le_refl _) (.cells #[.string (nT q), .string (dT q)] 23)))
            have HL5 := Lib.hid (LongAt.below HL2.out b7)
            clear b7
            obtain ⟨hb, ⟨m0, m1, m2, m3⟩, ⟨ra, rb, rc, rd⟩, ⟨sa, sb, sc, sd⟩⟩ := HL5.out
            have k7 := ratAt_of (heap_alloc_new w7 (.cells #[.string (nT q), .string (dT q)] 23))
            obtain ⟨hb', ⟨n0, n1, n2, n3⟩, ⟨ya, yb, yc, yd⟩, ⟨za, zb, zc, zd⟩⟩ := HL4.out
            obtain ⟨j1, j2, j3, j4⟩ := k7
            go_wp2_with fail
            exact bodyPost_ret (v := .agg #[.string (nT q), .string (dT q)]) (by simp [results, Tryz.results13, go_sem, ya, yb]) rfl ⟨q, HQ.out, rfl, (HL4.out.1.setCell (p := ⟨w.heap.size + 1, 0, none⟩) (Nat.le_succ _) _).setCell (p := ⟨w.heap.size + 1, 1, none⟩) (Nat.le_succ _) _⟩
          · rw [decide_eq_false (show ¬ (v0 : Int) = 0 by omega)] at t0
            obtain ⟨q, hq, cm⟩ := long_end (⟨#[45]⟩ ++ textI (v0 : Int)) ⟨#[55]⟩ (-(v0 : Int)) 7 (minus_text (by omega)) (seven_text) (by rw [Int.natAbs_neg, Int.natAbs_natCast]; exact hv0) (Nat.lt_of_lt_of_le (show (7 : Int).natAbs < 10 ^ 1 by decide) (Nat.pow_le_pow_right (by decide) (by decide))) (by omega)
            have t2 : ((textI (v0 : Int)).toList != [48]) = true := by rw [bne, t0]; rfl
            have HQ := Lib.hid hq; have CM := Lib.hid cm; have HL := Lib.hid hat.out
            clear hq cm hv0 hv1 hr4 hk hat R0 R1 R2 R3 R4 P0 P1 P2 P3
            generalize textI (v0 : Int) = T0 at *
            generalize textI (v1 : Int) = T1 at *
            obtain ⟨hb, ⟨m0, m1, m2, m3⟩, ⟨ra, rb, rc, rd⟩, ⟨sa, sb, sc, sd⟩⟩ := HL.out
            go_wp2_with fail
            have HL2 := Lib.hid (LongAt.second HL.out ⟨#[55]⟩)
            clear hb m0 m1 m2 m3 ra rb rc rd sa sb sc sd
            generalize wr.setCell ⟨w.heap.size + 1 + 1, 1, none⟩ (.string ⟨#[55]⟩) = wz at *
            obtain ⟨hb, ⟨m0, m1, m2, m3⟩, ⟨ra, rb, rc, rd⟩, ⟨sa, sb, sc, sd⟩⟩ := HL2.out
            refine (P4.out _).mono ?_
            rintro e w5 ⟨rfl, rfl⟩
            go_wp2_with fail
            have HL3 := Lib.hid (LongAt.first HL2.out (⟨#[45]⟩ ++ T0))
            clear hb m0 m1 m2 m3 ra rb rc rd sa sb sc sd
            generalize wz.setCell ⟨w.heap.size + 1 + 1, 0, none⟩ (.string (⟨#[45]⟩ ++ T0)) = wy at *
            refine (CM.out _).mono ?_
            rintro e w7 ⟨rfl, b7⟩
            have HL4 := Lib.hid ((LongAt.below HL3.out b7).below ((Below.refl _ _).alloc (Nat.le_refl _) (.cells #[.string (nT q), .string (dT q)] 23)))
            have HL5 := Lib.hid (LongAt.below HL3.out b7)
            clear b7
            obtain ⟨hb, ⟨m0, m1, m2, m3⟩, ⟨ra, rb, rc, rd⟩, ⟨sa, sb, sc, sd⟩⟩ := HL5.out
            have k7 := ratAt_of (heap_alloc_new w7 (.cells #[.string (nT q), .string (dT q)] 23))
            obtain ⟨hb', ⟨n0, n1, n2, n3⟩, ⟨ya, yb, yc, yd⟩, ⟨za, zb, zc, zd⟩⟩ := HL4.out
            obtain ⟨j1, j2, j3, j4⟩ := k7
            go_wp2_with fail
            exact bodyPost_ret (v := .agg #[.string (nT q), .string (dT q)]) (by simp [results, Tryz.results13, go_sem, ya, yb]) rfl ⟨q, HQ.out, rfl, (HL4.out.1.setCell (p := ⟨w.heap.size + 1, 0, none⟩) (Nat.le_succ _) _).setCell (p := ⟨w.heap.size + 1, 1, none⟩) (Nat.le_succ _) _⟩
        · skip
          obtain ⟨q, hq, cm⟩ := long_end (textI (v0 : Int)) ⟨#[55]⟩ (v0 : Int) 7 (rfl) (seven_text) (by rw [Int.natAbs_natCast]; exact hv0) (Nat.lt_of_lt_of_le (show (7 : Int).natAbs < 10 ^ 1 by decide) (Nat.pow_le_pow_right (by decide) (by decide))) (by omega)
          have HQ := Lib.hid hq; have CM := Lib.hid cm; have HL := Lib.hid hat.out
          clear hq cm hv0 hv1 hr4 hk hat R0 R1 R2 R3 R4 P0 P1 P2 P3
          clear t0
          generalize textI (v0 : Int) = T0 at *
          generalize textI (v1 : Int) = T1 at *
          obtain ⟨hb, ⟨m0, m1, m2, m3⟩, ⟨ra, rb, rc, rd⟩, ⟨sa, sb, sc, sd⟩⟩ := HL.out
          go_wp2_with fail
          have HL2 := Lib.hid (LongAt.second HL.out ⟨#[55]⟩)
          clear hb m0 m1 m2 m3 ra rb rc rd sa sb sc sd
          generalize wr.setCell ⟨w.heap.size + 1 + 1, 1, none⟩ (.string ⟨#[55]⟩) = wz at *
          obtain ⟨hb, ⟨m0, m1, m2, m3⟩, ⟨ra, rb, rc, rd⟩, ⟨sa, sb, sc, sd⟩⟩ := HL2.out
          refine (P4.out _).mono ?_
          rintro e w5 ⟨rfl, rfl⟩
          go_wp2_with fail
          refine (CM.out _).mono ?_
          rintro e w7 ⟨rfl, b7⟩
          clear hb m0 m1 m2 m3 ra rb rc rd sa sb sc sd
          have HL4 := Lib.hid ((LongAt.below HL2.out b7).below ((Below.refl _ _).alloc (Nat.le_refl _) (.cells #[.string (nT q), .string (dT q)] 23)))
          have HL5 := Lib.hid (LongAt.below HL2.out b7)
          clear b7
          obtain ⟨hb, ⟨m0, m1, m2, m3⟩, ⟨ra, rb, rc, rd⟩, ⟨sa, sb, sc, sd⟩⟩ := HL5.out
          have k7 := ratAt_of (heap_alloc_new w7 (.cells #[.string (nT q), .string (dT q)] 23))
          obtain ⟨hb', ⟨n0, n1, n2, n3⟩, ⟨ya, yb, yc, yd⟩, ⟨za, zb, zc, zd⟩⟩ := HL4.out
          obtain ⟨j1, j2, j3, j4⟩ := k7
          go_wp2_with fail
          exact bodyPost_ret (v := .agg #[.string (nT q), .string (dT q)]) (by simp [results, Tryz.results13, go_sem, ya, yb]) rfl ⟨q, HQ.out, rfl, (HL4.out.1.setCell (p := ⟨w.heap.size + 1, 0, none⟩) (Nat.le_succ _) _).setCell (p := ⟨w.heap.size + 1, 1, none⟩) (Nat.le_succ _) _⟩
      · rw [decide_eq_false (show ¬ (v1 : Int) = 0 by omega)] at t1
        have hy : y4 = 0 ∨ y4 = 1 := by omega
        rcases hy with rfl | rfl
        · by_cases hz0 : v0 = 0
          · rw [decide_eq_true (show (v0 : Int) = 0 by omega)] at t0
            obtain ⟨q, hq, cm⟩ := long_end (textI (v0 : Int)) (textI (v1 : Int)) (v0 : Int) (v1 : Int) (rfl) (rfl) (by rw [Int.natAbs_natCast]; exact hv0) ((by rw [Int.natAbs_natCast]; exact hv1)) (by omega)
            have t2 : ((textI (v0 : Int)).toList != [48]) = false := by rw [bne, t0]; rfl
            have HQ := Lib.hid hq; have CM := Lib.hid cm; have HL := Lib.hid hat.out
            clear hq cm hv0 hv1 hr4 hk hat R0 R1 R2 R3 R4 P0 P1 P2 P3
            generalize textI (v0 : Int) = T0 at *
            generalize textI (v1 : Int) = T1 at *
            obtain ⟨hb, ⟨m0, m1, m2, m3⟩, ⟨ra, rb, rc, rd⟩, ⟨sa, sb, sc, sd⟩⟩ := HL.out
            go_wp2_with fail
            refine (P4.out _).mono ?_
            rintro e w5 ⟨rfl, rfl⟩
            go_wp2_with fail
            refine (CM.out _).mono ?_
            rintro e w7 ⟨rfl, b7⟩
            clear hb m0 m1 m2 m3 ra rb rc rd sa sb sc sd
            have HL4 := Lib.hid ((LongAt.below HL.out b7).below ((Below.refl _ _).alloc (Nat.le_refl _) (.cells #[.string (nT q), .string (dT q)] 23)))
            have HL5 := Lib.hid (LongAt.below HL.out b7)
            clear b7
            obtain ⟨hb, ⟨m0, m1, m2, m3⟩, ⟨ra, rb, rc, rd⟩, ⟨sa, sb, sc, sd⟩⟩ := HL5.out
            have k7 := ratAt_of (heap_alloc_new w7 (.cells #[.string (nT q), .string (dT q)] 23))
            obtain ⟨hb', ⟨n0, n1, n2, n3⟩, ⟨ya, yb, yc, yd⟩, ⟨za, zb, zc, zd⟩⟩ := HL4.out
            obtain ⟨j1, j2, j3, j4⟩ := k7
            go_wp2_with fail
            exact bodyPost_ret (v := .agg #[.string (nT q), .string (dT q)]) (by simp [results, Tryz.results13, go_sem, ya, yb]) rfl ⟨q, HQ.out, rfl, (HL4.out.1.setCell (p := ⟨w.heap.size + 1, 0, none⟩) (Nat.le_succ _) _).setCell (p := ⟨w.heap.size + 1, 1, none⟩) (Nat.le_succ _) _⟩
          · rw [decide_eq_false (show ¬ (v0 : Int) = 0 by omega)] at t0
            obtain ⟨q, hq, cm⟩ := long_end (⟨#[45]⟩ ++ textI (v0 : Int)) (textI (v1 : Int)) (-(v0 : Int)) (v1 : Int) (minus_text (by omega)) (rfl) (by rw [Int.natAbs_neg, Int.natAbs_natCast]; exact hv0) ((by rw [Int.natAbs_natCast]; exact hv1)) (by omega)
            have t2 : ((textI (v0 : Int)).toList != [48]) = true := by rw [bne, t0]; rfl
            have HQ := Lib.hid hq; have CM := Lib.hid cm; have HL := Lib.hid hat.out
            clear hq cm hv0 hv1 hr4 hk hat R0 R1 R2 R3 R4 P0 P1 P2 P3
            generalize textI (v0 : Int) = T0 at *
            generalize textI (v1 : Int) = T1 at *
            obtain ⟨hb, ⟨m0, m1, m2, m3⟩, ⟨ra, rb, rc, rd⟩, ⟨sa, sb, sc, sd⟩⟩ := HL.out
            go_wp2_with fail
            refine (P4.out _).mono ?_
            rintro e w5 ⟨rfl, rfl⟩
            go_wp2_with fail
            have HL3 := Lib.hid (LongAt.first HL.out (⟨#[45]⟩ ++ T0))
            clear hb m0 m1 m2 m3 ra rb rc rd sa sb sc sd
            generalize wr.setCell ⟨w.heap.size + 1 + 1, 0, none⟩ (.string (⟨#[45]⟩ ++ T0)) = wy at *
            refine (CM.out _).mono ?_
            rintro e w7 ⟨rfl, b7⟩
            have HL4 := Lib.hid ((LongAt.below HL3.out b7).below ((Below.refl _ _).alloc (Nat.le_refl _) (.cells #[.string (nT q), .string (dT q)] 23)))
            have HL5 := Lib.hid (LongAt.below HL3.out b7)
            clear b7
            obtain ⟨hb, ⟨m0, m1, m2, m3⟩, ⟨ra, rb, rc, rd⟩, ⟨sa, sb, sc, sd⟩⟩ := HL5.out
            have k7 := ratAt_of (heap_alloc_new w7 (.cells #[.string (nT q), .string (dT q)] 23))
            obtain ⟨hb', ⟨n0, n1, n2, n3⟩, ⟨ya, yb, yc, yd⟩, ⟨za, zb, zc, zd⟩⟩ := HL4.out
            obtain ⟨j1, j2, j3, j4⟩ := k7
            go_wp2_with fail
            exact bodyPost_ret (v := .agg #[.string (nT q), .string (dT q)]) (by simp [results, Tryz.results13, go_sem, ya, yb]) rfl ⟨q, HQ.out, rfl, (HL4.out.1.setCell (p := ⟨w.heap.size + 1, 0, none⟩) (Nat.le_succ _) _).setCell (p := ⟨w.heap.size + 1, 1, none⟩) (Nat.le_succ _) _⟩
        · skip
          obtain ⟨q, hq, cm⟩ := long_end (textI (v0 : Int)) (textI (v1 : Int)) (v0 : Int) (v1 : Int) (rfl) (rfl) (by rw [Int.natAbs_natCast]; exact hv0) ((by rw [Int.natAbs_natCast]; exact hv1)) (by omega)
          have HQ := Lib.hid hq; have CM := Lib.hid cm; have HL := Lib.hid hat.out
          clear hq cm hv0 hv1 hr4 hk hat R0 R1 R2 R3 R4 P0 P1 P2 P3
          clear t0
          generalize textI (v0 : Int) = T0 at *
          generalize textI (v1 : Int) = T1 at *
          obtain ⟨hb, ⟨m0, m1, m2, m3⟩, ⟨ra, rb, rc, rd⟩, ⟨sa, sb, sc, sd⟩⟩ := HL.out
          go_wp2_with fail
          refine (P4.out _).mono ?_
          rintro e w5 ⟨rfl, rfl⟩
          go_wp2_with fail
          refine (CM.out _).mono ?_
          rintro e w7 ⟨rfl, b7⟩
          clear hb m0 m1 m2 m3 ra rb rc rd sa sb sc sd
          have HL4 := Lib.hid ((LongAt.below HL.out b7).below ((Below.refl _ _).alloc (Nat.le_refl _) (.cells #[.string (nT q), .string (dT q)] 23)))
          have HL5 := Lib.hid (LongAt.below HL.out b7)
          clear b7
          obtain ⟨hb, ⟨m0, m1, m2, m3⟩, ⟨ra, rb, rc, rd⟩, ⟨sa, sb, sc, sd⟩⟩ := HL5.out
          have k7 := ratAt_of (heap_alloc_new w7 (.cells #[.string (nT q), .string (dT q)] 23))
          obtain ⟨hb', ⟨n0, n1, n2, n3⟩, ⟨ya, yb, yc, yd⟩, ⟨za, zb, zc, zd⟩⟩ := HL4.out
          obtain ⟨j1, j2, j3, j4⟩ := k7
          go_wp2_with fail
          exact bodyPost_ret (v := .agg #[.string (nT q), .string (dT q)]) (by simp [results, Tryz.results13, go_sem, ya, yb]) rfl ⟨q, HQ.out, rfl, (HL4.out.1.setCell (p := ⟨w.heap.size + 1, 0, none⟩) (Nat.le_succ _) _).setCell (p := ⟨w.heap.size + 1, 1, none⟩) (Nat.le_succ _) _⟩
    · by_cases hk0 : k = 0
      · subst hk0

        obtain ⟨hb, ⟨m0, m1, m2, m3⟩, ⟨ra, rb, rc, rd⟩, ⟨sa, sb, sc, sd⟩⟩ := hat.out
        have rn := R1.out
        have rc0 := R0.out
        go_wp2_with fail
        refine (P1.out _).mono ?_
        rintro e w5 ⟨rfl, rfl⟩
        go_wp2_with fail
        refine (P0.out _).mono ?_
        rintro e w6 ⟨rfl, rfl⟩
        go_wp2_with fail
        generalize wr = wo at *
        go_loopw [6, 7] (fun vs vc wr2 => ∃ (l : List Nat) (c : Int), vs = .string (byteL l) ∧ vc = .int .i64 c ∧ 0 ≤ c ∧ c ≤ 2147483646 ∧ (l.length : Int) ≤ 1 + y1 ∧ Hid (IsTxt l) ∧ Hid (Below wo.heap.size wo wr2)) (fun vs _ _ => (1 + y1 - ((strOfV vs).size : Int)).toNat)
        case atStart => exact ⟨[], y0, rfl, rfl, by omega, by omega, by simp; omega, txt_nil, Below.refl _ _⟩
        case round =>
          obtain ⟨l, c, rfl, rfl, hc0, hc1, hll, htx, hbr2⟩ := hrel
          have hsz := byteL_size l
          by_cases hgo : (l.length : Int) < 1 + y1
          · have hlt : ((byteL l).size : Int) < 1 + y1 := by omega
            have hll2 : (byteL l).size ≤ 200 := by omega
            have q1 : IntKind.i64.wrap (c * 48271) = c * 48271 := IntWalk.i64_in _ (by omega)
            have q2 : IntKind.i64.wrap (c * 48271 + 11) = c * 48271 + 11 := IntWalk.i64_in _ (by omega)
            obtain ⟨d, hd⟩ : ∃ d : Int, (c * 48271 + 11) % 2147483647 = d := ⟨_, rfl⟩
            have hd0 : 0 ≤ d := by omega
            have hd1 : d ≤ 2147483646 := by omega
            obtain ⟨q, hq⟩ : ∃ q : Nat, d / 65536 % 10 = (q : Int) := ⟨(d / 65536 % 10).toNat, by omega⟩
            have hq10 : q < 10 := by omega
            have q3 : IntKind.u8.wrap (48 + (q : Int)) = ((48 + q : Nat) : Int) := by
              rw [IntWalk.u8_in _ (by omega)]; omega
            have hcv := one_conv wr q hq10
            have hcat : byteL l ++ byteL [48 + q] = byteL (l ++ [48 + q]) := byteL_snoc l _
            have HCAT := Lib.hid hcat; have HSZ := Lib.hid hsz; have HB1 := Lib.hid (hbr2.out.alloc hbr2.out.size (.cells #[.int .u8 (48 + (q : Int))] 5))
            have hs1 : (byteL [48 + q]).size = 1 := by rw [byteL_size]; rfl
            have HGO := Lib.hid hgo
            clear hgo hsz hcat
            go_wp2_with fail
            rw [HCAT.out]
            go_roundw
            case rel => exact ⟨l ++ [48 + q], _, rfl, rfl, by omega, by omega, by rw [List.length_append]; have := HGO.out; simp; omega, txt_snoc htx.out (by omega), HB1.out⟩
            case measure =>
              show (1 + y1 - ((byteL (l ++ [48 + q])).size : Int)).toNat < (1 + y1 - ((byteL l).size : Int)).toNat
              rw [byteL_size, List.length_append, HSZ.out]
              have := HGO.out
              simp
              omega
          · have hlt : ¬ ((byteL l).size : Int) < 1 + y1 := by omega
            have hat2 := LongAt.below hat.out hbr2.out
            have HAT2 := Lib.hid hat2
            have htxl := htx.out
            have hlen : 1 ≤ l.length ∧ l.length ≤ 100 := by omega
            have HS := Lib.hid (show IsTxt l ∧ 1 ≤ l.length ∧ l.length ≤ 100 from ⟨htxl, hlen⟩)
            clear hgo hat2 htxl hlen hsz m0 m1 m2 m3 ra rb rc rd sa sb sc sd hbr2 htx hll rn rc0
            go_wp2_with fail
            generalize wr = w2 at *
            go_loopw [6] (fun vs wr3 => ∃ l2 : List Nat, vs = .string (byteL l2) ∧ Hid (IsTxt l2 ∧ 1 ≤ l2.length ∧ l2.length ≤ 100) ∧ wr3 = w2) (fun vs _ => (strOfV vs).size)
            case atStart => exact ⟨l, rfl, HS.out, rfl⟩
            case round =>
              obtain ⟨l2, rfl, hs2, rfl⟩ := hrel
              obtain ⟨hb2, ⟨m0, m1, m2, m3⟩, ⟨ra, rb, rc, rd⟩, ⟨sa, sb, sc, sd⟩⟩ := HAT2.out
              have hsz := byteL_size l2
              by_cases h1 : l2.length = 1
              · have hz : ¬ (1 : Int) < ((byteL l2).size : Int) := by omega
                have hz2 : decide ((1 : Int) < ((byteL l2).size : Int)) = false := decide_eq_false hz
                have hz3 : decide (1 < (byteL l2).size) = false := decide_eq_false (by omega)
                have HD := Lib.hid (long_text hs2.out.1 hs2.out.2.1 hs2.out.2.2 (.inl h1))
                have HNX := Lib.hid (LongAt.first HAT2.out (byteL l2))
                clear hsz h1
                go_wp2_with fail
                go_roundw
                case rel => exact ⟨1, byteL l2, S1, by omega, by go_num, HNX.out, fun _ => HD.out, fun h => by omega⟩
                case measure => simp [RowKit.intOf]
              · obtain ⟨x, r, rfl⟩ : ∃ x r, l2 = x :: r := by
                  cases l2 with
                  | nil => have := hs2.out.2.1; simp at this
                  | cons x r => exact ⟨x, r, rfl⟩
                have hrl : 1 ≤ r.length := by
                  have := hs2.out.2.1
                  rw [List.length_cons] at h1 this
                  omega
                rw [List.length_cons] at hsz
                have hz : (1 : Int) < ((byteL (x :: r)).size : Int) := by omega
                have hz2 : decide ((1 : Int) < ((byteL (x :: r)).size : Int)) = true := decide_eq_true hz
                have hz3 : decide (1 < (byteL (x :: r)).size) = true := decide_eq_true (by omega)
                have hz0 : 0 < (byteL (x :: r)).size := by omega
                have hix := fun W => index_str (byteL (x :: r)) 0 hz0 W
                have hx0 := byteL_get (x :: r) (by intro d hd; have := hs2.out.1 d hd; omega) 0 hz0
                rw [hx0] at hix
                have hgd : (x :: r).getD 0 0 = x := rfl
                rw [hgd] at hix hx0
                by_cases hx : x = 48
                · subst hx
                  have hsl := fun W => slice_from1 (byteL (48 :: r)) hz0 W
                  rw [byteL_tail] at hsl
                  have HS3 := Lib.hid (show IsTxt r ∧ 1 ≤ r.length ∧ r.length ≤ 100 from ⟨fun d hd => hs2.out.1 d (List.mem_cons_of_mem _ hd), hrl, by have := hs2.out.2.2; rw [List.length_cons] at this; omega⟩)
                  have HM := Lib.hid (show (byteL r).size < (byteL (48 :: r)).size by rw [byteL_size, byteL_size, List.length_cons]; omega)
                  clear hgd h1 hrl hsz
                  go_wp2_with fail
                  go_roundw
                  case rel => exact ⟨r, rfl, HS3.out, trivial⟩
                  case measure => exact HM.out
                · have hxb : ((x : Int) == 48) = false := by rw [beq_eq_false_iff_ne]; omega
                  have HD := Lib.hid (long_text hs2.out.1 hs2.out.2.1 hs2.out.2.2 (.inr (by simpa using hx)))
                  have HNX := Lib.hid (LongAt.first HAT2.out (byteL (x :: r)))
                  clear hgd h1 hrl hsz hx
                  go_wp2_with fail
                  go_roundw
                  case rel => exact ⟨1, byteL (x :: r), S1, by omega, by go_num, HNX.out, fun _ => HD.out, fun h => by omega⟩
                  case measure => simp [RowKit.intOf]
      · obtain rfl : k = 1 := by omega
        obtain ⟨hb, ⟨m0, m1, m2, m3⟩, ⟨ra, rb, rc, rd⟩, ⟨sa, sb, sc, sd⟩⟩ := hat.out
        have rn := R3.out
        have rc0 := R2.out
        go_wp2_with fail
        refine (P3.out _).mono ?_
        rintro e w5 ⟨rfl, rfl⟩
        go_wp2_with fail
        refine (P2.out _).mono ?_
        rintro e w6 ⟨rfl, rfl⟩
        go_wp2_with fail
        generalize wr = wo at *
        go_loopw [6, 7] (fun vs vc wr2 => ∃ (l : List Nat) (c : Int), vs = .string (byteL l) ∧ vc = .int .i64 c ∧ 0 ≤ c ∧ c ≤ 2147483646 ∧ (l.length : Int) ≤ 1 + y3 ∧ Hid (IsTxt l) ∧ Hid (Below wo.heap.size wo wr2)) (fun vs _ _ => (1 + y3 - ((strOfV vs).size : Int)).toNat)
        case atStart => exact ⟨[], y2, rfl, rfl, by omega, by omega, by simp; omega, txt_nil, Below.refl _ _⟩
        case round =>
          obtain ⟨l, c, rfl, rfl, hc0, hc1, hll, htx, hbr2⟩ := hrel
          have hsz := byteL_size l
          by_cases hgo : (l.length : Int) < 1 + y3
          · have hlt : ((byteL l).size : Int) < 1 + y3 := by omega
            have hll2 : (byteL l).size ≤ 200 := by omega
            have q1 : IntKind.i64.wrap (c * 48271) = c * 48271 := IntWalk.i64_in _ (by omega)
            have q2 : IntKind.i64.wrap (c * 48271 + 11) = c * 48271 + 11 := IntWalk.i64_in _ (by omega)
            obtain ⟨d, hd⟩ : ∃ d : Int, (c * 48271 + 11) % 2147483647 = d := ⟨_, rfl⟩
            have hd0 : 0 ≤ d := by omega
            have hd1 : d ≤ 2147483646 := by omega
            obtain ⟨q, hq⟩ : ∃ q : Nat, d / 65536 % 10 = (q : Int) := ⟨(d / 65536 % 10).toNat, by omega⟩
            have hq10 : q < 10 := by omega
            have q3 : IntKind.u8.wrap (48 + (q : Int)) = ((48 + q : Nat) : Int) := by
              rw [IntWalk.u8_in _ (by omega)]; omega
            have hcv := one_conv wr q hq10
            have hcat : byteL l ++ byteL [48 + q] = byteL (l ++ [48 + q]) := byteL_snoc l _
            have HCAT := Lib.hid hcat; have HSZ := Lib.hid hsz; have HB1 := Lib.hid (hbr2.out.alloc hbr2.out.size (.cells #[.int .u8 (48 + (q : Int))] 5))
            have hs1 : (byteL [48 + q]).size = 1 := by rw [byteL_size]; rfl
            have HGO := Lib.hid hgo
            clear hgo hsz hcat
            go_wp2_with fail
            rw [HCAT.out]
            go_roundw
            case rel => exact ⟨l ++ [48 + q], _, rfl, rfl, by omega, by omega, by rw [List.length_append]; have := HGO.out; simp; omega, txt_snoc htx.out (by omega), HB1.out⟩
            case measure =>
              show (1 + y3 - ((byteL (l ++ [48 + q])).size : Int)).toNat < (1 + y3 - ((byteL l).size : Int)).toNat
              rw [byteL_size, List.length_append, HSZ.out]
              have := HGO.out
              simp
              omega
          · have hlt : ¬ ((byteL l).size : Int) < 1 + y3 := by omega
            have hat2 := LongAt.below hat.out hbr2.out
            have HAT2 := Lib.hid hat2
            have htxl := htx.out
            have hlen : 1 ≤ l.length ∧ l.length ≤ 100 := by omega
            have HS := Lib.hid (show IsTxt l ∧ 1 ≤ l.length ∧ l.length ≤ 100 from ⟨htxl, hlen⟩)
            clear hgo hat2 htxl hlen hsz m0 m1 m2 m3 ra rb rc rd sa sb sc sd hbr2 htx hll rn rc0
            go_wp2_with fail
            generalize wr = w2 at *
            go_loopw [6] (fun vs wr3 => ∃ l2 : List Nat, vs = .string (byteL l2) ∧ Hid (IsTxt l2 ∧ 1 ≤ l2.length ∧ l2.length ≤ 100) ∧ wr3 = w2) (fun vs _ => (strOfV vs).size)
            case atStart => exact ⟨l, rfl, HS.out, rfl⟩
            case round =>
              obtain ⟨l2, rfl, hs2, rfl⟩ := hrel
              obtain ⟨hb2, ⟨m0, m1, m2, m3⟩, ⟨ra, rb, rc, rd⟩, ⟨sa, sb, sc, sd⟩⟩ := HAT2.out
              have hsz := byteL_size l2
              by_cases h1 : l2.length = 1
              · have hz : ¬ (1 : Int) < ((byteL l2).size : Int) := by omega
                have hz2 : decide ((1 : Int) < ((byteL l2).size : Int)) = false := decide_eq_false hz
                have hz3 : decide (1 < (byteL l2).size) = false := decide_eq_false (by omega)
                have HD := Lib.hid (long_text hs2.out.1 hs2.out.2.1 hs2.out.2.2 (.inl h1))
                have HNX := Lib.hid (LongAt.second HAT2.out (byteL l2))
                clear hsz h1
                go_wp2_with fail
                go_roundw
                case rel => exact ⟨2, S0, byteL l2, by omega, by go_num, HNX.out, fun _ => hd0.out (by omega), fun _ => HD.out⟩
                case measure => simp [RowKit.intOf]
              · obtain ⟨x, r, rfl⟩ : ∃ x r, l2 = x :: r := by
                  cases l2 with
                  | nil => have := hs2.out.2.1; simp at this
                  | cons x r => exact ⟨x, r, rfl⟩
                have hrl : 1 ≤ r.length := by
                  have := hs2.out.2.1
                  rw [List.length_cons] at h1 this
                  omega
                rw [List.length_cons] at hsz
                have hz : (1 : Int) < ((byteL (x :: r)).size : Int) := by omega
                have hz2 : decide ((1 : Int) < ((byteL (x :: r)).size : Int)) = true := decide_eq_true hz
                have hz3 : decide (1 < (byteL (x :: r)).size) = true := decide_eq_true (by omega)
                have hz0 : 0 < (byteL (x :: r)).size := by omega
                have hix := fun W => index_str (byteL (x :: r)) 0 hz0 W
                have hx0 := byteL_get (x :: r) (by intro d hd; have := hs2.out.1 d hd; omega) 0 hz0
                rw [hx0] at hix
                have hgd : (x :: r).getD 0 0 = x := rfl
                rw [hgd] at hix hx0
                by_cases hx : x = 48
                · subst hx
                  have hsl := fun W => slice_from1 (byteL (48 :: r)) hz0 W
                  rw [byteL_tail] at hsl
                  have HS3 := Lib.hid (show IsTxt r ∧ 1 ≤ r.length ∧ r.length ≤ 100 from ⟨fun d hd => hs2.out.1 d (List.mem_cons_of_mem _ hd), hrl, by have := hs2.out.2.2; rw [List.length_cons] at this; omega⟩)
                  have HM := Lib.hid (show (byteL r).size < (byteL (48 :: r)).size by rw [byteL_size, byteL_size, List.length_cons]; omega)
                  clear hgd h1 hrl hsz
                  go_wp2_with fail
                  go_roundw
                  case rel => exact ⟨r, rfl, HS3.out, trivial⟩
                  case measure => exact HM.out
                · have hxb : ((x : Int) == 48) = false := by rw [beq_eq_false_iff_ne]; omega
                  have HD := Lib.hid (long_text hs2.out.1 hs2.out.2.1 hs2.out.2.2 (.inr (by simpa using hx)))
                  have HNX := Lib.hid (LongAt.second HAT2.out (byteL (x :: r)))
                  clear hgd h1 hrl hsz hx
                  go_wp2_with fail
                  go_roundw
                  case rel => exact ⟨2, S0, byteL (x :: r), by omega, by go_num, HNX.out, fun _ => hd0.out (by omega), fun _ => HD.out⟩
                  case measure => simp [RowKit.intOf]
end Go.Proofs.YtlcibnmcannapaaGreatDoor
