/-
  The contract of the reference's Small.
-/
import Derived.Test.YtlcibnmcannapaaGreatDoorPickQ
import Derived.Test.YtlcibnmcannapaaGreatDoorRefP
namespace Go.Proofs.YtlcibnmcannapaaGreatDoor
open Go Go.Proofs Go.RowKit Go.Lib

/-- The fraction that Small returns. -/
def smallQ (x y : Int) : Rat := Rat.divInt (pickI x 1999 - 999) (1 + pickI y 60)
theorem smallQ_fits (x y : Int) : FitsQ (smallQ x y) := by
  have h1 := pickI_range x (n := 1999) (by decide)
  have h2 := pickI_range y (n := 60) (by decide)
  refine divInt_fits ?_ ?_ (by omega)
  · exact Nat.lt_of_lt_of_le (show (pickI x 1999 - 999).natAbs < 10 ^ 4 by omega) (Nat.pow_le_pow_right (by decide) (by decide))
  · exact Nat.lt_of_lt_of_le (show (1 + pickI y 60).natAbs < 10 ^ 4 by omega) (Nat.pow_le_pow_right (by decide) (by decide))
theorem box_ints (w : World) (x y : Int) : ∃ W0, (w.alloc (.cells #[.int .i64 x, .int .i64 y] 25)).alloc (.cells #[.string ⟨#[]⟩, .string ⟨#[]⟩] 23) = W0 ∧ Below w.heap.size w W0 ∧ W0.heap.size = w.heap.size + 2 ∧
    ∀ W, Below W0.heap.size W0 W → (W.cell? ⟨w.heap.size, 0, none⟩ = some (.int .i64 x) ∧ W.cell? ⟨w.heap.size, 1, none⟩ = some (.int .i64 y)) ∧ RatAt W (w.heap.size + 1) ⟨#[]⟩ ⟨#[]⟩ := by
  obtain ⟨W1, h1⟩ : ∃ W, w.alloc (.cells #[.int .i64 x, .int .i64 y] 25) = W := ⟨_, rfl⟩
  have b1 : Below w.heap.size w W1 := by rw [← h1]; exact (Below.refl _ _).alloc (Nat.le_refl _) _
  have k1 := heap_alloc_new w (.cells #[.int .i64 x, .int .i64 y] 25)
  rw [h1] at k1
  obtain ⟨W2, h2, b2, f2⟩ := box_one W1 ⟨#[]⟩ ⟨#[]⟩
  have hs : W1.heap.size = w.heap.size + 1 := by rw [← h1]; simp
  refine ⟨W2, by rw [h1, h2], below_up b1 b2, by rw [← h2]; simp [hs], fun W hb => ⟨?_, ?_⟩⟩
  · have e := ((below_up b2 hb).block w.heap.size (by omega)).trans k1
    exact ⟨by simp [World.cell?, e], by simp [World.cell?, e]⟩
  · have := f2 W hb
    rw [hs] at this
    exact this
theorem keepI {W0 : World} {A B : Nat} {x y : Int} {n d : ByteArray} (h : ∀ W, Below W0.heap.size W0 W → (W.cell? ⟨A, 0, none⟩ = some (.int .i64 x) ∧ W.cell? ⟨A, 1, none⟩ = some (.int .i64 y)) ∧ RatAt W B n d) {W : World} (b : Below W0.heap.size W0 W) :
    W.cell? ⟨A, 0, none⟩ = some (.int .i64 x) ∧ W.cell? ⟨A, 1, none⟩ = some (.int .i64 y) := (h W b).1

set_option maxRecDepth 100000 in
set_option maxHeartbeats 8000000 in
theorem smallR_any (x y : Int) (h1 : -9223372036854775808 ≤ x) (h2 : x ≤ 9223372036854775807) (h3 : -9223372036854775808 ≤ y) (h4 : y ≤ 9223372036854775807) (w : World) :
    Calls Tryz.prog 14 #[.agg #[.int .i64 x, .int .i64 y]] w fun e w' => e = .returned (.agg #[.string (nT (smallQ x y)), .string (dT (smallQ x y))]) ∧ Below w.heap.size w w' := by
  obtain ⟨W0, hW0, b0, hs0, hcc⟩ := box_ints w x y
  obtain ⟨W5, hW5, b5, hc5⟩ := box_one W0 ⟨#[]⟩ ⟨#[]⟩
  rw [hs0] at hc5
  have HC5 := Lib.hid hc5; have H5 := Lib.hid hW5; have B5 := Lib.hid b5; have HS0 := Lib.hid hs0
  have HW := Lib.hid hW0; have HC := Lib.hid hcc; have B0 := Lib.hid b0
  have P0 := Lib.hid (Below.refl W0.heap.size W0)
  clear hW0 hcc b0 hc5 hW5 b5
  have ca := fun W => pickR_any x 1999 h1 h2 (by decide) (by decide) W
  have cb := fun W => pickR_any y 60 h3 h4 (by decide) (by decide) W
  have r1 := pickI_range x (n := 1999) (by decide)
  have r2 := pickI_range y (n := 60) (by decide)
  have cf := fun W => ofR4_any (pickI x 1999 - 999) (1 + pickI y 60) (by omega) (by omega) (by omega) (by omega) W
  rw [decide_eq_true (show 1 + pickI y 60 ≠ 0 by omega)] at cf
  have q1 : IntKind.i64.wrap (pickI x 1999 - 999) = pickI x 1999 - 999 := IntWalk.i64_in _ (by omega)
  have q2 : IntKind.i64.wrap (1 + pickI y 60) = 1 + pickI y 60 := IntWalk.i64_in _ (by omega)
  have cf2 : ∀ W, Calls Tryz.prog 32 #[.int .i64 (pickI x 1999 - 999), .int .i64 (1 + pickI y 60)] W fun e w' => e = .returned (.tuple #[.agg #[.string (nT (smallQ x y)), .string (dT (smallQ x y))], .int .i64 0]) ∧ Below W.heap.size W w' := cf
  clear cf
  generalize nT (smallQ x y) = N at *
  generalize dT (smallQ x y) = D at *
  generalize pickI x 1999 = p at *
  generalize pickI y 60 = q at *
  have CA := Lib.hid ca; have CB := Lib.hid cb; have CF := Lib.hid cf2
  clear ca cb cf2 r1 r2 h1 h2 h3 h4
  go_enter Tryz.func14, Tryz.ntmps14
  obtain ⟨⟨ca0, cb0⟩, ⟨cc0, cd0, ce0, cf0⟩⟩ := HC.out _ (Below.refl _ _)
  go_wp2_with (rw [HW.out])
  go_region_held3 (fun W => W.cell? ⟨w.heap.size, 0, none⟩ = some (.int .i64 x) ∧ W.cell? ⟨w.heap.size, 1, none⟩ = some (.int .i64 y))
    (first | exact keepI HC.out ⟨rfl, rfl, rfl, Nat.le_refl _, fun _ _ => rfl⟩ | exact keepI HC.out (((Below.refl _ _).alloc (Nat.le_refl _) _).drew) | exact keepI HC.out hbb | exact keepI HC.out (hbb.alloc hbb.size _) | ((have hq := keepI HC.out hbb); simp [go_sem, hq.1, hq.2]))
    (first | (go_at_call 46; (first | (with_reducible refine (CA.out _).mono ?_) | (with_reducible refine (CB.out _).mono ?_)); (rintro e w5 ⟨rfl, rfl⟩)) | (go_at_call 32; (refine (CF.out _).mono ?_); (rintro e w7 ⟨rfl, hb3'⟩); (first | ((have hb3 : Below W5.heap.size W5 w7 := (by rw [← H5.out]; exact ⟨hb3'.os, hb3'.tape, hb3'.output, hb3'.size, hb3'.block⟩)); (have hbb := below_up B5.out hb3); (obtain ⟨_, ⟨ci7, cj7, ck7, cl7⟩⟩ := HC.out _ hbb); (obtain ⟨cm7, cn7, co7, cp7⟩ := HC5.out _ hb3)) | ((have hbb : Below W0.heap.size W0 w7 := ⟨hb3'.os, hb3'.tape, hb3'.output, hb3'.size, hb3'.block⟩); (obtain ⟨_, ⟨ci7, cj7, ck7, cl7⟩⟩ := HC.out _ hbb)))))
  all_goals (
    first
    | (have e1 := ratAt_of (heap_alloc_new w7 (.cells #[.string N, .string D] 23)); have e2 := RatAt.below (HC.out _ hbb).2 ((Below.refl w7.heap.size w7).alloc (Nat.le_refl _) (.cells #[.string N, .string D] 23)); have hB := Lib.hid (below_up B0.out (hbb.alloc hbb.size (.cells #[.string N, .string D] 23))); clear ci7 cj7 ck7 cl7 hbb; generalize w7.alloc (.cells #[.string N, .string D] 23) = WW at *; obtain ⟨z1, z2, z3, z4⟩ := e1; obtain ⟨z5, z6, z7, z8⟩ := e2; go_wp2; exact bodyPost_ret (v := .agg #[.string N, .string D]) (by simp [results, Tryz.results14, go_sem, z5, z6]) rfl ⟨rfl, (hB.out.setCell (p := ⟨w.heap.size + 1, 0, none⟩) (Nat.le_succ _) _).setCell (p := ⟨w.heap.size + 1, 1, none⟩) (Nat.le_succ _) _⟩)
    | (have e1 := ratAt_set (x := N) (y := D) (HC5.out _ hb3); have e2 := ratAt_other (A := w.heap.size + 2) (x := .string N) (y := .string D) (by omega) (HC.out _ hbb).2; have hB := Lib.hid (((below_up B0.out hbb).setCell (p := ⟨w.heap.size + 2, 0, none⟩) (by simp) (.string N)).setCell (p := ⟨w.heap.size + 2, 1, none⟩) (by simp) (.string D)); clear ci7 cj7 ck7 cl7 cm7 cn7 co7 cp7 hbb hb3; generalize (w7.setCell ⟨w.heap.size + 2, 0, none⟩ (.string N)).setCell ⟨w.heap.size + 2, 1, none⟩ (.string D) = WW at *; obtain ⟨z1, z2, z3, z4⟩ := e1; obtain ⟨z5, z6, z7, z8⟩ := e2; go_wp2; exact bodyPost_ret (v := .agg #[.string N, .string D]) (by simp [results, Tryz.results14, go_sem, z5, z6]) rfl ⟨rfl, (hB.out.setCell (p := ⟨w.heap.size + 1, 0, none⟩) (Nat.le_succ _) _).setCell (p := ⟨w.heap.size + 1, 1, none⟩) (Nat.le_succ _) _⟩))
end Go.Proofs.YtlcibnmcannapaaGreatDoor
