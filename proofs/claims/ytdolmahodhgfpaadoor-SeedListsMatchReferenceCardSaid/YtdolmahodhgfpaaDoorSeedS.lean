/-
  The contract of the laws' sane.
-/
import Derived.Test.YtdolmahodhgfpaaDoorSeedZ
namespace Go.Proofs.YtdolmahodhgfpaaDoor
open Go Go.Proofs Go.RowKit Go.Lib

theorem redB_low {raw b : Int} (h : b < 1) : redB raw b = false := decide_eq_false (fun k => by omega)
theorem drawF_low {s : ByteArray} {i b : Int} (h : b < 1) : ∀ f j, drawF s i b f j = none
  | 0, _ => rfl
  | f + 1, j => by unfold drawF; rw [redB_low h]; exact drawF_low h f (j + 1)
theorem drawO_low {s : ByteArray} {i b : Int} (h : b < 1) : drawO s i b = none := by
  unfold drawO
  split
  · exact drawF_low h 64 0
  · rfl
theorem draw_one : drawO ⟨#[120]⟩ 0 1 = some 0 := by
  have hn : namedB ⟨#[120]⟩ 0 = true := by decide
  have hr : redB (rawS ⟨#[120]⟩ 0 ((0 : Nat) : Int)) 1 = true := decide_eq_true ⟨by decide, by decide, by omega, by
    have := rawS_lt ⟨#[120]⟩ 0 ((0 : Nat) : Int)
    show ((rawS ⟨#[120]⟩ 0 ((0 : Nat) : Int) : Nat) : Int) < 4611686018427387904 / 1 * 1
    omega⟩
  unfold drawO
  rw [if_pos hn]
  show (if redB (rawS ⟨#[120]⟩ 0 ((0 : Nat) : Int)) 1 = true then some (redV (rawS ⟨#[120]⟩ 0 ((0 : Nat) : Int)) 1) else _) = _
  rw [if_pos hr, (red_facts hr).1, Int.emod_one]
theorem shuf_one : shufO ⟨#[120]⟩ 1 = some [0] := by decide
theorem samp_none : sampO ⟨#[120]⟩ 3 4 = none := by
  unfold sampO
  split
  · rfl
  · rfl
theorem raw_pos : 0 < rawS ⟨#[120]⟩ 0 0 := by decide +kernel
theorem ints_new (W : World) (x : Int) (l : List Int) (t : TypeId) : IntsL (W.alloc (.cells ((x :: l).map (Value.int .i64)).toArray t)) (some ⟨W.heap.size, 0, none⟩) (x :: l) :=
  .inr ⟨W.heap.size, 0, rfl, by simp, fun i hi => by
    rw [Nat.zero_add]
    have := cell_of_row (W.alloc (.cells ((x :: l).map (Value.int .i64)).toArray t)) W.heap.size i _ _ _ (heap_alloc_new W _)
    rw [this, List.getElem?_toArray, List.getElem?_map, List.getElem?_eq_getElem hi]
    rfl⟩
set_option maxRecDepth 100000 in
set_option maxHeartbeats 16000000 in
theorem sane6_any (w : World) (hR : Ready w) : Calls Tryd.prog 10 #[] w fun e w' => e = .returned (.bool true) ∧ Below w.heap.size w w' := by
  have c1 := fun W h => reduce_u 17 5 W h
  rw [show redV 17 5 = 2 by decide, show redB 17 5 = true by decide] at c1
  have c2 := fun W h => reduce_u 4611686018427387903 3 W h
  rw [show redV 4611686018427387903 3 = 0 by decide, show redB 4611686018427387903 3 = false by decide] at c2
  have c3 := fun W h => draw_u ⟨#[120]⟩ (by decide) 0 0 W h
  rw [(draw_none (drawO_low (show (0 : Int) < 1 by decide))).1, (draw_none (drawO_low (show (0 : Int) < 1 by decide))).2] at c3
  have c4 := fun W h => draw_u ⟨#[120]⟩ (by decide) 0 1 W h
  rw [(draw_some draw_one).1, (draw_some draw_one).2] at c4
  have c5 := fun W h => shuffle_u ⟨#[120]⟩ (by decide) 1 W h
  rw [shuf_one] at c5
  have c6 := fun W h => sample_u ⟨#[120]⟩ (by decide) 3 4 W h
  rw [samp_none] at c6
  have c7 := fun (W : World) h => choose_u (some ⟨W.heap.size, 0, none⟩) 3 [2, 0, 3] (by decide) 2 _ (ints_new W 2 [0, 3] 3) h
  rw [show chooseO [2, 0, 3] 2 = some 2 by decide] at c7
  have c8 := fun (W : World) h => choose_u (some ⟨W.heap.size, 0, none⟩) 3 [2, 0, 3] (by decide) 5 _ (ints_new W 2 [0, 3] 3) h
  rw [show chooseO [2, 0, 3] 5 = none by decide] at c8
  have c9 := fun W h => raw_u ⟨#[120]⟩ (by decide) 0 0 W h
  have hrv : rawV ⟨#[120]⟩ 0 0 = ((rawS ⟨#[120]⟩ 0 0 : Nat) : Int) ∧ rawE ⟨#[120]⟩ 0 0 = 0 := rawV_yes (by decide) (k := 0) (by decide)
  rw [hrv.1, hrv.2] at c9
  have hpos := raw_pos
  generalize rawS ⟨#[120]⟩ 0 0 = r at *
  have C1 := Lib.hid c1; have C2 := Lib.hid c2; have C3 := Lib.hid c3; have C4 := Lib.hid c4; have C5 := Lib.hid c5; have C6 := Lib.hid c6; have C7 := Lib.hid c7; have C8 := Lib.hid c8; have C9 := Lib.hid c9
  have HR := Lib.hid hR; have HP := Lib.hid (show (0 : Int) < (r : Int) by omega)
  clear c1 c2 c3 c4 c5 c6 c7 c8 c9 hrv hpos hR
  have P0 := Lib.hid (Below.refl w.heap.size w)
  go_enter Tryd.func10, Tryd.ntmps10
  go_wp2_with fail
  refine (C1.out _ (HR.out.below P0.out)).mono ?_
  rintro e z1 ⟨rfl, b⟩
  have P1 := Lib.hid (below_up6 P0.out b)
  clear b
  go_wp2_with fail
  refine (C2.out _ (HR.out.below P1.out)).mono ?_
  rintro e z2 ⟨rfl, b⟩
  have P2 := Lib.hid (below_up6 P1.out b)
  clear b
  go_wp2_with fail
  refine (C3.out _ (HR.out.below P2.out)).mono ?_
  rintro e z3 ⟨rfl, b⟩
  have P3 := Lib.hid (below_up6 P2.out b)
  clear b
  go_wp2_with fail
  refine (C4.out _ (HR.out.below P3.out)).mono ?_
  rintro e z4 ⟨rfl, b⟩
  have P4 := Lib.hid (below_up6 P3.out b)
  clear b
  go_wp2_with fail
  refine (C5.out _ (HR.out.below P4.out)).mono ?_
  rintro e z5 ⟨⟨ad, c, rfl, hc, hI⟩, b⟩
  have P5 := Lib.hid (below_up6 P4.out b)
  have HI := Lib.hid (fun W (b : Below z5.heap.size z5 W) => IntsL.below hI b)
  have Q5 := Lib.hid (Below.refl z5.heap.size z5)
  clear b hI
  go_wp2_with fail
  refine (C6.out _ (HR.out.below P5.out)).mono ?_
  rintro e z6 ⟨rfl, b⟩
  have P6 := Lib.hid (below_up6 P5.out b)
  have Q6 := Lib.hid b
  clear b
  go_wp2_with fail
  refine (C7.out _ (HR.out.below (P6.out.alloc P6.out.size _))).mono ?_
  rintro e z7 ⟨rfl, b⟩
  have P7 := Lib.hid (below_up6 (P6.out.alloc P6.out.size _) b)
  have Q7 := Lib.hid (below_up6 (Q6.out.alloc Q6.out.size _) b)
  clear b
  go_wp2_with fail
  refine (C8.out _ (HR.out.below (P7.out.alloc P7.out.size _))).mono ?_
  rintro e z8 ⟨rfl, b⟩
  have P8 := Lib.hid (below_up6 (P7.out.alloc P7.out.size _) b)
  have Q8 := Lib.hid (below_up6 (Q7.out.alloc Q7.out.size _) b)
  clear b
  go_wp2_with fail
  refine (C9.out _ (HR.out.below P8.out)).mono ?_
  rintro e z9 ⟨rfl, b⟩
  have P9 := Lib.hid (below_up6 P8.out b)
  have Q9 := Lib.hid (below_up6 Q8.out b)
  clear b
  have hi := HI.out z9 Q9.out
  rcases hi with h | ⟨g, o, rfl, _, hcell⟩
  · exact absurd h (by decide)
  · have c0 := hcell 0 (by decide)
    have hx := fun W => at_ints6 g o 1 c 0 (by decide) W
    simp only [Nat.add_zero, Int.natCast_zero] at c0 hx
    have hp := HP.out
    clear hcell
    go_wp2
    go_ret
    exact ⟨rfl, P9.out⟩
end Go.Proofs.YtdolmahodhgfpaaDoor
