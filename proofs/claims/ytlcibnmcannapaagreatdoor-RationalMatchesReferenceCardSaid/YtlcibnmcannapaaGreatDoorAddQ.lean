/-
  The contracts of the program's Add, Sub, Mul and Div.
-/
import Derived.Test.YtlcibnmcannapaaGreatDoorApiQ
namespace Go.Proofs.YtlcibnmcannapaaGreatDoor
open Go Go.Proofs Go.RowKit Go.Lib

theorem below_same_heap {W0 W W' : World} (b : Below W0.heap.size W0 W) (h : W'.heap = W.heap) (ho : W'.os = W.os) (ht : W'.tape = W.tape) (hp : W'.output = W.output) : Below W0.heap.size W0 W' :=
  ⟨by rw [ho]; exact b.os, by rw [ht]; exact b.tape, by rw [hp]; exact b.output, by rw [h]; exact b.size, fun k hk => by rw [h]; exact b.block k hk⟩
theorem StepIs.form {W : World} {v : Value} {f : StepF} (h : StepIs W v f) : ∃ (g : Nat) (c : Array Value), v = .func (.func g) #[] c := by
  obtain ⟨_, g, c, e, _⟩ := h
  exact ⟨g, c, e⟩
theorem keep4 {W0 : World} {A B C : Nat} {an ad bn bd x y : ByteArray} (h : ∀ W, Below W0.heap.size W0 W → RatAt W A an ad ∧ RatAt W B bn bd ∧ RatAt W C x y) {W : World} (b : Below W0.heap.size W0 W) :
    (W.cell? ⟨A, 0, none⟩ = some (.string an) ∧ W.cell? ⟨A, 1, none⟩ = some (.string ad)) ∧ (W.cell? ⟨B, 0, none⟩ = some (.string bn) ∧ W.cell? ⟨B, 1, none⟩ = some (.string bd)) :=
  ⟨⟨(h W b).1.1, (h W b).1.2.1⟩, (h W b).2.1.1, (h W b).2.1.2.1⟩
theorem steps_one {W : World} {v : Value} {f : StepF} (h : StepIs W v f) : StepsIs W [v] [f] := ⟨h, trivial⟩
theorem steps_two {W : World} {v u : Value} {f g : StepF} (h : StepIs W v f) (h2 : StepIs W u g) : StepsIs W [v, u] [f, g] := ⟨h, h2, trivial⟩
/-- The slice literal of one, two, three function values, laid in a new block. -/
theorem lit_at (W : World) (l : List Value) (W' : World) (h : W.alloc (.cells l.toArray 78) = W') : StepsAt W' (.slice (some ⟨W.heap.size, 0, none⟩) l.length l.length) l := by
  refine .inr ⟨W.heap.size, rfl, fun j u hj => ?_⟩
  have := cells_new W l #[] 78 j u hj
  rw [Array.append_empty] at this
  rw [← h]
  exact this

set_option maxRecDepth 100000 in
set_option maxHeartbeats 8000000 in
theorem add_q (an ad bn bd : ByteArray) (h1 : an.size ≤ 1099511627776) (h2 : ad.size ≤ 1099511627776) (h3 : bn.size ≤ 1099511627776) (h4 : bd.size ≤ 1099511627776) (w : World) (hR : Ready w) :
    Calls Tryz.prog 38 #[.agg #[.string an, .string ad], .agg #[.string bn, .string bd]] w fun e w' => e = .returned (.tuple #[.agg #[.string (outN (addB an ad bn bd) (valQ an ad + valQ bn bd)), .string (outD (addB an ad bn bd) (valQ an ad + valQ bn bd))], .int .i64 (outE (addB an ad bn bd))]) ∧ Below w.heap.size w w' := by
  obtain ⟨W0, hW0, b0, hcc⟩ := box_three w an ad bn bd ⟨#[]⟩ ⟨#[]⟩
  have HW := Lib.hid hW0; have HC := Lib.hid hcc; have B0 := Lib.hid b0
  have HR := Lib.hid (hR.below b0)
  have P0 := Lib.hid (Below.refl W0.heap.size W0)
  clear hW0 hcc b0
  clear hR
  have ct := fun W (h : Ready W) => timesQ_any bd bd h4 h4 W h
  have cw := fun W (h : Ready W) => withQ_add bn ad h3 h2 W h
  have hO : (if bothB an ad bn bd then chain ([timesF bd bd, withF (· + ·) bn ad] ++ [unsF, lowF]) an ad else none) = if addB an ad bn bd then some (nT (valQ an ad + valQ bn bd), dT (valQ an ad + valQ bn bd)) else none := by
    cases hv : bothB an ad bn bd with
    | false => rw [if_neg (by decide)]; unfold addB; rw [hv]; rfl
    | true => rw [if_pos rfl]; exact chain_add hv
  have cc := fun W (h : Ready W) (v : Value) (vals : List Value) (hl : vals.length ≤ 1000) (hv : StepsAt W v vals) (hf : StepsIs W vals [timesF bd bd, withF (· + ·) bn ad]) => combine_any an ad bn bd h1 h2 h3 h4 v vals [timesF bd bd, withF (· + ·) bn ad] hl _ hO W h hv hf
  obtain ⟨p1, p2, p3⟩ := pair_out (addB an ad bn bd) (valQ an ad + valQ bn bd)
  rw [p1, p2, p3] at cc
  clear p1 p2 p3 hO
  generalize outN (addB an ad bn bd) (valQ an ad + valQ bn bd) = XN at *
  generalize outD (addB an ad bn bd) (valQ an ad + valQ bn bd) = XD at *
  generalize outE (addB an ad bn bd) = XE at *
  have CC := Lib.hid cc; have CT := Lib.hid ct; have CW := Lib.hid cw
  clear cc ct cw h1 h2 h3 h4
  go_enter Tryz.func38, Tryz.ntmps38
  obtain ⟨⟨ca0, cb0, cc0, cd0⟩, ⟨ce0, cf0, cg0, ch0⟩, ⟨ci0, cj0, ck0, cl0⟩⟩ := HC.out _ (Below.refl _ _)
  go_wp2_with (rw [HW.out])
  go_region_held3 (fun W => (W.cell? ⟨w.heap.size, 0, none⟩ = some (.string an) ∧ W.cell? ⟨w.heap.size, 1, none⟩ = some (.string ad)) ∧ (W.cell? ⟨w.heap.size + 1, 0, none⟩ = some (.string bn) ∧ W.cell? ⟨w.heap.size + 1, 1, none⟩ = some (.string bd)))
    (first | exact keep4 HC.out ⟨rfl, rfl, rfl, Nat.le_refl _, fun _ _ => rfl⟩ | exact keep4 HC.out hb1 | exact keep4 HC.out hb12 | exact keep4 HC.out (hb12.alloc hb12.size _) | exact keep4 HC.out hb3 | ((have hq := HC.out _ hb3); simp [go_sem, hq.1.1, hq.1.2.1, hq.2.1.1, hq.2.1.2.1]))
    (first | (go_at_call 67; (with_reducible refine (CT.out _ ?_).mono ?_); exact HR.out.below ⟨rfl, rfl, rfl, Nat.le_refl _, fun _ _ => rfl⟩; (rintro e w5 ⟨v1, rfl, hi1, hb1'⟩); (obtain ⟨g1, k1, rfl⟩ := hi1.form); have hb1 : Below W0.heap.size W0 w5 := ⟨hb1'.os, hb1'.tape, hb1'.output, hb1'.size, hb1'.block⟩) | (go_at_call 68; (with_reducible refine (CW.out _ ?_).mono ?_); exact HR.out.below hb1; (rintro e w6 ⟨v2, rfl, hi2, hb2'⟩); (obtain ⟨g2, k2, rfl⟩ := hi2.form); have hb2 : Below w5.heap.size w5 w6 := ⟨hb2'.os, hb2'.tape, hb2'.output, hb2'.size, hb2'.block⟩; have hi1' := hi1.below hb2; have hb12 := below_up hb1 hb2) | (go_at_call 66; (refine (CC.out _ (HR.out.below (hb12.alloc hb12.size _)) _ [_, _] (by simp) (lit_at w6 [_, _] _ rfl) (steps_two (hi1'.below ((Below.refl _ _).alloc (Nat.le_refl _) _)) (hi2.below ((Below.refl _ _).alloc (Nat.le_refl _) _)))).mono ?_); (rintro e w7 ⟨rfl, hb3'⟩); (have hb3 : Below W0.heap.size W0 w7 := below_up (hb12.alloc hb12.size _) hb3'); (obtain ⟨_, _, ⟨ci7, cj7, ck7, cl7⟩⟩ := HC.out _ hb3)))
  all_goals (
    have P7 := Lib.hid hb3
    go_wp2
    exact bodyPost_ret (v := .tuple #[.agg #[.string XN, .string XD], .int .i64 XE]) (by simp [results, Tryz.results38, go_sem, ci7, cj7]) rfl ⟨rfl, rat_done B0.out (by omega) P7.out _ _⟩)
set_option maxRecDepth 100000 in
set_option maxHeartbeats 8000000 in
theorem sub_q (an ad bn bd : ByteArray) (h1 : an.size ≤ 1099511627776) (h2 : ad.size ≤ 1099511627776) (h3 : bn.size ≤ 1099511627776) (h4 : bd.size ≤ 1099511627776) (w : World) (hR : Ready w) :
    Calls Tryz.prog 40 #[.agg #[.string an, .string ad], .agg #[.string bn, .string bd]] w fun e w' => e = .returned (.tuple #[.agg #[.string (outN (subB an ad bn bd) (valQ an ad - valQ bn bd)), .string (outD (subB an ad bn bd) (valQ an ad - valQ bn bd))], .int .i64 (outE (subB an ad bn bd))]) ∧ Below w.heap.size w w' := by
  obtain ⟨W0, hW0, b0, hcc⟩ := box_three w an ad bn bd ⟨#[]⟩ ⟨#[]⟩
  have HW := Lib.hid hW0; have HC := Lib.hid hcc; have B0 := Lib.hid b0
  have HR := Lib.hid (hR.below b0)
  have P0 := Lib.hid (Below.refl W0.heap.size W0)
  clear hW0 hcc b0
  clear hR
  have ct := fun W (h : Ready W) => timesQ_any bd bd h4 h4 W h
  have cw := fun W (h : Ready W) => withQ_sub bn ad h3 h2 W h
  have hO : (if bothB an ad bn bd then chain ([timesF bd bd, withF (· - ·) bn ad] ++ [unsF, lowF]) an ad else none) = if subB an ad bn bd then some (nT (valQ an ad - valQ bn bd), dT (valQ an ad - valQ bn bd)) else none := by
    cases hv : bothB an ad bn bd with
    | false => rw [if_neg (by decide)]; unfold subB; rw [hv]; rfl
    | true => rw [if_pos rfl]; exact chain_sub hv
  have cc := fun W (h : Ready W) (v : Value) (vals : List Value) (hl : vals.length ≤ 1000) (hv : StepsAt W v vals) (hf : StepsIs W vals [timesF bd bd, withF (· - ·) bn ad]) => combine_any an ad bn bd h1 h2 h3 h4 v vals [timesF bd bd, withF (· - ·) bn ad] hl _ hO W h hv hf
  obtain ⟨p1, p2, p3⟩ := pair_out (subB an ad bn bd) (valQ an ad - valQ bn bd)
  rw [p1, p2, p3] at cc
  clear p1 p2 p3 hO
  generalize outN (subB an ad bn bd) (valQ an ad - valQ bn bd) = XN at *
  generalize outD (subB an ad bn bd) (valQ an ad - valQ bn bd) = XD at *
  generalize outE (subB an ad bn bd) = XE at *
  have CC := Lib.hid cc; have CT := Lib.hid ct; have CW := Lib.hid cw
  clear cc ct cw h1 h2 h3 h4
  go_enter Tryz.func40, Tryz.ntmps40
  obtain ⟨⟨ca0, cb0, cc0, cd0⟩, ⟨ce0, cf0, cg0, ch0⟩, ⟨ci0, cj0, ck0, cl0⟩⟩ := HC.out _ (Below.refl _ _)
  go_wp2_with (rw [HW.out])
  go_region_held3 (fun W => (W.cell? ⟨w.heap.size, 0, none⟩ = some (.string an) ∧ W.cell? ⟨w.heap.size, 1, none⟩ = some (.string ad)) ∧ (W.cell? ⟨w.heap.size + 1, 0, none⟩ = some (.string bn) ∧ W.cell? ⟨w.heap.size + 1, 1, none⟩ = some (.string bd)))
    (first | exact keep4 HC.out ⟨rfl, rfl, rfl, Nat.le_refl _, fun _ _ => rfl⟩ | exact keep4 HC.out hb1 | exact keep4 HC.out hb12 | exact keep4 HC.out (hb12.alloc hb12.size _) | exact keep4 HC.out hb3 | ((have hq := HC.out _ hb3); simp [go_sem, hq.1.1, hq.1.2.1, hq.2.1.1, hq.2.1.2.1]))
    (first | (go_at_call 67; (with_reducible refine (CT.out _ ?_).mono ?_); exact HR.out.below ⟨rfl, rfl, rfl, Nat.le_refl _, fun _ _ => rfl⟩; (rintro e w5 ⟨v1, rfl, hi1, hb1'⟩); (obtain ⟨g1, k1, rfl⟩ := hi1.form); have hb1 : Below W0.heap.size W0 w5 := ⟨hb1'.os, hb1'.tape, hb1'.output, hb1'.size, hb1'.block⟩) | (go_at_call 68; (with_reducible refine (CW.out _ ?_).mono ?_); exact HR.out.below hb1; (rintro e w6 ⟨v2, rfl, hi2, hb2'⟩); (obtain ⟨g2, k2, rfl⟩ := hi2.form); have hb2 : Below w5.heap.size w5 w6 := ⟨hb2'.os, hb2'.tape, hb2'.output, hb2'.size, hb2'.block⟩; have hi1' := hi1.below hb2; have hb12 := below_up hb1 hb2) | (go_at_call 66; (refine (CC.out _ (HR.out.below (hb12.alloc hb12.size _)) _ [_, _] (by simp) (lit_at w6 [_, _] _ rfl) (steps_two (hi1'.below ((Below.refl _ _).alloc (Nat.le_refl _) _)) (hi2.below ((Below.refl _ _).alloc (Nat.le_refl _) _)))).mono ?_); (rintro e w7 ⟨rfl, hb3'⟩); (have hb3 : Below W0.heap.size W0 w7 := below_up (hb12.alloc hb12.size _) hb3'); (obtain ⟨_, _, ⟨ci7, cj7, ck7, cl7⟩⟩ := HC.out _ hb3)))
  all_goals (
    have P7 := Lib.hid hb3
    go_wp2
    exact bodyPost_ret (v := .tuple #[.agg #[.string XN, .string XD], .int .i64 XE]) (by simp [results, Tryz.results40, go_sem, ci7, cj7]) rfl ⟨rfl, rat_done B0.out (by omega) P7.out _ _⟩)
set_option maxRecDepth 100000 in
set_option maxHeartbeats 8000000 in
theorem mul_q (an ad bn bd : ByteArray) (h1 : an.size ≤ 1099511627776) (h2 : ad.size ≤ 1099511627776) (h3 : bn.size ≤ 1099511627776) (h4 : bd.size ≤ 1099511627776) (w : World) (hR : Ready w) :
    Calls Tryz.prog 39 #[.agg #[.string an, .string ad], .agg #[.string bn, .string bd]] w fun e w' => e = .returned (.tuple #[.agg #[.string (outN (mulB an ad bn bd) (valQ an ad * valQ bn bd)), .string (outD (mulB an ad bn bd) (valQ an ad * valQ bn bd))], .int .i64 (outE (mulB an ad bn bd))]) ∧ Below w.heap.size w w' := by
  obtain ⟨W0, hW0, b0, hcc⟩ := box_three w an ad bn bd ⟨#[]⟩ ⟨#[]⟩
  have HW := Lib.hid hW0; have HC := Lib.hid hcc; have B0 := Lib.hid b0
  have HR := Lib.hid (hR.below b0)
  have P0 := Lib.hid (Below.refl W0.heap.size W0)
  clear hW0 hcc b0
  clear hR
  have ct := fun W (h : Ready W) => timesQ_any bn bd h3 h4 W h
  have hO : (if bothB an ad bn bd then chain ([timesF bn bd] ++ [unsF, lowF]) an ad else none) = if mulB an ad bn bd then some (nT (valQ an ad * valQ bn bd), dT (valQ an ad * valQ bn bd)) else none := by
    cases hv : bothB an ad bn bd with
    | false => rw [if_neg (by decide)]; unfold mulB; rw [hv]; rfl
    | true => rw [if_pos rfl]; exact chain_mul hv
  have cc := fun W (h : Ready W) (v : Value) (vals : List Value) (hl : vals.length ≤ 1000) (hv : StepsAt W v vals) (hf : StepsIs W vals [timesF bn bd]) => combine_any an ad bn bd h1 h2 h3 h4 v vals [timesF bn bd] hl _ hO W h hv hf
  obtain ⟨p1, p2, p3⟩ := pair_out (mulB an ad bn bd) (valQ an ad * valQ bn bd)
  rw [p1, p2, p3] at cc
  clear p1 p2 p3 hO
  generalize outN (mulB an ad bn bd) (valQ an ad * valQ bn bd) = XN at *
  generalize outD (mulB an ad bn bd) (valQ an ad * valQ bn bd) = XD at *
  generalize outE (mulB an ad bn bd) = XE at *
  have CC := Lib.hid cc; have CT := Lib.hid ct
  clear cc ct h1 h2 h3 h4
  go_enter Tryz.func39, Tryz.ntmps39
  obtain ⟨⟨ca0, cb0, cc0, cd0⟩, ⟨ce0, cf0, cg0, ch0⟩, ⟨ci0, cj0, ck0, cl0⟩⟩ := HC.out _ (Below.refl _ _)
  go_wp2_with (rw [HW.out])
  go_region_held3 (fun W => (W.cell? ⟨w.heap.size, 0, none⟩ = some (.string an) ∧ W.cell? ⟨w.heap.size, 1, none⟩ = some (.string ad)) ∧ (W.cell? ⟨w.heap.size + 1, 0, none⟩ = some (.string bn) ∧ W.cell? ⟨w.heap.size + 1, 1, none⟩ = some (.string bd)))
    (first | exact keep4 HC.out ⟨rfl, rfl, rfl, Nat.le_refl _, fun _ _ => rfl⟩ | exact keep4 HC.out hb1 | exact keep4 HC.out (hb1.alloc hb1.size _) | exact keep4 HC.out hb3 | ((have hq := HC.out _ hb3); simp [go_sem, hq.1.1, hq.1.2.1, hq.2.1.1, hq.2.1.2.1]))
    (first | (go_at_call 67; (with_reducible refine (CT.out _ ?_).mono ?_); exact HR.out.below ⟨rfl, rfl, rfl, Nat.le_refl _, fun _ _ => rfl⟩; (rintro e w5 ⟨v1, rfl, hi1, hb1'⟩); (obtain ⟨g1, k1, rfl⟩ := hi1.form); have hb1 : Below W0.heap.size W0 w5 := ⟨hb1'.os, hb1'.tape, hb1'.output, hb1'.size, hb1'.block⟩) | (go_at_call 66; (refine (CC.out _ (HR.out.below (hb1.alloc hb1.size _)) _ [_] (by simp) (lit_at w5 [_] _ rfl) (steps_one (hi1.below ((Below.refl _ _).alloc (Nat.le_refl _) _)))).mono ?_); (rintro e w7 ⟨rfl, hb3'⟩); (have hb3 : Below W0.heap.size W0 w7 := below_up (hb1.alloc hb1.size _) hb3'); (obtain ⟨_, _, ⟨ci7, cj7, ck7, cl7⟩⟩ := HC.out _ hb3)))
  all_goals (
    have P7 := Lib.hid hb3
    go_wp2
    exact bodyPost_ret (v := .tuple #[.agg #[.string XN, .string XD], .int .i64 XE]) (by simp [results, Tryz.results39, go_sem, ci7, cj7]) rfl ⟨rfl, rat_done B0.out (by omega) P7.out _ _⟩)
set_option maxRecDepth 100000 in
set_option maxHeartbeats 8000000 in
theorem div_q (an ad bn bd : ByteArray) (h1 : an.size ≤ 1099511627776) (h2 : ad.size ≤ 1099511627776) (h3 : bn.size ≤ 1099511627776) (h4 : bd.size ≤ 1099511627776) (w : World) (hR : Ready w) :
    Calls Tryz.prog 45 #[.agg #[.string an, .string ad], .agg #[.string bn, .string bd]] w fun e w' => e = .returned (.tuple #[.agg #[.string (outN (divB an ad bn bd) (valQ an ad / valQ bn bd)), .string (outD (divB an ad bn bd) (valQ an ad / valQ bn bd))], .int .i64 (outE (divB an ad bn bd))]) ∧ Below w.heap.size w w' := by
  obtain ⟨W0, hW0, b0, hcc⟩ := box_three w an ad bn bd ⟨#[]⟩ ⟨#[]⟩
  have HW := Lib.hid hW0; have HC := Lib.hid hcc; have B0 := Lib.hid b0
  have HR := Lib.hid (hR.below b0)
  have P0 := Lib.hid (Below.refl W0.heap.size W0)
  clear hW0 hcc b0
  clear hR
  have ct := fun W (h : Ready W) => timesQ_any bd bn h4 h3 W h
  have hO : (if bothB an ad bn bd then chain ([timesF bd bn] ++ [unsF, lowF]) an ad else none) = if divB an ad bn bd then some (nT (valQ an ad / valQ bn bd), dT (valQ an ad / valQ bn bd)) else none := by
    cases hv : bothB an ad bn bd with
    | false => rw [if_neg (by decide)]; unfold divB; rw [hv]; rfl
    | true => rw [if_pos rfl]; exact chain_div hv
  have cc := fun W (h : Ready W) (v : Value) (vals : List Value) (hl : vals.length ≤ 1000) (hv : StepsAt W v vals) (hf : StepsIs W vals [timesF bd bn]) => combine_any an ad bn bd h1 h2 h3 h4 v vals [timesF bd bn] hl _ hO W h hv hf
  obtain ⟨p1, p2, p3⟩ := pair_out (divB an ad bn bd) (valQ an ad / valQ bn bd)
  rw [p1, p2, p3] at cc
  clear p1 p2 p3 hO
  generalize outN (divB an ad bn bd) (valQ an ad / valQ bn bd) = XN at *
  generalize outD (divB an ad bn bd) (valQ an ad / valQ bn bd) = XD at *
  generalize outE (divB an ad bn bd) = XE at *
  have CC := Lib.hid cc; have CT := Lib.hid ct
  clear cc ct h1 h2 h3 h4
  go_enter Tryz.func45, Tryz.ntmps45
  obtain ⟨⟨ca0, cb0, cc0, cd0⟩, ⟨ce0, cf0, cg0, ch0⟩, ⟨ci0, cj0, ck0, cl0⟩⟩ := HC.out _ (Below.refl _ _)
  go_wp2_with (rw [HW.out])
  go_region_held3 (fun W => (W.cell? ⟨w.heap.size, 0, none⟩ = some (.string an) ∧ W.cell? ⟨w.heap.size, 1, none⟩ = some (.string ad)) ∧ (W.cell? ⟨w.heap.size + 1, 0, none⟩ = some (.string bn) ∧ W.cell? ⟨w.heap.size + 1, 1, none⟩ = some (.string bd)))
    (first | exact keep4 HC.out ⟨rfl, rfl, rfl, Nat.le_refl _, fun _ _ => rfl⟩ | exact keep4 HC.out hb1 | exact keep4 HC.out (hb1.alloc hb1.size _) | exact keep4 HC.out hb3 | ((have hq := HC.out _ hb3); simp [go_sem, hq.1.1, hq.1.2.1, hq.2.1.1, hq.2.1.2.1]))
    (first | (go_at_call 67; (with_reducible refine (CT.out _ ?_).mono ?_); exact HR.out.below ⟨rfl, rfl, rfl, Nat.le_refl _, fun _ _ => rfl⟩; (rintro e w5 ⟨v1, rfl, hi1, hb1'⟩); (obtain ⟨g1, k1, rfl⟩ := hi1.form); have hb1 : Below W0.heap.size W0 w5 := ⟨hb1'.os, hb1'.tape, hb1'.output, hb1'.size, hb1'.block⟩) | (go_at_call 66; (refine (CC.out _ (HR.out.below (hb1.alloc hb1.size _)) _ [_] (by simp) (lit_at w5 [_] _ rfl) (steps_one (hi1.below ((Below.refl _ _).alloc (Nat.le_refl _) _)))).mono ?_); (rintro e w7 ⟨rfl, hb3'⟩); (have hb3 : Below W0.heap.size W0 w7 := below_up (hb1.alloc hb1.size _) hb3'); (obtain ⟨_, _, ⟨ci7, cj7, ck7, cl7⟩⟩ := HC.out _ hb3)))
  all_goals (
    have P7 := Lib.hid hb3
    go_wp2
    exact bodyPost_ret (v := .tuple #[.agg #[.string XN, .string XD], .int .i64 XE]) (by simp [results, Tryz.results45, go_sem, ci7, cj7]) rfl ⟨rfl, rat_done B0.out (by omega) P7.out _ _⟩)
end Go.Proofs.YtlcibnmcannapaaGreatDoor
