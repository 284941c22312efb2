/-
  Layer 8, the program: Valid.
-/
import Derived.Test.YtifdcfjllonmgaaDoorNb
namespace Go.Proofs.YtifdcfjllonmgaaDoor
open Go Go.Proofs Go.RowKit Go.Lib

theorem lia_min (lia n : Int) : inB lia 0 (min 2 (n - 1)) = (inB lia 0 2 && decide (lia < n)) := by
  unfold inB
  rw [Bool.eq_iff_iff]
  simp
  omega
theorem flB_prog (f : Fl) : flB f = (inB f.dr.length 1 6 && (!(f.dr.any fun v => !inB v 0 1000)) && inB f.lat 0 1000000 && inB f.lia 0 (min 2 ((f.dr.length : Int) - 1)) && inB f.tm.length 1 8 && (!(f.tm.any fun v => !inB v 0 3)) && inB f.sv.length 1 12 && (!(f.sv.any fun v => !inB v 0 ((f.tm.length : Int) - 1)))) := by
  rw [any_all8, any_all8, any_all8, lia_min]
  unfold flB
  simp only [Bool.and_assoc]
set_option maxRecDepth 100000 in
set_option maxHeartbeats 8000000 in
theorem valid_u (v : Value) (f : Fl) (w : World) (hfit : f.fit) (hf : FlAt w v f) :
    Calls Tryd.prog 14 #[v] w fun e w' => e = .returned (.bool (flB f)) ∧ Below w.heap.size w w' := by
  obtain ⟨a1, c1, a2, c2, a3, c3, rfl, r1, r2, r3⟩ := hf
  obtain ⟨f1, f2, f3⟩ := hfit
  obtain ⟨R, hR⟩ : ∃ R, flB f = R := ⟨_, rfl⟩
  rw [hR]
  have HR := Lib.hid (hR.symm.trans (flB_prog f))
  obtain ⟨dr, lat, lia, sv, tm⟩ := f
  dsimp only at HR r1 r2 r3 f1 f2 f3
  obtain ⟨w1, V1, Z1, K1, B1⟩ := lay8 w [.slice a1 dr.length c1, .int .i64 lat, .int .i64 lia, .slice a2 sv.length c2, .slice a3 tm.length c3] 24
  have HZ := Lib.hid B1
  have L1 := Lib.hid (show dr.length ≤ maxLen by unfold maxLen; omega); have L2 := Lib.hid (show sv.length ≤ maxLen by unfold maxLen; omega); have L3 := Lib.hid (show tm.length ≤ maxLen by unfold maxLen; omega)
  have C1 := Lib.hid (fun W => isIn_u (dr.length : Int) 1 6 W); have C3 := Lib.hid (fun W => isIn_u lat 0 1000000 W); have C4 := Lib.hid (show ∀ (m : Int) (W : World), m = min 2 ((dr.length : Int) - 1) → Calls Tryd.prog 40 #[.int .i64 lia, .int .i64 0, .int .i64 m] W fun e w' => e = .returned (.bool (inB lia 0 (min 2 ((dr.length : Int) - 1)))) ∧ w' = W from fun m W h => by rw [h]; exact isIn_u lia 0 (min 2 ((dr.length : Int) - 1)) W)
  have C5 := Lib.hid (fun W => isIn_u (tm.length : Int) 1 8 W); have C7 := Lib.hid (fun W => isIn_u (sv.length : Int) 1 12 W)
  have C2 := Lib.hid (fun W b => areIn_u a1 c1 dr 0 1000 L1.out W (r1.below b)); have C6 := Lib.hid (fun W b => areIn_u a3 c3 tm 0 3 L3.out W (r3.below b)); have C8 := Lib.hid (fun W b => areIn_u a2 c2 sv 0 ((tm.length : Int) - 1) L2.out W (r2.below b))
  generalize inB (dr.length : Int) 1 6 = b1 at *
  generalize (!(dr.any fun v => !inB v 0 1000)) = b2 at *
  generalize inB lat 0 1000000 = b3 at *
  generalize inB lia 0 (min 2 ((dr.length : Int) - 1)) = b4 at *
  generalize inB (tm.length : Int) 1 8 = b5 at *
  generalize (!(tm.any fun v => !inB v 0 3)) = b6 at *
  generalize inB (sv.length : Int) 1 12 = b7 at *
  generalize (!(sv.any fun v => !inB v 0 ((tm.length : Int) - 1))) = b8 at *
  obtain ⟨y0, y0'⟩ := K1 0 (by simp); obtain ⟨y1, y1'⟩ := K1 1 (by simp); obtain ⟨y2, y2'⟩ := K1 2 (by simp); obtain ⟨y3, y3'⟩ := K1 3 (by simp); obtain ⟨y4, y4'⟩ := K1 4 (by simp)
  simp only [List.getElem_cons_zero, List.getElem_cons_succ] at y0 y1 y2 y3 y4
  have HKB := Lib.hid (show ∀ W, Below (w.heap.size + 1) w1 W → W.cell? ⟨w.heap.size, 0, none⟩ = some (.slice a1 dr.length c1) ∧ W.cell? ⟨w.heap.size, 1, none⟩ = some (.int .i64 lat) ∧ W.cell? ⟨w.heap.size, 2, none⟩ = some (.int .i64 lia) ∧ W.cell? ⟨w.heap.size, 3, none⟩ = some (.slice a2 sv.length c2) ∧ W.cell? ⟨w.heap.size, 4, none⟩ = some (.slice a3 tm.length c3) from fun W b => ⟨(K1.up b (by omega) 0 (by simp)).1, (K1.up b (by omega) 1 (by simp)).1, (K1.up b (by omega) 2 (by simp)).1, (K1.up b (by omega) 3 (by simp)).1, (K1.up b (by omega) 4 (by simp)).1⟩)
  have HU := Lib.hid (show Below (w.heap.size + 1) w1 w1 from Below.refl _ _)
  clear hR r1 r2 r3 B1 K1 y0' y1' y2' y3' y4'
  go_enter Tryd.func14, Tryd.ntmps14
  cases b1 with
  | false =>
    go_wp2_with (first | (go_at_call 40; (first | (with_reducible refine (C1.out _).mono ?_) | (with_reducible refine (C3.out _).mono ?_) | (with_reducible refine (C4.out _ _ (by omega)).mono ?_) | (with_reducible refine (C5.out _).mono ?_) | (with_reducible refine (C7.out _).mono ?_)); rintro e z ⟨rfl, rfl⟩) | (go_at_call 41; (first | (with_reducible refine (C2.out _ HZ.out).mono ?_) | (with_reducible refine (C6.out _ HZ.out).mono ?_) | (with_reducible refine (C8.out _ HZ.out).mono ?_)); rintro e z ⟨rfl, hz⟩; replace HZ := Lib.hid (HZ.out.trans (hz.mono HZ.out.size)); replace HU := Lib.hid (HU.out.trans (hz.mono (by have := HU.out.size; omega))); clear hz; try clear y0 y1 y2 y3 y4; obtain ⟨y0, y1, y2, y3, y4⟩ := HKB.out _ HU.out))
    all_goals (go_ret; exact ⟨by rw [HR.out]; simp, HZ.out⟩)
  | true =>
    cases b2 with
    | false =>
      go_wp2_with (first | (go_at_call 40; (first | (with_reducible refine (C1.out _).mono ?_) | (with_reducible refine (C3.out _).mono ?_) | (with_reducible refine (C4.out _ _ (by omega)).mono ?_) | (with_reducible refine (C5.out _).mono ?_) | (with_reducible refine (C7.out _).mono ?_)); rintro e z ⟨rfl, rfl⟩) | (go_at_call 41; (first | (with_reducible refine (C2.out _ HZ.out).mono ?_) | (with_reducible refine (C6.out _ HZ.out).mono ?_) | (with_reducible refine (C8.out _ HZ.out).mono ?_)); rintro e z ⟨rfl, hz⟩; replace HZ := Lib.hid (HZ.out.trans (hz.mono HZ.out.size)); replace HU := Lib.hid (HU.out.trans (hz.mono (by have := HU.out.size; omega))); clear hz; try clear y0 y1 y2 y3 y4; obtain ⟨y0, y1, y2, y3, y4⟩ := HKB.out _ HU.out))
      all_goals (go_ret; exact ⟨by rw [HR.out]; simp, HZ.out⟩)
    | true =>
      cases b3 with
      | false =>
        go_wp2_with (first | (go_at_call 40; (first | (with_reducible refine (C1.out _).mono ?_) | (with_reducible refine (C3.out _).mono ?_) | (with_reducible refine (C4.out _ _ (by omega)).mono ?_) | (with_reducible refine (C5.out _).mono ?_) | (with_reducible refine (C7.out _).mono ?_)); rintro e z ⟨rfl, rfl⟩) | (go_at_call 41; (first | (with_reducible refine (C2.out _ HZ.out).mono ?_) | (with_reducible refine (C6.out _ HZ.out).mono ?_) | (with_reducible refine (C8.out _ HZ.out).mono ?_)); rintro e z ⟨rfl, hz⟩; replace HZ := Lib.hid (HZ.out.trans (hz.mono HZ.out.size)); replace HU := Lib.hid (HU.out.trans (hz.mono (by have := HU.out.size; omega))); clear hz; try clear y0 y1 y2 y3 y4; obtain ⟨y0, y1, y2, y3, y4⟩ := HKB.out _ HU.out))
        all_goals (go_ret; exact ⟨by rw [HR.out]; simp, HZ.out⟩)
      | true =>
        cases b4 with
        | false =>
          go_wp2_with (first | (go_at_call 40; (first | (with_reducible refine (C1.out _).mono ?_) | (with_reducible refine (C3.out _).mono ?_) | (with_reducible refine (C4.out _ _ (by omega)).mono ?_) | (with_reducible refine (C5.out _).mono ?_) | (with_reducible refine (C7.out _).mono ?_)); rintro e z ⟨rfl, rfl⟩) | (go_at_call 41; (first | (with_reducible refine (C2.out _ HZ.out).mono ?_) | (with_reducible refine (C6.out _ HZ.out).mono ?_) | (with_reducible refine (C8.out _ HZ.out).mono ?_)); rintro e z ⟨rfl, hz⟩; replace HZ := Lib.hid (HZ.out.trans (hz.mono HZ.out.size)); replace HU := Lib.hid (HU.out.trans (hz.mono (by have := HU.out.size; omega))); clear hz; try clear y0 y1 y2 y3 y4; obtain ⟨y0, y1, y2, y3, y4⟩ := HKB.out _ HU.out))
          all_goals (go_ret; exact ⟨by rw [HR.out]; simp, HZ.out⟩)
        | true =>
          cases b5 with
          | false =>
            go_wp2_with (first | (go_at_call 40; (first | (with_reducible refine (C1.out _).mono ?_) | (with_reducible refine (C3.out _).mono ?_) | (with_reducible refine (C4.out _ _ (by omega)).mono ?_) | (with_reducible refine (C5.out _).mono ?_) | (with_reducible refine (C7.out _).mono ?_)); rintro e z ⟨rfl, rfl⟩) | (go_at_call 41; (first | (with_reducible refine (C2.out _ HZ.out).mono ?_) | (with_reducible refine (C6.out _ HZ.out).mono ?_) | (with_reducible refine (C8.out _ HZ.out).mono ?_)); rintro e z ⟨rfl, hz⟩; replace HZ := Lib.hid (HZ.out.trans (hz.mono HZ.out.size)); replace HU := Lib.hid (HU.out.trans (hz.mono (by have := HU.out.size; omega))); clear hz; try clear y0 y1 y2 y3 y4; obtain ⟨y0, y1, y2, y3, y4⟩ := HKB.out _ HU.out))
            all_goals (go_ret; exact ⟨by rw [HR.out]; simp, HZ.out⟩)
          | true =>
            cases b6 with
            | false =>
              go_wp2_with (first | (go_at_call 40; (first | (with_reducible refine (C1.out _).mono ?_) | (with_reducible refine (C3.out _).mono ?_) | (with_reducible refine (C4.out _ _ (by omega)).mono ?_) | (with_reducible refine (C5.out _).mono ?_) | (with_reducible refine (C7.out _).mono ?_)); rintro e z ⟨rfl, rfl⟩) | (go_at_call 41; (first | (with_reducible refine (C2.out _ HZ.out).mono ?_) | (with_reducible refine (C6.out _ HZ.out).mono ?_) | (with_reducible refine (C8.out _ HZ.out).mono ?_)); rintro e z ⟨rfl, hz⟩; replace HZ := Lib.hid (HZ.out.trans (hz.mono HZ.out.size)); replace HU := Lib.hid (HU.out.trans (hz.mono (by have := HU.out.size; omega))); clear hz; try clear y0 y1 y2 y3 y4; obtain ⟨y0, y1, y2, y3, y4⟩ := HKB.out _ HU.out))
              all_goals (go_ret; exact ⟨by rw [HR.out]; simp, HZ.out⟩)
            | true =>
              cases b7 with
              | false =>
                go_wp2_with (first | (go_at_call 40; (first | (with_reducible refine (C1.out _).mono ?_) | (with_reducible refine (C3.out _).mono ?_) | (with_reducible refine (C4.out _ _ (by omega)).mono ?_) | (with_reducible refine (C5.out _).mono ?_) | (with_reducible refine (C7.out _).mono ?_)); rintro e z ⟨rfl, rfl⟩) | (go_at_call 41; (first | (with_reducible refine (C2.out _ HZ.out).mono ?_) | (with_reducible refine (C6.out _ HZ.out).mono ?_) | (with_reducible refine (C8.out _ HZ.out).mono ?_)); rintro e z ⟨rfl, hz⟩; replace HZ := Lib.hid (HZ.out.trans (hz.mono HZ.out.size)); replace HU := Lib.hid (HU.out.trans (hz.mono (by have := HU.out.size; omega))); clear hz; try clear y0 y1 y2 y3 y4; obtain ⟨y0, y1, y2, y3, y4⟩ := HKB.out _ HU.out))
                all_goals (go_ret; exact ⟨by rw [HR.out]; simp, HZ.out⟩)
              | true =>
                cases b8 with
                | false =>
                  go_wp2_with (first | (go_at_call 40; (first | (with_reducible refine (C1.out _).mono ?_) | (with_reducible refine (C3.out _).mono ?_) | (with_reducible refine (C4.out _ _ (by omega)).mono ?_) | (with_reducible refine (C5.out _).mono ?_) | (with_reducible refine (C7.out _).mono ?_)); rintro e z ⟨rfl, rfl⟩) | (go_at_call 41; (first | (with_reducible refine (C2.out _ HZ.out).mono ?_) | (with_reducible refine (C6.out _ HZ.out).mono ?_) | (with_reducible refine (C8.out _ HZ.out).mono ?_)); rintro e z ⟨rfl, hz⟩; replace HZ := Lib.hid (HZ.out.trans (hz.mono HZ.out.size)); replace HU := Lib.hid (HU.out.trans (hz.mono (by have := HU.out.size; omega))); clear hz; try clear y0 y1 y2 y3 y4; obtain ⟨y0, y1, y2, y3, y4⟩ := HKB.out _ HU.out))
                  all_goals (go_ret; exact ⟨by rw [HR.out]; simp, HZ.out⟩)
                | true =>
                  go_wp2_with (first | (go_at_call 40; (first | (with_reducible refine (C1.out _).mono ?_) | (with_reducible refine (C3.out _).mono ?_) | (with_reducible refine (C4.out _ _ (by omega)).mono ?_) | (with_reducible refine (C5.out _).mono ?_) | (with_reducible refine (C7.out _).mono ?_)); rintro e z ⟨rfl, rfl⟩) | (go_at_call 41; (first | (with_reducible refine (C2.out _ HZ.out).mono ?_) | (with_reducible refine (C6.out _ HZ.out).mono ?_) | (with_reducible refine (C8.out _ HZ.out).mono ?_)); rintro e z ⟨rfl, hz⟩; replace HZ := Lib.hid (HZ.out.trans (hz.mono HZ.out.size)); replace HU := Lib.hid (HU.out.trans (hz.mono (by have := HU.out.size; omega))); clear hz; try clear y0 y1 y2 y3 y4; obtain ⟨y0, y1, y2, y3, y4⟩ := HKB.out _ HU.out))
                  all_goals (go_ret; exact ⟨by rw [HR.out]; rfl, HZ.out⟩)
end Go.Proofs.YtifdcfjllonmgaaDoor
