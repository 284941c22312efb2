/-
  Layer 8, the program: lastBegun, Reading.
-/
import Derived.Test.YtifdcfjllonmgaaDoorKa
import Derived.Test.YtifdcfjllonmgaaDoorJf
namespace Go.Proofs.YtifdcfjllonmgaaDoor
open Go Go.Proofs Go.RowKit Go.Lib

/-- The last tick that has begun for one anchor. -/
def lastN (a : An) (dr t : Int) : Int := if a.t ≤ t then a.a + (t - a.t).tdiv (1000000 - dr) else a.a - (a.t - t + (1000000 + dr) - 1).tdiv (1000000 + dr)
theorem lastN_iff {a : An} {dr t r : Int} (d0 : 0 ≤ dr) (d1 : dr ≤ 1000) : begA dr r a ≤ t ↔ r ≤ lastN a dr t := by
  unfold begA lastN
  by_cases ht : a.t ≤ t
  · rw [if_pos ht, Int.tdiv_eq_ediv_of_nonneg (by omega)]
    have hk : (0 : Int) < 1000000 - dr := by omega
    by_cases hr : r < a.a
    · rw [if_pos hr]
      have h1 : (r - a.a) * (1000000 + dr) ≤ 0 := Int.mul_nonpos_of_nonpos_of_nonneg (by omega) (by omega)
      have h2 : 0 ≤ (t - a.t) / (1000000 - dr) := Int.ediv_nonneg (by omega) (by omega)
      constructor <;> intro _ <;> omega
    · rw [if_neg hr]
      have := Int.le_ediv_iff_mul_le (a := r - a.a) (b := t - a.t) hk
      constructor
      · intro h; have := this.2 (by omega); omega
      · intro h; have := this.1 (by omega); omega
  · rw [if_neg ht, Int.tdiv_eq_ediv_of_nonneg (by omega)]
    have hk : (0 : Int) < 1000000 + dr := by omega
    by_cases hr : r < a.a
    · rw [if_pos hr]
      have e : (r - a.a) * (1000000 + dr) = -((a.a - r) * (1000000 + dr)) := by rw [← Int.neg_mul]; congr 1; omega
      rw [e]
      have := Int.ediv_lt_iff_lt_mul (a := a.t - t + (1000000 + dr) - 1) (b := a.a - r + 1) hk
      have e2 : (a.a - r + 1) * (1000000 + dr) = (a.a - r) * (1000000 + dr) + (1000000 + dr) := by rw [Int.add_mul, Int.one_mul]
      rw [e2] at this
      constructor
      · intro h; have := this.2 (by omega); omega
      · intro h; have := this.1 (by omega); omega
    · rw [if_neg hr]
      have h1 : 0 ≤ (r - a.a) * (1000000 - dr) := Int.mul_nonneg (by omega) (by omega)
      have := Int.le_ediv_iff_mul_le (a := 1) (b := a.t - t + (1000000 + dr) - 1) hk
      have h2 := this.2 (by omega)
      constructor <;> intro _ <;> omega
theorem td_bd8 {x k : Int} (h0 : 0 ≤ x) (hk : 1 ≤ k) : 0 ≤ x.tdiv k ∧ x.tdiv k ≤ x := by
  rw [Int.tdiv_eq_ediv_of_nonneg h0]
  exact ⟨Int.ediv_nonneg h0 (by omega), Int.ediv_le_self _ h0⟩
set_option maxRecDepth 100000 in
set_option maxHeartbeats 4000000 in
theorem lastBegun_u (a : An) (dr t : Int) (ha : anB a = true) (d0 : 0 ≤ dr) (d1 : dr ≤ 1000) (h0 : -17592186044416 ≤ t) (h1 : t ≤ 17592186044416) (w : World) :
    Calls Tryd.prog 55 #[.agg #[.int .i64 a.a, .int .i64 a.t], .int .i64 dr, .int .i64 t] w fun e w' => e = .returned (.int .i64 (lastN a dr t)) ∧ Below w.heap.size w w' := by
  obtain ⟨⟨m0, m1⟩, m2, m3⟩ := anB_of ha
  have u1 := wrapq8 (x := 1000000 - dr) (by omega); have u2 := wrapq8 (x := 1000000 + dr) (by omega)
  have z1 : ¬ (1000000 - dr) = 0 := by omega
  have z2 : ¬ (1000000 + dr) = 0 := by omega
  have HL := Lib.hid (show lastN a dr t = if a.t ≤ t then a.a + (t - a.t).tdiv (1000000 - dr) else a.a - (a.t - t + (1000000 + dr) - 1).tdiv (1000000 + dr) from rfl)
  generalize lastN a dr t = R at *
  obtain ⟨w1, V1, Z1, K1, B1⟩ := lay8 w [.int .i64 a.a, .int .i64 a.t] 60
  obtain ⟨x0, _⟩ := K1 0 (by simp); obtain ⟨x1, _⟩ := K1 1 (by simp)
  simp only [List.getElem_cons_zero, List.getElem_cons_succ] at x0 x1
  have HK := Lib.hid K1
  have HB1 := Lib.hid B1
  clear K1 B1 ha
  go_enter Tryd.func55, Tryd.ntmps55
  by_cases ht : a.t ≤ t
  · have HR := Lib.hid (show R = a.a + (t - a.t).tdiv (1000000 - dr) by rw [HL.out, if_pos ht])
    obtain ⟨q0, q1⟩ := td_bd8 (x := t - a.t) (k := 1000000 - dr) (by omega) (by omega)
    have u3 := wrapq8 (x := t - a.t) (by omega); have u4 := wrapq8 (x := (t - a.t).tdiv (1000000 - dr)) (by omega); have u5 := wrapq8 (x := a.a + (t - a.t).tdiv (1000000 - dr)) (by omega)
    generalize hQ : (t - a.t).tdiv (1000000 - dr) = Q at *
    go_upto_region 3 with fail
    clear V1
    refine wp_region_noPanic ?_
    refine wp_region_Kx (C := Grew w1) [9] 9 #[false, false, false, false, false, false, false, false, false, false] (by kernel_rfl) (by kernel_rfl) (by kernel_rfl) (grew0 _) ?_
    intro wx hwx
    refine wpAnyK_ex (i := 0) rfl (by kernel_rfl) (listed' := #[true, false, false, false, false, false, false, false, false, false]) rfl (fun _ _ _ _ _ h => h) hwx ?_
    apply Exists.intro
    refine ⟨⟨by rfl, fun wy hw => ?_⟩, ?_⟩
    · (have bw := hw.below; go_simp; try (first | (with_reducible rfl) | (with_reducible exact ⟨rfl, rfl⟩)))
    try simp only [Act.put]
    refine wpAnyK_ex (i := 1) rfl (by kernel_rfl) (listed' := #[true, true, false, false, false, false, false, false, false, false]) rfl (fun _ _ _ _ _ h => h) hwx ?_
    apply Exists.intro
    refine ⟨⟨by rfl, fun wy hw => ?_⟩, ?_⟩
    · (have bw := hw.below; have y0 := (show wy.cell? ⟨w.heap.size, 0, none⟩ = some (.int .i64 a.a) from (HK.out.below bw 0 (by simp)).1); go_simp; try (first | (with_reducible rfl) | (with_reducible exact ⟨rfl, rfl⟩)))
    try simp only [Act.put]
    refine wpAnyK_ex (i := 2) rfl (by kernel_rfl) (listed' := #[true, true, true, false, false, false, false, false, false, false]) rfl (fun _ _ _ _ _ h => h) hwx ?_
    apply Exists.intro
    refine ⟨⟨by rfl, fun wy hw => ?_⟩, ?_⟩
    · (have bw := hw.below; go_simp; try (first | (with_reducible rfl) | (with_reducible exact ⟨rfl, rfl⟩)))
    try simp only [Act.put]
    refine wpAnyK_ex (i := 3) rfl (by kernel_rfl) (listed' := #[true, true, true, true, false, false, false, false, false, false]) rfl (fun _ _ _ _ _ h => h) hwx ?_
    apply Exists.intro
    refine ⟨⟨by rfl, fun wy hw => ?_⟩, ?_⟩
    · (have bw := hw.below; go_simp; try (first | (with_reducible rfl) | (with_reducible exact ⟨rfl, rfl⟩)))
    try simp only [Act.put]
    refine wpAnyK_ex (i := 4) rfl (by kernel_rfl) (listed' := #[true, true, true, true, true, false, false, false, false, false]) rfl (fun _ _ _ _ _ h => h) hwx ?_
    apply Exists.intro
    refine ⟨⟨by rfl, fun wy hw => ?_⟩, ?_⟩
    · (have bw := hw.below; have y1 := (show wy.cell? ⟨w.heap.size, 1, none⟩ = some (.int .i64 a.t) from (HK.out.below bw 1 (by simp)).1); go_simp; try (first | (with_reducible rfl) | (with_reducible exact ⟨rfl, rfl⟩)))
    try simp only [Act.put]
    refine wpAnyK_ex (i := 5) rfl (by kernel_rfl) (listed' := #[true, true, true, true, true, true, false, false, false, false]) rfl (fun _ _ _ _ _ h => h) hwx ?_
    apply Exists.intro
    refine ⟨⟨by rfl, fun wy hw => ?_⟩, ?_⟩
    · (have bw := hw.below; go_simp; try (first | (with_reducible rfl) | (with_reducible exact ⟨rfl, rfl⟩)))
    try simp only [Act.put]
    refine wpAnyK_ex (i := 6) rfl (by kernel_rfl) (listed' := #[true, true, true, true, true, true, true, false, false, false]) rfl (fun _ _ _ _ _ h => h) hwx ?_
    apply Exists.intro
    refine ⟨⟨by rfl, fun wy hw => ?_⟩, ?_⟩
    · (have bw := hw.below; go_simp; try (first | (with_reducible rfl) | (with_reducible exact ⟨rfl, rfl⟩)))
    try simp only [Act.put]
    refine wpAnyK_ex (i := 7) rfl (by kernel_rfl) (listed' := #[true, true, true, true, true, true, true, true, false, false]) rfl (fun _ _ _ _ _ h => h) hwx ?_
    apply Exists.intro
    refine ⟨⟨by rfl, fun wy hw => ?_⟩, ?_⟩
    · (have bw := hw.below; go_simp; try (first | (with_reducible rfl) | (with_reducible exact ⟨rfl, rfl⟩)))
    try simp only [Act.put]
    refine wpAnyK_ex (i := 8) rfl (by kernel_rfl) (listed' := #[true, true, true, true, true, true, true, true, true, false]) rfl (fun _ _ _ _ _ h => h) hwx ?_
    apply Exists.intro
    refine ⟨⟨by rfl, fun wy hw => ?_⟩, ?_⟩
    · (have bw := hw.below; go_simp; try (first | (with_reducible rfl) | (with_reducible exact ⟨rfl, rfl⟩)))
    try simp only [Act.put]
    refine wpAnyK_end (by kernel_rfl) ?_
    try simp only [pickOps, List.filterMap_cons, List.filterMap_nil, List.getElem?_toArray, List.getElem?_cons_succ, List.getElem?_cons_zero]
    have HBX := Lib.hid (HB1.out.trans (hwx.below.mono (by omega)))
    clear hwx
    go_wp2_with fail
    refine NoPanic.normal ?_
    go_wp2_with fail
    go_ret
    exact ⟨by rw [HR.out]; rfl, HBX.out⟩
  · have HR := Lib.hid (show R = a.a - (a.t - t + (1000000 + dr) - 1).tdiv (1000000 + dr) by rw [HL.out, if_neg ht])
    have ht2 : decide (a.t ≤ t) = false := decide_eq_false ht
    obtain ⟨q0, q1⟩ := td_bd8 (x := a.t - t + (1000000 + dr) - 1) (k := 1000000 + dr) (by omega) (by omega)
    have u3 := wrapq8 (x := a.t - t) (by omega); have u4 := wrapq8 (x := a.t - t + (1000000 + dr)) (by omega); have u5 := wrapq8 (x := a.t - t + (1000000 + dr) - 1) (by omega)
    have u6 := wrapq8 (x := (a.t - t + (1000000 + dr) - 1).tdiv (1000000 + dr)) (by omega); have u7 := wrapq8 (x := a.a - (a.t - t + (1000000 + dr) - 1).tdiv (1000000 + dr)) (by omega)
    generalize hQ : (a.t - t + (1000000 + dr) - 1).tdiv (1000000 + dr) = Q at *
    go_upto_region 4 with fail
    clear V1
    refine wp_region_noPanic ?_
    refine wp_region_Kx (C := Grew w1) [12] 12 #[false, false, false, false, false, false, false, false, false, false, false, false, false] (by kernel_rfl) (by kernel_rfl) (by kernel_rfl) (grew0 _) ?_
    intro wx hwx
    refine wpAnyK_ex (i := 0) rfl (by kernel_rfl) (listed' := #[true, false, false, false, false, false, false, false, false, false, false, false, false]) rfl (fun _ _ _ _ _ h => h) hwx ?_
    apply Exists.intro
    refine ⟨⟨by rfl, fun wy hw => ?_⟩, ?_⟩
    · (have bw := hw.below; go_simp; try (first | (with_reducible rfl) | (with_reducible exact ⟨rfl, rfl⟩)))
    try simp only [Act.put]
    refine wpAnyK_ex (i := 1) rfl (by kernel_rfl) (listed' := #[true, true, false, false, false, false, false, false, false, false, false, false, false]) rfl (fun _ _ _ _ _ h => h) hwx ?_
    apply Exists.intro
    refine ⟨⟨by rfl, fun wy hw => ?_⟩, ?_⟩
    · (have bw := hw.below; have y0 := (show wy.cell? ⟨w.heap.size, 0, none⟩ = some (.int .i64 a.a) from (HK.out.below bw 0 (by simp)).1); go_simp; try (first | (with_reducible rfl) | (with_reducible exact ⟨rfl, rfl⟩)))
    try simp only [Act.put]
    refine wpAnyK_ex (i := 2) rfl (by kernel_rfl) (listed' := #[true, true, true, false, false, false, false, false, false, false, false, false, false]) rfl (fun _ _ _ _ _ h => h) hwx ?_
    apply Exists.intro
    refine ⟨⟨by rfl, fun wy hw => ?_⟩, ?_⟩
    · (have bw := hw.below; go_simp; try (first | (with_reducible rfl) | (with_reducible exact ⟨rfl, rfl⟩)))
    try simp only [Act.put]
    refine wpAnyK_ex (i := 3) rfl (by kernel_rfl) (listed' := #[true, true, true, true, false, false, false, false, false, false, false, false, false]) rfl (fun _ _ _ _ _ h => h) hwx ?_
    apply Exists.intro
    refine ⟨⟨by rfl, fun wy hw => ?_⟩, ?_⟩
    · (have bw := hw.below; have y1 := (show wy.cell? ⟨w.heap.size, 1, none⟩ = some (.int .i64 a.t) from (HK.out.below bw 1 (by simp)).1); go_simp; try (first | (with_reducible rfl) | (with_reducible exact ⟨rfl, rfl⟩)))
    try simp only [Act.put]
    refine wpAnyK_ex (i := 4) rfl (by kernel_rfl) (listed' := #[true, true, true, true, true, false, false, false, false, false, false, false, false]) rfl (fun _ _ _ _ _ h => h) hwx ?_
    apply Exists.intro
    refine ⟨⟨by rfl, fun wy hw => ?_⟩, ?_⟩
    · (have bw := hw.below; go_simp; try (first | (with_reducible rfl) | (with_reducible exact ⟨rfl, rfl⟩)))
    try simp only [Act.put]
    refine wpAnyK_ex (i := 5) rfl (by kernel_rfl) (listed' := #[true, true, true, true, true, true, false, false, false, false, false, false, false]) rfl (fun _ _ _ _ _ h => h) hwx ?_
    apply Exists.intro
    refine ⟨⟨by rfl, fun wy hw => ?_⟩, ?_⟩
    · (have bw := hw.below; go_simp; try (first | (with_reducible rfl) | (with_reducible exact ⟨rfl, rfl⟩)))
    try simp only [Act.put]
    refine wpAnyK_ex (i := 6) rfl (by kernel_rfl) (listed' := #[true, true, true, true, true, true, true, false, false, false, false, false, false]) rfl (fun _ _ _ _ _ h => h) hwx ?_
    apply Exists.intro
    refine ⟨⟨by rfl, fun wy hw => ?_⟩, ?_⟩
    · (have bw := hw.below; go_simp; try (first | (with_reducible rfl) | (with_reducible exact ⟨rfl, rfl⟩)))
    try simp only [Act.put]
    refine wpAnyK_ex (i := 7) rfl (by kernel_rfl) (listed' := #[true, true, true, true, true, true, true, true, false, false, false, false, false]) rfl (fun _ _ _ _ _ h => h) hwx ?_
    apply Exists.intro
    refine ⟨⟨by rfl, fun wy hw => ?_⟩, ?_⟩
    · (have bw := hw.below; go_simp; try (first | (with_reducible rfl) | (with_reducible exact ⟨rfl, rfl⟩)))
    try simp only [Act.put]
    refine wpAnyK_ex (i := 8) rfl (by kernel_rfl) (listed' := #[true, true, true, true, true, true, true, true, true, false, false, false, false]) rfl (fun _ _ _ _ _ h => h) hwx ?_
    apply Exists.intro
    refine ⟨⟨by rfl, fun wy hw => ?_⟩, ?_⟩
    · (have bw := hw.below; go_simp; try (first | (with_reducible rfl) | (with_reducible exact ⟨rfl, rfl⟩)))
    try simp only [Act.put]
    refine wpAnyK_ex (i := 9) rfl (by kernel_rfl) (listed' := #[true, true, true, true, true, true, true, true, true, true, false, false, false]) rfl (fun _ _ _ _ _ h => h) hwx ?_
    apply Exists.intro
    refine ⟨⟨by rfl, fun wy hw => ?_⟩, ?_⟩
    · (have bw := hw.below; go_simp; try (first | (with_reducible rfl) | (with_reducible exact ⟨rfl, rfl⟩)))
    try simp only [Act.put]
    refine wpAnyK_ex (i := 10) rfl (by kernel_rfl) (listed' := #[true, true, true, true, true, true, true, true, true, true, true, false, false]) rfl (fun _ _ _ _ _ h => h) hwx ?_
    apply Exists.intro
    refine ⟨⟨by rfl, fun wy hw => ?_⟩, ?_⟩
    · (have bw := hw.below; go_simp; try (first | (with_reducible rfl) | (with_reducible exact ⟨rfl, rfl⟩)))
    try simp only [Act.put]
    refine wpAnyK_ex (i := 11) rfl (by kernel_rfl) (listed' := #[true, true, true, true, true, true, true, true, true, true, true, true, false]) rfl (fun _ _ _ _ _ h => h) hwx ?_
    apply Exists.intro
    refine ⟨⟨by rfl, fun wy hw => ?_⟩, ?_⟩
    · (have bw := hw.below; go_simp; try (first | (with_reducible rfl) | (with_reducible exact ⟨rfl, rfl⟩)))
    try simp only [Act.put]
    refine wpAnyK_end (by kernel_rfl) ?_
    try simp only [pickOps, List.filterMap_cons, List.filterMap_nil, List.getElem?_toArray, List.getElem?_cons_succ, List.getElem?_cons_zero]
    have HBX := Lib.hid (HB1.out.trans (hwx.below.mono (by omega)))
    clear hwx
    go_wp2_with fail
    refine NoPanic.normal ?_
    go_wp2_with fail
    go_ret
    exact ⟨by rw [HR.out]; rfl, HBX.out⟩
/-- The least of what the anchors say. -/
def minN (dr t : Int) : List An → Int
  | [] => 0
  | a :: l => l.foldl (fun m b => min m (lastN b dr t)) (lastN a dr t)
theorem foldl_min {dr t r : Int} (d0 : 0 ≤ dr) (d1 : dr ≤ 1000) : ∀ (l : List An) (m : Int), r ≤ l.foldl (fun m b => min m (lastN b dr t)) m ↔ (r ≤ m ∧ ∀ b ∈ l, begA dr r b ≤ t)
  | [], m => by simp
  | b :: l, m => by
    rw [List.foldl_cons, foldl_min d0 d1 l (min m (lastN b dr t))]
    constructor
    · rintro ⟨h1, h2⟩
      refine ⟨by omega, fun x hx => ?_⟩
      rcases List.mem_cons.1 hx with rfl | hx
      · exact (lastN_iff d0 d1).2 (by omega)
      · exact h2 x hx
    · rintro ⟨h1, h2⟩
      have := (lastN_iff d0 d1).1 (h2 b List.mem_cons_self)
      exact ⟨by omega, fun x hx => h2 x (List.mem_cons_of_mem _ hx)⟩
theorem minN_iff {dr t r : Int} (d0 : 0 ≤ dr) (d1 : dr ≤ 1000) (l : List An) (hl : l ≠ []) : r ≤ minN dr t l ↔ begN dr r l ≤ t := by
  cases l with
  | nil => exact absurd rfl hl
  | cons a l =>
    show r ≤ l.foldl _ _ ↔ _
    rw [foldl_min d0 d1, ← lastN_iff d0 d1]
    constructor
    · rintro ⟨h1, h2⟩
      obtain ⟨b, hb, e⟩ := begN_mem dr r (a :: l) hl
      rw [e]
      rcases List.mem_cons.1 hb with rfl | hb
      · exact h1
      · exact h2 b hb
    · intro h
      refine ⟨Int.le_trans (begN_ge dr r (a :: l) a List.mem_cons_self) h, fun b hb => Int.le_trans (begN_ge dr r (a :: l) b (List.mem_cons_of_mem _ hb)) h⟩
theorem minN_is {c : Cl} {t : Int} (h : ckB c = true) : IsRead c t (minN c.dr t c.an) := by
  obtain ⟨_, ⟨d0, d1⟩, _, hne⟩ := ckB_of h
  refine ⟨(minN_iff d0 d1 c.an hne).1 (Int.le_refl _), ?_⟩
  refine Classical.byContradiction fun hn => ?_
  have := (minN_iff (t := t) (r := minN c.dr t c.an + 1) d0 d1 c.an hne).2 (by omega)
  omega
theorem readV_min {c : Cl} {t : Int} (h : readB c t = true) : readV c t = minN c.dr t c.an := by
  have hv := h
  unfold readB at hv
  rw [Bool.and_eq_true] at hv
  exact readV_of h (minN_is hv.1)
theorem anch_elem8 : Tryd.prog.underlying 48 = some (.slice (Tryd.prog.elem 48)) := by kernel_rfl
theorem anch_size8 (w : World) : (Go.sizeOf (Tryd.prog.elem 48)).run Tryd.prog w = .ok 2 w := by kernel_rfl
theorem slice_from8 (b o n c : Nat) (hn : 1 ≤ n) (hc : n ≤ c) : ∃ ad, (∀ w, (Instr.slice 48 (.slice (some ⟨b, o, none⟩) n c) (some (.int .i64 1)) none none).run Tryd.prog w = .ok (.slice ad (n - 1) (c - 1)) w) ∧ (2 ≤ n → ad = some ⟨b, o + 2, none⟩) := by
  by_cases h : c = 1
  · refine ⟨some ⟨b, o, none⟩, fun w => ?_, fun h2 => by omega⟩
    rw [run_slice_l w _ _ _ _ anch_elem8 .i64 _ (by omega) (by omega), anch_size8]
    subst h
    simp [Result.andThen, sliced]
  · refine ⟨some ⟨b, o + 2, none⟩, fun w => ?_, fun _ => rfl⟩
    rw [run_slice_l w _ _ _ _ anch_elem8 .i64 _ (by omega) (by omega), anch_size8]
    simp [Result.andThen, sliced, Addr.add, h]
theorem minN_step (dr t : Int) (l : List An) (k : Nat) (h1 : 1 ≤ k) (hk : k < l.length) : minN dr t (l.take (k + 1)) = min (minN dr t (l.take k)) (lastN l[k] dr t) := by
  cases l with
  | nil => exact absurd hk (Nat.not_lt_zero _)
  | cons a l =>
    obtain ⟨j, rfl⟩ : ∃ j, k = j + 1 := ⟨k - 1, by omega⟩
    have hj : j < l.length := by simpa using hk
    simp only [List.take_succ_cons, minN, List.getElem_cons_succ]
    rw [List.take_succ_eq_append_getElem hj, List.foldl_append]
    rfl
end Go.Proofs.YtifdcfjllonmgaaDoor
