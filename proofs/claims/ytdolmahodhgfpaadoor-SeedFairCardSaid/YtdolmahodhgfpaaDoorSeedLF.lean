/-
  SeedFair: its walk.
-/
import Derived.Test.YtdolmahodhgfpaaDoorSeedS
import Derived.Deep.CutRange
import Derived.Deep.DeepCutAuto
namespace Go.Proofs.YtdolmahodhgfpaaDoor
open Go Go.Proofs Go.RowKit Go.Lib

theorem redB_in {raw b : Int} (h1 : 1 ≤ b) (h2 : b ≤ 4611686018427387903) : redB raw b = decide (0 ≤ raw ∧ raw < limS b) := by
  unfold redB
  rw [Bool.eq_iff_iff, decide_eq_true_iff, decide_eq_true_iff]
  omega
set_option maxRecDepth 100000 in
set_option maxHeartbeats 16000000 in
theorem seedFair_walk (bound a b : Int) (a0 : -9223372036854775808 ≤ bound) (a1 : bound ≤ 9223372036854775807) (b0 : -9223372036854775808 ≤ a) (b1 : a ≤ 9223372036854775807) (c0 : -9223372036854775808 ≤ b) (c1 : b ≤ 9223372036854775807) (w : World) (hR : Ready w) :
    Calls Tryd.prog 5 #[.int .i64 bound, .int .i64 a, .int .i64 b] w fun e w' => e = .returned (.bool true) ∧ Below w.heap.size w w' := by
  have p0l := W1.pickI_lo (c := bound) (n := 4611686018427387903) (by decide)
  have p0h := W1.pickI_hi (c := bound) (n := 4611686018427387903) (by decide)
  have p1l := W1.pickI_lo (c := a) (n := 4611686018427387904) (by decide)
  have p1h := W1.pickI_hi (c := a) (n := 4611686018427387904) (by decide)
  have p2l := W1.pickI_lo (c := b) (n := 3) (by decide)
  have p2h := W1.pickI_hi (c := b) (n := 3) (by decide)
  have K0 := Lib.hid (fun W => pick6_any bound 4611686018427387903 a0 a1 (by decide) (by decide) W)
  have K1 := Lib.hid (fun W => pick6_any a 4611686018427387904 b0 b1 (by decide) (by decide) W)
  have K2 := Lib.hid (fun W => pick6_any b 3 c0 c1 (by decide) (by decide) W)
  have K3 := Lib.hid (fun (B : Int) (h1 : 1 ≤ B) (h2 : B ≤ 4611686018427387903) W => pick6_any b B c0 c1 h1 (by omega) W)
  have K4 := Lib.hid (fun (B : Int) (h1 : 1 ≤ B) => And.intro (W1.pickI_lo (c := b) (n := B) h1) (W1.pickI_hi (c := b) (n := B) h1))
  generalize W1.pickI bound 4611686018427387903 = x0 at *
  generalize W1.pickI a 4611686018427387904 = x1 at *
  generalize W1.pickI b 3 = x2 at *
  obtain ⟨B, hB⟩ : ∃ B, 1 + x0 = B := ⟨_, rfl⟩
  have hB1 : 1 ≤ B := by omega
  have hB2 : B ≤ 4611686018427387903 := by omega
  have lf := lim_facts hB1 hB2
  obtain ⟨q, hq⟩ : ∃ q, 4611686018427387904 / B = q := ⟨_, rfl⟩
  have hq0 : 0 ≤ q := by rw [← hq]; exact Int.ediv_nonneg (by decide) (by omega)
  have hq1 : q ≤ 4611686018427387904 := by rw [← hq]; exact Int.ediv_le_self _ (by decide)
  have ht : (4611686018427387904 : Int).tdiv B = q := by rw [Int.tdiv_eq_ediv_of_nonneg (by decide)]; exact hq
  have HRB := Lib.hid (fun raw => redB_in (raw := raw) hB1 hB2)
  have HRF := Lib.hid (fun raw (h : redB raw B = true) => red_facts h)
  have HRN := Lib.hid (fun raw (h : redB raw B = false) => red_no h)
  have CR := Lib.hid (fun raw W h => reduce_u raw B W h)
  have k3 := K3.out B hB1 hB2
  obtain ⟨y0, y1⟩ := K4.out B hB1
  generalize W1.pickI b B = x3 at *
  have K5 := Lib.hid k3
  obtain ⟨l, hl⟩ : ∃ l, limS B = l := ⟨_, rfl⟩
  have hm : q * B = l := by rw [← hl, ← hq]; rfl
  rw [hl] at lf HRB
  obtain ⟨l1, l2, l3, l4⟩ := lf
  have w1 : IntKind.i64.wrap (q * B) = l := by rw [hm]; exact IntWalk.i64_in _ (by omega)
  have HT := Lib.hid ht; have HM := Lib.hid hm; have HW1 := Lib.hid w1; have HQ := Lib.hid hq; have HB := Lib.hid hB
  have HBB := Lib.hid (And.intro hB1 hB2); have HQQ := Lib.hid (And.intro hq0 hq1); have HL := Lib.hid (show l % B = 0 ∧ 2305843009213693952 < l ∧ 4611686018427387904 - l < B ∧ l ≤ 4611686018427387904 from ⟨l1, l2, l3, l4⟩)
  have HX := Lib.hid (show (0 ≤ x0 ∧ x0 < 4611686018427387903) ∧ (0 ≤ x1 ∧ x1 < 4611686018427387904) ∧ (0 ≤ x2 ∧ x2 < 3) ∧ (0 ≤ x3 ∧ x3 < B) from ⟨⟨p0l, p0h⟩, ⟨p1l, p1h⟩, ⟨p2l, p2h⟩, y0, y1⟩)
  have HR := Lib.hid hR; have SANE := Lib.hid (fun W h => sane6_any W h)
  clear p0l p0h p1l p1h p2l p2h K3 K4 k3 y0 y1 hl ht hm w1 hq hB l1 l2 l3 l4 hB1 hB2 hq0 hq1 hR a0 a1 b0 b1 c0 c1
  go_enter Tryd.func5, Tryd.ntmps5
  go_wp2_with fail
  refine (SANE.out _ HR.out).mono ?_
  rintro e z1 ⟨rfl, bz⟩
  have P1 := Lib.hid bz
  clear bz
  go_wp2_with fail
  refine (K0.out _).mono ?_
  rintro e z ⟨rfl, rfl⟩
  obtain ⟨⟨x00, x01⟩, _⟩ := HX.out
  go_upto_region 3 with fail
  rw [HB.out]
  clear x00 x01
  obtain ⟨bb1, bb2⟩ := HBB.out
  have ht := HT.out; have hq := HQ.out; have hm := HM.out; have hw1 := HW1.out
  have hz : (B == 0) = false := beq_eq_false_iff_ne.2 (by omega)
  have hz2 : ¬ B = 0 := by omega
  obtain ⟨qq1, qq2⟩ := HQQ.out
  have hl4 := HL.out.2.2.2; have hl2 := HL.out.2.1
  have w2 : IntKind.i64.wrap q = q := IntWalk.i64_in _ (by omega)
  go_upto_region 4 with fail
  clear ht hq hm hw1 hz hz2 w2 qq1 qq2
  obtain ⟨_, ⟨x10, x11⟩, ⟨x20, x21⟩, x30, x31⟩ := HX.out
  go_cut [36, 37, 38] from 22 to 38 (fun sa sb sc wx => sb = .int .i64 4 ∧ sc = .int .i64 0 ∧ ∃ G : Nat, sa = .slice (some ⟨G, 0, none⟩) 4 4 ∧ Hid (∀ k, k < 4 → ∃ r : Int, -4611686018427387904 ≤ r ∧ r ≤ 4611686018427387904 ∧ ∀ W, Below wx.heap.size wx W → W.cell? ⟨G, k, none⟩ = some (.int .i64 r)) ∧ Hid (Below w.heap.size w wx))
  case first =>
    have hmin : min (l + x3) 4611686018427387903 ≤ 4611686018427387904 ∧ -4611686018427387904 ≤ min (l + x3) 4611686018427387903 := by omega
    have HMIN := Lib.hid hmin
    clear hmin
    go_wp2_with fail
    refine (K1.out _).mono ?_
    rintro e z ⟨rfl, rfl⟩
    go_wp2_with fail
    refine (K2.out _).mono ?_
    rintro e z ⟨rfl, rfl⟩
    go_wp2_with fail
    refine (K5.out _).mono ?_
    rintro e z ⟨rfl, rfl⟩
    go_wp2_with fail
    go_meet
    refine ⟨rfl, rfl, _, rfl, Lib.hid (fun k hk => ?_), Lib.hid (P1.out.alloc P1.out.size _)⟩
    have hc := fun (W : World) (b : Below (z1.alloc (.cells #[.int .i64 x1, .int .i64 (l - 1 - x2), .int .i64 l, .int .i64 (min (l + x3) 4611686018427387903)] 3)).heap.size (z1.alloc (.cells #[.int .i64 x1, .int .i64 (l - 1 - x2), .int .i64 l, .int .i64 (min (l + x3) 4611686018427387903)] 3)) W) (k : Nat) => (b.cell (p := ⟨z1.heap.size, k, none⟩) (by simp)).trans (cell_of_row _ z1.heap.size k _ _ _ (heap_alloc_new z1 _))
    have e : k = 0 ∨ k = 1 ∨ k = 2 ∨ k = 3 := by omega
    rcases e with rfl | rfl | rfl | rfl
    · exact ⟨x1, by omega, by omega, fun W b => by rw [hc W b 0]; rfl⟩
    · exact ⟨l - 1 - x2, by omega, by omega, fun W b => by rw [hc W b 1]; rfl⟩
    · exact ⟨l, by omega, by omega, fun W b => by rw [hc W b 2]; rfl⟩
    · exact ⟨min (l + x3) 4611686018427387903, HMIN.out.2, HMIN.out.1, fun W b => by rw [hc W b 3]; rfl⟩
  case rest =>
    obtain ⟨rfl, rfl, G, rfl, HZ, PB⟩ := hcut
    generalize wc = zb at *
    clear x10 x11 x20 x21 x30 x31 hl4 hl2
    go_wp2_with fail
    go_loopw [38] (fun i wr => ∃ k : Nat, k ≤ 4 ∧ i = .int .i64 k ∧ Hid (Below zb.heap.size zb wr)) (fun i _ => 4 - (RowKit.intOf i).toNat)
    case atStart => exact ⟨0, by omega, rfl, Lib.hid (Below.refl _ _)⟩
    case round =>
      obtain ⟨k, hk, rfl, HBW⟩ := hrel
      by_cases hk4 : k < 4
      · have hki : (k : Int) < 4 := by omega
        have hik := fun W => at_z6 G 4 4 k hk4 W
        obtain ⟨r, r1, r2, hrc⟩ := HZ.out k hk4
        have hct := hrc wr HBW.out
        have HK4 := Lib.hid hk4; have HKI := Lib.hid hki; have HRR := Lib.hid (And.intro r1 r2)
        clear hrc hk hk4 r1 r2
        go_wp2_with fail
        refine (CR.out r _ (HR.out.below (below_up6 PB.out HBW.out))).mono ?_
        rintro e z2 ⟨rfl, b2⟩
        have P2 := Lib.hid (below_up6 HBW.out b2)
        clear b2 hik hct hki
        have hrb := HRB.out r
        obtain ⟨r1, r2⟩ := HRR.out
        obtain ⟨l1, l2, l3, l4⟩ := HL.out
        by_cases h1 : r < 0
        · have hb : redB r B = false := by rw [hrb]; exact decide_eq_false (fun h => by omega)
          rw [HRN.out r hb, hb]
          clear hb hrb l1
          have hki := HKI.out; have hk4 := HK4.out
          go_wp2_with fail
          go_roundw
          case rel => exact ⟨k + 1, by omega, by go_num, P2⟩
          case measure => simp [RowKit.intOf]; omega
        · by_cases h2 : r < l
          · have hb : redB r B = true := by rw [hrb]; exact decide_eq_true ⟨by omega, h2⟩
            obtain ⟨f1, f2, f3, f4⟩ := HRF.out r hb
            rw [hb]
            generalize redV r B = n at *
            have fnn : 0 ≤ r - n := by
              rw [f1]
              have := Int.emod_lt_of_pos r (show 0 < B by omega)
              have h9 := Int.mul_ediv_add_emod r B
              have h8 := Int.emod_nonneg r (show B ≠ 0 by omega)
              have h7 : 0 ≤ B * (r / B) := Int.mul_nonneg (by omega) (Int.ediv_nonneg (by omega) (by omega))
              omega
            have f5 : (r - n).tmod B = 0 := by rw [Int.tmod_eq_emod_of_nonneg fnn]; exact f4
            have hz : (B == 0) = false := beq_eq_false_iff_ne.2 (by omega)
            have hz2 : ¬ B = 0 := by omega
            have hrl : r < 4611686018427387904 := by omega
            clear hb hrb l1 f1
            have hki := HKI.out; have hk4 := HK4.out
            go_wp2_with fail
            go_roundw
            case rel => exact ⟨k + 1, by omega, by go_num, P2⟩
            case measure => simp [RowKit.intOf]; omega
          · have hb : redB r B = false := by rw [hrb]; exact decide_eq_false (fun h => by omega)
            rw [HRN.out r hb, hb]
            clear hb hrb l1
            have hki := HKI.out; have hk4 := HK4.out
            by_cases h3 : r < 4611686018427387904
            · go_wp2_with fail
              go_roundw
              case rel => exact ⟨k + 1, by omega, by go_num, P2⟩
              case measure => simp [RowKit.intOf]; omega
            · go_wp2_with fail
              go_roundw
              case rel => exact ⟨k + 1, by omega, by go_num, P2⟩
              case measure => simp [RowKit.intOf]; omega
      · have hki : ¬ (k : Int) < 4 := by omega
        have PE := Lib.hid (below_up6 PB.out HBW.out)
        obtain ⟨l1, l2, l3, l4⟩ := HL.out
        have m1 : l.tmod B = 0 := by rw [Int.tmod_eq_emod_of_nonneg (by omega)]; exact l1
        have hz : (B == 0) = false := beq_eq_false_iff_ne.2 (by omega)
        have hz2 : ¬ B = 0 := by omega
        go_wp2
        go_ret
        exact ⟨rfl, PE.out⟩
end Go.Proofs.YtdolmahodhgfpaaDoor
