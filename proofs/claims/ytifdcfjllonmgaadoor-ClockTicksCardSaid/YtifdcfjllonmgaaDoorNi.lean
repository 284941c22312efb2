/-
  Layer 8, the program: what its rules admit.
-/
import Derived.Test.YtifdcfjllonmgaaDoorNh
import Derived.Test.YtifdcfjllonmgaaDoorHm
namespace Go.Proofs.YtifdcfjllonmgaaDoor
open Go Go.Proofs Go.RowKit Go.Lib

def hiV (dr d : Int) : Int := (d + 1) * (1000000 + dr) - 1
theorem prod_bd8 {a b : Int} (a0 : -1000002 ≤ a) (a1 : a ≤ 1000002) (b0 : 0 ≤ b) (b1 : b ≤ 1001000) : -1001002002000 ≤ a * b ∧ a * b ≤ 1001002002000 := by
  constructor
  · calc (-1001002002000 : Int) = -1000002 * 1001000 := by decide
      _ ≤ -1000002 * b := Int.mul_le_mul_of_nonpos_left (by decide) b1
      _ ≤ a * b := Int.mul_le_mul_of_nonneg_right a0 b0
  · calc a * b ≤ 1000002 * b := Int.mul_le_mul_of_nonneg_right a1 b0
      _ ≤ 1000002 * 1001000 := Int.mul_le_mul_of_nonneg_left b1 (by decide)
      _ = 1001002002000 := by decide
/-- Two numbers that a rule admits. -/
def IvPost (w : World) (lo hi : Int) (e : Ending) (w' : World) : Prop := e = .returned (.agg #[.int .i64 lo, .int .i64 hi]) ∧ Below w.heap.size w w'
set_option maxRecDepth 100000 in
set_option maxHeartbeats 8000000 in
theorem elapsed_u (d dr : Int) (d0 : -1000000 ≤ d) (d1 : d ≤ 1000000) (r0 : 0 ≤ dr) (r1 : dr ≤ 1000) (w : World) : Calls Tryd.prog 68 #[.int .i64 d, .int .i64 dr] w (IvPost w (low8 dr d) (hiV dr d)) := by
  obtain ⟨p0, p1⟩ := prod_bd8 (a := d + 1) (b := 1000000 + dr) (by omega) (by omega) (by omega) (by omega)
  obtain ⟨q0, q1⟩ := prod_bd8 (a := d - 1) (b := 1000000 - dr) (by omega) (by omega) (by omega) (by omega)
  obtain ⟨H, hH⟩ : ∃ H, hiV dr d = H := ⟨_, rfl⟩
  obtain ⟨L, hL⟩ : ∃ L, low8 dr d = L := ⟨_, rfl⟩
  rw [hH, hL]
  have hw1 : IntKind.i64.wrap (d + 1) = d + 1 := IntWalk.i64_in _ (by omega)
  have hw2 : IntKind.i64.wrap (1000000 + dr) = 1000000 + dr := IntWalk.i64_in _ (by omega)
  have hw3 : IntKind.i64.wrap ((d + 1) * (1000000 + dr)) = (d + 1) * (1000000 + dr) := IntWalk.i64_in _ (by omega)
  have hw4 : IntKind.i64.wrap ((d + 1) * (1000000 + dr) - 1) = H := by rw [← hH]; exact IntWalk.i64_in _ (by omega)
  have hw5 : IntKind.i64.wrap (d - 1) = d - 1 := IntWalk.i64_in _ (by omega)
  have hw6 : IntKind.i64.wrap (1000000 - dr) = 1000000 - dr := IntWalk.i64_in _ (by omega)
  have hw7 : IntKind.i64.wrap ((d - 1) * (1000000 - dr)) = (d - 1) * (1000000 - dr) := IntWalk.i64_in _ (by omega)
  have HLO := Lib.hid (show 1 ≤ d → IntKind.i64.wrap ((d - 1) * (1000000 - dr) + 1) = L from fun h => by rw [← hL]; unfold low8; rw [if_pos h]; exact IntWalk.i64_in _ (by omega))
  have HLZ := Lib.hid (show ¬ 1 ≤ d → L = 0 from fun h => by rw [← hL]; unfold low8; rw [if_neg h])
  obtain ⟨w1, V1, Z1, K1, B1⟩ := lay8 w [.int .i64 0, .int .i64 0] 118
  obtain ⟨w2, V2, Z2, K2, B2⟩ := lay8 w1 [.int .i64 0, .int .i64 0] 118
  rw [Z1] at Z2 K2 B2
  have K1 := K1.up B2 (by omega)
  have HB2 := Lib.hid (show Below w.heap.size w w2 from B1.trans (B2.mono (by omega)))
  obtain ⟨g0, g0'⟩ := K2 0 (by simp); obtain ⟨g1, g1'⟩ := K2 1 (by simp)
  obtain ⟨w3, V3, K3, R3, B3⟩ : ∃ w3, (w2.setCell ⟨w.heap.size + 1, 0, none⟩ (.int .i64 0)).setCell ⟨w.heap.size + 1, 1, none⟩ (.int .i64 H) = w3 ∧ CellsAt w3 (w.heap.size + 1) [.int .i64 0, .int .i64 H] ∧ CellsAt w3 w.heap.size [.int .i64 0, .int .i64 0] ∧ Below w.heap.size w w3 :=
    ⟨_, rfl, (K2.put 0 _).put 1 _, ((K1.far (by omega)).far (by omega)), ((HB2.out.setCell (p := ⟨w.heap.size + 1, 0, none⟩) (by show _ ≤ _ + 1; omega) _).setCell (p := ⟨w.heap.size + 1, 1, none⟩) (by show _ ≤ _ + 1; omega) _)⟩
  obtain ⟨h0, h0'⟩ := K3 0 (by simp); obtain ⟨h1, h1'⟩ := K3 1 (by simp)
  obtain ⟨r0', r0''⟩ := R3 0 (by simp); obtain ⟨r1', r1''⟩ := R3 1 (by simp)
  simp only [List.getElem_cons_zero, List.getElem_cons_succ] at g0 g1 h0 h1 r0' r1'
  have HK3 := Lib.hid K3; have HR3 := Lib.hid R3; have HB3 := Lib.hid B3
  clear K1 K2 K3 R3 B1 B2 B3 p0 p1 q0 q1 hH hL
  by_cases hd : 1 ≤ d
  · have hwl := HLO.out hd
    obtain ⟨w4, V4, K4, R4, B4⟩ : ∃ w4, w3.setCell ⟨w.heap.size + 1, 0, none⟩ (.int .i64 L) = w4 ∧ CellsAt w4 (w.heap.size + 1) [.int .i64 L, .int .i64 H] ∧ CellsAt w4 w.heap.size [.int .i64 0, .int .i64 0] ∧ Below w.heap.size w w4 :=
      ⟨_, rfl, HK3.out.put 0 _, HR3.out.far (by omega), HB3.out.setCell (p := ⟨w.heap.size + 1, 0, none⟩) (by show _ ≤ _ + 1; omega) _⟩
    obtain ⟨w5, V5, K5, B5⟩ : ∃ w5, (w4.setCell ⟨w.heap.size, 0, none⟩ (.int .i64 L)).setCell ⟨w.heap.size, 1, none⟩ (.int .i64 H) = w5 ∧ CellsAt w5 w.heap.size [.int .i64 L, .int .i64 H] ∧ Below w.heap.size w w5 :=
      ⟨_, rfl, (R4.put 0 _).put 1 _, ((B4.setCell (Nat.le_refl _) _).setCell (Nat.le_refl _) _)⟩
    obtain ⟨i0, i0'⟩ := K4 0 (by simp); obtain ⟨i1, i1'⟩ := K4 1 (by simp); obtain ⟨j0, j0'⟩ := R4 0 (by simp); obtain ⟨j1, j1'⟩ := R4 1 (by simp)
    have k0 := (K5 0 (by simp)).1; have k1 := (K5 1 (by simp)).1
    simp only [List.getElem_cons_zero, List.getElem_cons_succ] at i0 i1 j0 j1 k0 k1
    have HB5 := Lib.hid B5
    clear K4 R4 K5 B4 B5 HLO HLZ
    go_enter Tryd.func68, Tryd.ntmps68
    go_wp2_with fail
    exact bodyPost_ret (v := .agg #[.int .i64 L, .int .i64 H]) (by simp [results, Tryd.results68, go_sem, k0, k1]) rfl ⟨rfl, HB5.out⟩
  · have hl0 := HLZ.out hd
    subst hl0
    obtain ⟨w5, V5, K5, B5⟩ : ∃ w5, (w3.setCell ⟨w.heap.size, 0, none⟩ (.int .i64 0)).setCell ⟨w.heap.size, 1, none⟩ (.int .i64 H) = w5 ∧ CellsAt w5 w.heap.size [.int .i64 0, .int .i64 H] ∧ Below w.heap.size w w5 :=
      ⟨_, rfl, (HR3.out.put 0 _).put 1 _, ((HB3.out.setCell (Nat.le_refl _) _).setCell (Nat.le_refl _) _)⟩
    have k0 := (K5 0 (by simp)).1; have k1 := (K5 1 (by simp)).1
    simp only [List.getElem_cons_zero, List.getElem_cons_succ] at k0 k1
    have HB5 := Lib.hid B5
    clear K5 B5 HLO HLZ
    go_enter Tryd.func68, Tryd.ntmps68
    go_wp2_with fail
    exact bodyPost_ret (v := .agg #[.int .i64 0, .int .i64 H]) (by simp [results, Tryd.results68, go_sem, k0, k1]) rfl ⟨rfl, HB5.out⟩
theorem atLeast_u (n : Int) (w : World) : Calls Tryd.prog 70 #[.int .i64 n] w fun e w' => e = .returned (.func (.func 80) #[] #[.pointer (some ⟨w.heap.size, 0, none⟩)]) ∧ w.alloc (.cells #[.int .i64 n] 3) = w' := by
  go_enter Tryd.func70, Tryd.ntmps70
  go_wp2
  go_ret
  exact ⟨rfl, rfl⟩
set_option maxRecDepth 100000 in
set_option maxHeartbeats 8000000 in
theorem atLeast1_u (a b : Ev) (n : Int) (A : Nat) (w : World) (hA : w.cell? ⟨A, 0, none⟩ = some (.int .i64 n)) : Calls Tryd.prog 80 #[a.val, b.val, .pointer (some ⟨A, 0, none⟩)] w (IvPost w n 1152921504606846976) := by
  obtain ⟨ag1, sq1, tm1, kd1, tr1, sp1, lk1, gn1, op1, vr1, pe1, bt1⟩ := a
  obtain ⟨ag2, sq2, tm2, kd2, tr2, sp2, lk2, gn2, op2, vr2, pe2, bt2⟩ := b
  unfold Ev.val
  dsimp only
  obtain ⟨w1, V1, Z1, K1, B1⟩ := lay8 w [.int .i64 ag1, .int .i64 sq1, .int .i64 tm1, .int .i64 kd1, .int .i64 tr1, .int .i64 sp1, .int .i64 lk1, .int .i64 gn1, .int .i64 op1, .int .i64 vr1, .int .i64 pe1, .int .i64 bt1] 46
  obtain ⟨w2, V2, Z2, K2, B2⟩ := lay8 w1 [.int .i64 ag2, .int .i64 sq2, .int .i64 tm2, .int .i64 kd2, .int .i64 tr2, .int .i64 sp2, .int .i64 lk2, .int .i64 gn2, .int .i64 op2, .int .i64 vr2, .int .i64 pe2, .int .i64 bt2] 46
  obtain ⟨w3, V3, Z3, K3, B3⟩ := lay8 w2 [.int .i64 0, .int .i64 0] 118
  rw [Z1] at Z2 K2 B2
  rw [Z2] at Z3 K3 B3
  have HB3 := Lib.hid (show Below w.heap.size w w3 from (B1.trans (B2.mono (by omega))).trans (B3.mono (by omega)))
  have hA3 := (HB3.out.cell (p := ⟨A, 0, none⟩) (World.block_lt_of_cell? w ⟨A, 0, none⟩ hA)).trans hA
  obtain ⟨g0, g0'⟩ := K3 0 (by simp); obtain ⟨g1, g1'⟩ := K3 1 (by simp)
  obtain ⟨w5, V5, K5, B5⟩ : ∃ w5, (w3.setCell ⟨w.heap.size + 1 + 1, 0, none⟩ (.int .i64 n)).setCell ⟨w.heap.size + 1 + 1, 1, none⟩ (.int .i64 1152921504606846976) = w5 ∧ CellsAt w5 (w.heap.size + 1 + 1) [.int .i64 n, .int .i64 1152921504606846976] ∧ Below w.heap.size w w5 :=
    ⟨_, rfl, (K3.put 0 _).put 1 _, ((HB3.out.setCell (p := ⟨w.heap.size + 1 + 1, 0, none⟩) (by show _ ≤ _ + 1 + 1; omega) _).setCell (p := ⟨w.heap.size + 1 + 1, 1, none⟩) (by show _ ≤ _ + 1 + 1; omega) _)⟩
  have k0 := (K5 0 (by simp)).1; have k1 := (K5 1 (by simp)).1
  simp only [List.getElem_cons_zero, List.getElem_cons_succ] at g0 g1 k0 k1
  have HB5 := Lib.hid B5
  clear K1 K2 K3 K5 B1 B2 B3 B5 hA
  go_enter Tryd.func80, Tryd.ntmps80
  go_wp2_with fail
  exact bodyPost_ret (v := .agg #[.int .i64 n, .int .i64 1152921504606846976]) (by simp [results, Tryd.results80, go_sem, k0, k1]) rfl ⟨rfl, HB5.out⟩
set_option maxRecDepth 100000 in
set_option maxHeartbeats 8000000 in
theorem rules1_u (a b : Ev) (f : Fl) (Bf : Nat) (x1 : Option Addr) (c1 : Nat) (w : World) (hF : w.cell? ⟨Bf, 0, none⟩ = some (.slice x1 f.dr.length c1)) (hI : RL KI w x1 f.dr) (hfl : flB f = true) (ha : evB a = true) (hb : evB b = true) (hag : a.ag < (f.dr.length : Int)) :
    Calls Tryd.prog 67 #[a.val, b.val, .pointer (some ⟨Bf, 0, none⟩)] w (IvPost w (low8 (f.drOf a.ag) (b.tm - a.tm)) (hiV (f.drOf a.ag) (b.tm - a.tm))) := by
  obtain ⟨⟨a0, _⟩, _, ⟨t0, t1⟩, _⟩ := evB_of ha
  obtain ⟨_, _, ⟨s0, s1⟩, _⟩ := evB_of hb
  obtain ⟨d0, d1⟩ := drOf_bd hfl a0 hag
  have CE := Lib.hid (fun W => elapsed_u (b.tm - a.tm) (f.drOf a.ag) (by omega) (by omega) d0 d1 W)
  obtain ⟨q, hq⟩ := Int.eq_ofNat_of_zero_le a0
  have hql : q < f.dr.length := by omega
  obtain ⟨eb, eo, rfl, heb, hcc⟩ := hI.ints8 (by omega)
  have hD : xD f.dr q = f.drOf a.ag := by unfold xD Fl.drOf; rw [hq]; rfl
  have hc := hcc q hql
  rw [hD] at hc
  have hik := fun W => at_int8 eb eo f.dr.length c1 q hql W
  have hws : IntKind.i64.wrap (b.tm - a.tm) = b.tm - a.tm := IntWalk.i64_in _ (by omega)
  generalize f.drOf a.ag = D at *
  obtain ⟨L, hL⟩ : ∃ L, low8 D (b.tm - a.tm) = L := ⟨_, rfl⟩
  obtain ⟨H, hH⟩ : ∃ H, hiV D (b.tm - a.tm) = H := ⟨_, rfl⟩
  rw [hL, hH] at CE ⊢
  clear hL hH hD hcc ha hb hag
  obtain ⟨ag1, sq1, tm1, kd1, tr1, sp1, lk1, gn1, op1, vr1, pe1, bt1⟩ := a
  obtain ⟨ag2, sq2, tm2, kd2, tr2, sp2, lk2, gn2, op2, vr2, pe2, bt2⟩ := b
  unfold Ev.val
  dsimp only at *
  subst hq
  obtain ⟨w1, V1, Z1, K1, B1⟩ := lay8 w [.int .i64 (q : Int), .int .i64 sq1, .int .i64 tm1, .int .i64 kd1, .int .i64 tr1, .int .i64 sp1, .int .i64 lk1, .int .i64 gn1, .int .i64 op1, .int .i64 vr1, .int .i64 pe1, .int .i64 bt1] 46
  obtain ⟨w2, V2, Z2, K2, B2⟩ := lay8 w1 [.int .i64 ag2, .int .i64 sq2, .int .i64 tm2, .int .i64 kd2, .int .i64 tr2, .int .i64 sp2, .int .i64 lk2, .int .i64 gn2, .int .i64 op2, .int .i64 vr2, .int .i64 pe2, .int .i64 bt2] 46
  obtain ⟨w3, V3, Z3, K3, B3⟩ := lay8 w2 [.int .i64 0, .int .i64 0] 118
  rw [Z1] at Z2 K2 B2
  rw [Z2] at Z3 K3 B3
  have HB3 := Lib.hid (show Below w.heap.size w w3 from (B1.trans (B2.mono (by omega))).trans (B3.mono (by omega)))
  have K1 := (K1.up B2 (by omega)).up B3 (by omega)
  have K2 := K2.up B3 (by omega)
  have hlt := World.block_lt_of_cell? w ⟨Bf, 0, none⟩ hF
  have HYY := Lib.hid (show ∀ W, Below w3.heap.size w3 W → W.cell? ⟨w.heap.size, 0, none⟩ = some (.int .i64 (q : Int)) ∧ W.cell? ⟨w.heap.size, 2, none⟩ = some (.int .i64 tm1) ∧ W.cell? ⟨w.heap.size + 1, 2, none⟩ = some (.int .i64 tm2) ∧ W.cell? ⟨Bf, 0, none⟩ = some (.slice (some ⟨eb, eo, none⟩) f.dr.length c1) ∧ W.cell? ⟨eb, eo + q, none⟩ = some (.int .i64 D) from fun W b =>
    have bw := HB3.out.trans (b.mono HB3.out.size)
    ⟨(K1.below b 0 (by simp)).1, (K1.below b 2 (by simp)).1, (K2.below b 2 (by simp)).1, (bw.cell (p := ⟨Bf, 0, none⟩) hlt).trans hF, hc W bw⟩)
  have HK3 := Lib.hid K3
  clear K1 K2 K3 B1 B2 B3 hF hc
  go_enter Tryd.func67, Tryd.ntmps67
  go_upto_region 1 with fail
  clear V1 V2 V3
  refine wp_region_noPanic ?_
  refine wp_region_Kx (C := NewC w3) [12] 12 #[false, false, false, false, false, false, false, false, false, false, false, false, false] (by kernel_rfl) (by kernel_rfl) (by kernel_rfl) (newC0 _) ?_
  intro wx hwx
  refine wpAnyK_ex (i := 0) rfl (by kernel_rfl) (listed' := #[true, false, false, false, false, false, false, false, false, false, false, false, false]) rfl (fun _ _ _ _ _ h => h) hwx ?_
  apply Exists.intro
  refine ⟨⟨by rfl, fun wy hw => ?_⟩, ?_⟩
  · (have bw := hw.below; obtain ⟨f0, f1, f2, f3, f4⟩ := HYY.out _ bw; go_simp; try (first | (with_reducible rfl) | (with_reducible exact ⟨rfl, rfl⟩)))
  try simp only [Act.put]
  refine wpAnyK_ex (i := 1) rfl (by kernel_rfl) (listed' := #[true, true, false, false, false, false, false, false, false, false, false, false, false]) rfl (fun _ _ _ _ _ h => h) hwx ?_
  apply Exists.intro
  refine ⟨⟨by rfl, fun wy hw => ?_⟩, ?_⟩
  · (have bw := hw.below; obtain ⟨f0, f1, f2, f3, f4⟩ := HYY.out _ bw; go_simp; try (first | (with_reducible rfl) | (with_reducible exact ⟨rfl, rfl⟩)))
  try simp only [Act.put]
  refine wpAnyK_ex (i := 2) rfl (by kernel_rfl) (listed' := #[true, true, true, false, false, false, false, false, false, false, false, false, false]) rfl (fun _ _ _ _ _ h => h) hwx ?_
  apply Exists.intro
  refine ⟨⟨by rfl, fun wy hw => ?_⟩, ?_⟩
  · (have bw := hw.below; obtain ⟨f0, f1, f2, f3, f4⟩ := HYY.out _ bw; go_simp; try (first | (with_reducible rfl) | (with_reducible exact ⟨rfl, rfl⟩)))
  try simp only [Act.put]
  refine wpAnyK_ex (i := 3) rfl (by kernel_rfl) (listed' := #[true, true, true, true, false, false, false, false, false, false, false, false, false]) rfl (fun _ _ _ _ _ h => h) hwx ?_
  apply Exists.intro
  refine ⟨⟨by rfl, fun wy hw => ?_⟩, ?_⟩
  · (have bw := hw.below; obtain ⟨f0, f1, f2, f3, f4⟩ := HYY.out _ bw; go_simp; try (first | (with_reducible rfl) | (with_reducible exact ⟨rfl, rfl⟩)))
  try simp only [Act.put]
  refine wpAnyK_ex (i := 4) rfl (by kernel_rfl) (listed' := #[true, true, true, true, true, false, false, false, false, false, false, false, false]) rfl (fun _ _ _ _ _ h => h) hwx ?_
  apply Exists.intro
  refine ⟨⟨by rfl, fun wy hw => ?_⟩, ?_⟩
  · (have bw := hw.below; obtain ⟨f0, f1, f2, f3, f4⟩ := HYY.out _ bw; go_simp; try (first | (with_reducible rfl) | (with_reducible exact ⟨rfl, rfl⟩)))
  try simp only [Act.put]
  refine wpAnyK_ex (i := 5) rfl (by kernel_rfl) (listed' := #[true, true, true, true, true, true, false, false, false, false, false, false, false]) rfl (fun _ _ _ _ _ h => h) hwx ?_
  apply Exists.intro
  refine ⟨⟨by rfl, fun wy hw => ?_⟩, ?_⟩
  · (have bw := hw.below; obtain ⟨f0, f1, f2, f3, f4⟩ := HYY.out _ bw; go_simp; try (first | (with_reducible rfl) | (with_reducible exact ⟨rfl, rfl⟩)))
  try simp only [Act.put]
  refine wpAnyK_ex (i := 6) rfl (by kernel_rfl) (listed' := #[true, true, true, true, true, true, true, false, false, false, false, false, false]) rfl (fun _ _ _ _ _ h => h) hwx ?_
  apply Exists.intro
  refine ⟨⟨by rfl, fun wy hw => ?_⟩, ?_⟩
  · (have bw := hw.below; obtain ⟨f0, f1, f2, f3, f4⟩ := HYY.out _ bw; go_simp; try (first | (with_reducible rfl) | (with_reducible exact ⟨rfl, rfl⟩)))
  try simp only [Act.put]
  refine wpAnyK_ex (i := 7) rfl (by kernel_rfl) (listed' := #[true, true, true, true, true, true, true, true, false, false, false, false, false]) rfl (fun _ _ _ _ _ h => h) hwx ?_
  apply Exists.intro
  refine ⟨⟨by rfl, fun wy hw => ?_⟩, ?_⟩
  · (have bw := hw.below; obtain ⟨f0, f1, f2, f3, f4⟩ := HYY.out _ bw; go_simp; try (first | (with_reducible rfl) | (with_reducible exact ⟨rfl, rfl⟩)))
  try simp only [Act.put]
  refine wpAnyK_ex (i := 8) rfl (by kernel_rfl) (listed' := #[true, true, true, true, true, true, true, true, true, false, false, false, false]) rfl (fun _ _ _ _ _ h => h) hwx ?_
  apply Exists.intro
  refine ⟨⟨by rfl, fun wy hw => ?_⟩, ?_⟩
  · (have bw := hw.below; obtain ⟨f0, f1, f2, f3, f4⟩ := HYY.out _ bw; go_simp; try (first | (with_reducible rfl) | (with_reducible exact ⟨rfl, rfl⟩)))
  try simp only [Act.put]
  refine wpAnyK_ex (i := 9) rfl (by kernel_rfl) (listed' := #[true, true, true, true, true, true, true, true, true, true, false, false, false]) rfl (fun _ _ _ _ _ h => h) hwx ?_
  apply Exists.intro
  refine ⟨⟨by rfl, fun wy hw => ?_⟩, ?_⟩
  · (have bw := hw.below; obtain ⟨f0, f1, f2, f3, f4⟩ := HYY.out _ bw; go_simp; try (first | (with_reducible rfl) | (with_reducible exact ⟨rfl, rfl⟩)))
  try simp only [Act.put]
  refine wpAnyK_ex (i := 10) rfl (by kernel_rfl) (listed' := #[true, true, true, true, true, true, true, true, true, true, true, false, false]) rfl (fun _ _ _ _ _ h => h) hwx ?_
  apply Exists.intro
  refine ⟨⟨by rfl, fun wy hw => ?_⟩, ?_⟩
  · (have bw := hw.below; obtain ⟨f0, f1, f2, f3, f4⟩ := HYY.out _ bw; go_simp; try (first | (with_reducible rfl) | (with_reducible exact ⟨rfl, rfl⟩)))
  try simp only [Act.put]
  have HX := Lib.hid hwx.below
  refine wpAnyK_fork1 11 (by kernel_rfl) ?_
  refine wpOpK_step rfl (by kernel_rfl) (listed' := #[true, true, true, true, true, true, true, true, true, true, true, true, false]) rfl (by rfl) (fun K hK => ?_)
  go_simp
  refine (CE.out _).mono ?_
  rintro e w9 ⟨rfl, hb9⟩
  have H9 := Lib.hid (HX.out.trans (hb9.mono HX.out.size))
  refine hK _ _ H9.out ?_
  clear hK K hb9
  try simp only [Act.put]
  refine wpAnyK_end (by kernel_rfl) ?_
  try simp only [pickOps, List.filterMap_cons, List.filterMap_nil, List.getElem?_toArray, List.getElem?_cons_succ, List.getElem?_cons_zero]
  have K9 := HK3.out.below H9.out
  obtain ⟨g0, g0'⟩ := K9 0 (by simp); obtain ⟨g1, g1'⟩ := K9 1 (by simp)
  simp only [List.getElem_cons_zero, List.getElem_cons_succ] at g0 g1
  obtain ⟨w5, V5, K5, B5⟩ : ∃ w5, (w9.setCell ⟨w.heap.size + 1 + 1, 0, none⟩ (.int .i64 L)).setCell ⟨w.heap.size + 1 + 1, 1, none⟩ (.int .i64 H) = w5 ∧ CellsAt w5 (w.heap.size + 1 + 1) [.int .i64 L, .int .i64 H] ∧ Below w.heap.size w w5 :=
    ⟨_, rfl, (K9.put 0 _).put 1 _, (((HB3.out.trans (H9.out.mono HB3.out.size)).setCell (p := ⟨w.heap.size + 1 + 1, 0, none⟩) (by show _ ≤ _ + 1 + 1; omega) _).setCell (p := ⟨w.heap.size + 1 + 1, 1, none⟩) (by show _ ≤ _ + 1 + 1; omega) _)⟩
  have k0 := (K5 0 (by simp)).1; have k1 := (K5 1 (by simp)).1
  simp only [List.getElem_cons_zero, List.getElem_cons_succ] at k0 k1
  have HB5 := Lib.hid B5
  clear K5 K9 B5
  go_wp2_with fail
  refine NoPanic.normal ?_
  go_wp2_with fail
  exact bodyPost_ret (v := .agg #[.int .i64 L, .int .i64 H]) (by simp [results, Tryd.results67, go_sem, k0, k1]) rfl ⟨rfl, HB5.out⟩
end Go.Proofs.YtifdcfjllonmgaaDoor
