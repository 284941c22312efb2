/-
  Layer 8: the walk of ClockTicks, over whatever keeps the contracts of sane and Reading.
-/
import Derived.Test.YtifdcfjllonmgaaDoorJf
import Derived.Test.YtifdcfjllonmgaaDoorNa
namespace Go.Proofs.YtifdcfjllonmgaaDoor
open Go Go.Proofs Go.RowKit Go.Lib

theorem read_bd {c : Cl} (h : ckB c = true) {t r : Int} (h0 : -17592186044416 ≤ t) (h1 : t ≤ 17592186044416) (hr : IsRead c t r) : -134217729 ≤ r ∧ r ≤ 134217728 := by
  obtain ⟨l0, l1⟩ := begN_low h
  obtain ⟨_, ⟨d0, d1⟩, _, hne⟩ := ckB_of h
  constructor
  · refine Classical.byContradiction fun hn => ?_
    have := begN_mono c.dr (r + 1) (-134217728) c.an d0 d1 hne (by omega)
    have := hr.2
    omega
  · refine Classical.byContradiction fun hn => ?_
    have := begN_mono c.dr 134217728 r c.an d0 d1 hne (by omega)
    have := hr.1
    omega
/-- New blocks alone. -/
def NewB (w w' : World) : Prop := Below w.heap.size w w'
theorem NewB.below {w w' : World} (h : NewB w w') : Below w.heap.size w w' := h
theorem NewB.alloc {w w' : World} (h : NewB w w') (o : Obj) : NewB w (w'.alloc o) := Below.alloc (show Below w.heap.size w w' from h) (Below.size h) o
theorem newB0 (w : World) : NewB w { w with drawn := w.drawn + 1 } := Grew.below (grew0 w)
/-- What ClockTicks reads. -/
structure Tk (c : Cl) (a b x y r s : Int) : Prop where
  xy : x ≤ y
  nx : x + 1 ≤ r
  sn : s ≤ x + 1
  lo : (b - a).tdiv (1000000 + c.dr) - 1 ≤ y - x
  hi : y - x ≤ (b - a).tdiv (1000000 - c.dr) + 1
  q0 : 0 ≤ (b - a).tdiv (1000000 + c.dr) ∧ (b - a).tdiv (1000000 + c.dr) ≤ 100000000
  q1 : 0 ≤ (b - a).tdiv (1000000 - c.dr) ∧ (b - a).tdiv (1000000 - c.dr) ≤ 100000000
  xb : -134217729 ≤ x ∧ x ≤ 134217728
  yb : -134217729 ≤ y ∧ y ≤ 134217728
theorem tk_of {c : Cl} (h : ckB c = true) {a b : Int} (ha : -50000000 ≤ a) (hb : b < 50000000) (hab : a ≤ b) : Tk c a b (readV c a) (readV c b) (readV c (a + 1000000 + c.dr)) (readV c (a + 1000000 - c.dr - 1)) := by
  obtain ⟨_, ⟨d0, d1⟩, _, hne⟩ := ckB_of h
  have ia := readV_is (readB_yes h (t := a) (by omega) (by omega))
  have ib := readV_is (readB_yes h (t := b) (by omega) (by omega))
  have ir := readV_is (readB_yes h (t := a + 1000000 + c.dr) (by omega) (by omega))
  have is := readV_is (readB_yes h (t := a + 1000000 - c.dr - 1) (by omega) (by omega))
  obtain ⟨s0, s1⟩ := read_span h ia ib hab
  have e0 : (b - a).tdiv (1000000 + c.dr) = (b - a) / (1000000 + c.dr) := Int.tdiv_eq_ediv_of_nonneg (by omega)
  have e1 : (b - a).tdiv (1000000 - c.dr) = (b - a) / (1000000 - c.dr) := Int.tdiv_eq_ediv_of_nonneg (by omega)
  refine ⟨read_mono h ia ib hab, read_next h ia ir, read_soon h ia is, by rw [e0]; exact s0, by rw [e1]; exact s1, ?_, ?_, read_bd h (by omega) (by omega) ia, read_bd h (by omega) (by omega) ib⟩
  · rw [e0]
    exact ⟨Int.ediv_nonneg (by omega) (by omega), Int.le_trans (Int.ediv_le_self _ (by omega)) (by omega)⟩
  · rw [e1]
    exact ⟨Int.ediv_nonneg (by omega) (by omega), Int.le_trans (Int.ediv_le_self _ (by omega)) (by omega)⟩
def SaneOk (f : FuncId) : Prop := ∀ W, Rdy W → Calls Tryd.prog f #[] W fun e w' => e = .returned (.bool true) ∧ Below W.heap.size W w'
def ReadingOk (f : FuncId) : Prop := ∀ (x : Cl) (ad : Option Addr) (cp : Nat) (t : Int), x.an.length ≤ maxLen → x.an.length ≤ cp → ∀ w : World, RL KA w ad x.an → Calls Tryd.prog f #[.agg #[.int .i64 x.dr, .slice ad x.an.length cp], .int .i64 t] w fun e w' => e = .returned (.tuple #[.int .i64 (readV x t), .int .i64 (readE x t)]) ∧ Below w.heap.size w w'
theorem clkN_len (f : Fl) (n : Int) (i : Nat) : 1 ≤ (clkN f n i).an.length ∧ (clkN f n i).an.length ≤ maxLen := by
  unfold clkN maxLen
  dsimp only
  split <;> simp
theorem at_ck8 (g o n c k : Nat) (hk : k < n) (w : World) : (Instr.indexAt 51 (.slice (some ⟨g, o, none⟩) n c) (.int .i64 (k : Int))).run Tryd.prog w = .ok (.pointer (some ⟨g, o + 2 * k, none⟩)) w := KK.at_ g o n c k hk w

set_option maxRecDepth 100000 in
set_option maxHeartbeats 8000000 in
theorem ticks_any (HSA : SaneOk 10) (HRD : ReadingOk 27) (n ag s t : Int) (n0 : -9223372036854775808 ≤ n) (n1 : n ≤ 9223372036854775807) (a0 : -9223372036854775808 ≤ ag) (a1 : ag ≤ 9223372036854775807) (s0 : -9223372036854775808 ≤ s) (s1 : s ≤ 9223372036854775807) (t0 : -9223372036854775808 ≤ t) (t1 : t ≤ 9223372036854775807) (w : World) (hR : Rdy w) :
    Calls Tryd.prog 9 #[.int .i64 n, .int .i64 ag, .int .i64 s, .int .i64 t] w fun e w' => e = .returned (.bool true) ∧ Below w.heap.size w w' := by
  have hm0 := agN_bd n
  obtain ⟨hma, hmb⟩ := hm0
  have hfl := fleetN_len n
  have HFL := Lib.hid hfl
  have HPA := Lib.hid (fun W => pickL8_any ag (agN n : Nat) a0 a1 (by omega) (by omega) W)
  have HPS := Lib.hid (fun W => pickL8_any s 100000000 s0 s1 (by decide) (by decide) W)
  have HPT := Lib.hid (fun W => pickL8_any t 100000000 t0 t1 (by decide) (by decide) W)
  have p0 := pick8_lo (c := ag) (n := (agN n : Nat)) (by omega)
  have p1 := pick8_hi (c := ag) (n := (agN n : Nat)) (by omega)
  obtain ⟨i, hi⟩ := Int.eq_ofNat_of_zero_le p0
  rw [hi] at HPA p1
  have him : i < agN n := by omega
  have b0 := pick8_lo (c := s) (n := 100000000) (by decide)
  have b1 := pick8_hi (c := s) (n := 100000000) (by decide)
  have b2 := pick8_lo (c := t) (n := 100000000) (by decide)
  have b3 := pick8_hi (c := t) (n := 100000000) (by decide)
  generalize pick8 s 100000000 = PS at *
  generalize pick8 t 100000000 = PT at *
  have HFR := Lib.hid (fun W => fleetR_any n n0 n1 W)
  have HCR := Lib.hid (fun v W h => clocksR_any v (fleetN n) n (by rw [hfl]; omega) n0 n1 W h)
  have HCO := Lib.hid (clkN_ok n i)
  have HCN := Lib.hid (clkN_len (fleetN n) n i)
  clear hi p0 p1 hfl
  go_enter Tryd.func9, Tryd.ntmps9
  go_wp2_with fail
  refine (HSA _ hR).mono ?_
  rintro e w1 ⟨rfl, hb1⟩
  have HB1 := Lib.hid hb1
  clear hb1
  go_wp2_with fail
  refine (HFR.out _).mono ?_
  rintro e w2 ⟨x1, c1, x2, c2, x3, c3, rfl, r1, r2, r3, hb2⟩
  have HB2 := Lib.hid (HB1.out.trans (hb2.mono HB1.out.size))
  have HR1 := Lib.hid r1; have HR2 := Lib.hid r2; have HR3 := Lib.hid r3
  have hz2 : w.heap.size ≤ w2.heap.size := HB2.out.size
  obtain ⟨w3, V3, Z3, K3, B3⟩ := lay8 w2 [.slice x1 (fleetN n).dr.length c1, .int .i64 (fleetN n).lat, .int .i64 (fleetN n).lia, .slice x2 (fleetN n).sv.length c2, .slice x3 (fleetN n).tm.length c3] 24
  have HK3 := Lib.hid K3; have HB3 := Lib.hid B3
  have HF3 := Lib.hid (show ∀ W, Below w3.heap.size w3 W → FlAt W (.agg #[.slice x1 (fleetN n).dr.length c1, .int .i64 (fleetN n).lat, .int .i64 (fleetN n).lia, .slice x2 (fleetN n).sv.length c2, .slice x3 (fleetN n).tm.length c3]) (fleetN n) from fun W b => ⟨x1, c1, x2, c2, x3, c3, rfl, (HR1.out.rl.below B3).below b, (HR2.out.rl.below B3).below b, (HR3.out.rl.below B3).below b⟩)
  clear hb2 r1 r2 r3 K3 B3
  go_upto_region 3 with fail
  clear V3
  go_cut [11] from 29 to 38 (fun s11 wx => ∃ c0 ad cp, s11 = .pointer (some ⟨c0, 0, none⟩) ∧ Hid (CellsAt wx c0 [.int .i64 (clkN (fleetN n) n i).dr, .slice ad (clkN (fleetN n) n i).an.length cp] ∧ RL KA wx ad (clkN (fleetN n) n i).an ∧ (clkN (fleetN n) n i).an.length ≤ cp) ∧ Hid (Below w3.heap.size w3 wx))
  case first =>
    refine wp_region_noPanic ?_
    refine wp_region_Kx (C := NewB w3) [11] 11 #[false, false, false, false, false, false, false, false, false, false, false, false] (by kernel_rfl) (by kernel_rfl) (by kernel_rfl) (newB0 _) ?_
    intro wx hwx
    refine wpAnyK_ex (i := 0) rfl (by kernel_rfl) (listed' := #[true, false, false, false, false, false, false, false, false, false, false, false]) rfl (fun _ _ _ _ _ h => h) hwx ?_
    apply Exists.intro
    refine ⟨⟨by kernel_rfl, fun wy hw => ?_⟩, ?_⟩
    · (have bw := hw.below; obtain ⟨f0, _⟩ := HK3.out.below bw 0 (by simp); obtain ⟨f1, _⟩ := HK3.out.below bw 1 (by simp); obtain ⟨f2, _⟩ := HK3.out.below bw 2 (by simp); obtain ⟨f3, _⟩ := HK3.out.below bw 3 (by simp); obtain ⟨f4, _⟩ := HK3.out.below bw 4 (by simp); simp only [List.getElem_cons_zero, List.getElem_cons_succ] at f0 f1 f2 f3 f4; rw [HFL.out] at f0; go_simp; try (first | (with_reducible rfl) | (with_reducible exact ⟨rfl, rfl⟩)))
    try simp only [Act.put, List.getElem_toArray, List.getElem_cons_zero, List.setIfInBounds_toArray, List.set_cons_succ, List.set_cons_zero]
    refine wpAnyK_ex (i := 1) rfl (by kernel_rfl) (listed' := #[true, true, false, false, false, false, false, false, false, false, false, false]) rfl (fun _ _ _ _ _ h => h) hwx ?_
    apply Exists.intro
    refine ⟨⟨by kernel_rfl, fun wy hw => ?_⟩, ?_⟩
    · (have bw := hw.below; obtain ⟨f0, _⟩ := HK3.out.below bw 0 (by simp); obtain ⟨f1, _⟩ := HK3.out.below bw 1 (by simp); obtain ⟨f2, _⟩ := HK3.out.below bw 2 (by simp); obtain ⟨f3, _⟩ := HK3.out.below bw 3 (by simp); obtain ⟨f4, _⟩ := HK3.out.below bw 4 (by simp); simp only [List.getElem_cons_zero, List.getElem_cons_succ] at f0 f1 f2 f3 f4; rw [HFL.out] at f0; go_simp; try (first | (with_reducible rfl) | (with_reducible exact ⟨rfl, rfl⟩)))
    try simp only [Act.put, List.getElem_toArray, List.getElem_cons_succ, List.getElem_cons_zero, List.setIfInBounds_toArray, List.set_cons_succ, List.set_cons_zero]
    refine wpAnyK_ex (i := 3) rfl (by kernel_rfl) (listed' := #[true, true, false, true, false, false, false, false, false, false, false, false]) rfl (fun _ _ _ _ _ h => h) hwx ?_
    apply Exists.intro
    refine ⟨⟨by kernel_rfl, fun wy hw => ?_⟩, ?_⟩
    · (have bw := hw.below; obtain ⟨f0, _⟩ := HK3.out.below bw 0 (by simp); obtain ⟨f1, _⟩ := HK3.out.below bw 1 (by simp); obtain ⟨f2, _⟩ := HK3.out.below bw 2 (by simp); obtain ⟨f3, _⟩ := HK3.out.below bw 3 (by simp); obtain ⟨f4, _⟩ := HK3.out.below bw 4 (by simp); simp only [List.getElem_cons_zero, List.getElem_cons_succ] at f0 f1 f2 f3 f4; rw [HFL.out] at f0; go_simp; try (first | (with_reducible rfl) | (with_reducible exact ⟨rfl, rfl⟩)))
    try simp only [Act.put, List.getElem_toArray, List.getElem_cons_succ, List.getElem_cons_zero, List.setIfInBounds_toArray, List.set_cons_succ, List.set_cons_zero]
    refine wpAnyK_ex (i := 4) rfl (by kernel_rfl) (listed' := #[true, true, false, true, true, false, false, false, false, false, false, false]) rfl (fun _ _ _ _ _ h => h) hwx ?_
    apply Exists.intro
    refine ⟨⟨by kernel_rfl, fun wy hw => ?_⟩, ?_⟩
    · (have bw := hw.below; obtain ⟨f0, _⟩ := HK3.out.below bw 0 (by simp); obtain ⟨f1, _⟩ := HK3.out.below bw 1 (by simp); obtain ⟨f2, _⟩ := HK3.out.below bw 2 (by simp); obtain ⟨f3, _⟩ := HK3.out.below bw 3 (by simp); obtain ⟨f4, _⟩ := HK3.out.below bw 4 (by simp); simp only [List.getElem_cons_zero, List.getElem_cons_succ] at f0 f1 f2 f3 f4; rw [HFL.out] at f0; go_simp; try (first | (with_reducible rfl) | (with_reducible exact ⟨rfl, rfl⟩)))
    try simp only [Act.put, List.getElem_toArray, List.getElem_cons_succ, List.getElem_cons_zero, List.setIfInBounds_toArray, List.set_cons_succ, List.set_cons_zero]
    refine wpAnyK_ex (i := 5) rfl (by kernel_rfl) (listed' := #[true, true, false, true, true, true, false, false, false, false, false, false]) rfl (fun _ _ _ _ _ h => h) hwx ?_
    apply Exists.intro
    refine ⟨⟨by kernel_rfl, fun wy hw => ?_⟩, ?_⟩
    · (have bw := hw.below; obtain ⟨f0, _⟩ := HK3.out.below bw 0 (by simp); obtain ⟨f1, _⟩ := HK3.out.below bw 1 (by simp); obtain ⟨f2, _⟩ := HK3.out.below bw 2 (by simp); obtain ⟨f3, _⟩ := HK3.out.below bw 3 (by simp); obtain ⟨f4, _⟩ := HK3.out.below bw 4 (by simp); simp only [List.getElem_cons_zero, List.getElem_cons_succ] at f0 f1 f2 f3 f4; rw [HFL.out] at f0; go_simp; try (first | (with_reducible rfl) | (with_reducible exact ⟨rfl, rfl⟩)))
    try simp only [Act.put, List.getElem_toArray, List.getElem_cons_succ, List.getElem_cons_zero, List.setIfInBounds_toArray, List.set_cons_succ, List.set_cons_zero]
    refine wpAnyK_ex (i := 6) rfl (by kernel_rfl) (listed' := #[true, true, false, true, true, true, true, false, false, false, false, false]) rfl (fun _ _ _ _ _ h => h) hwx ?_
    apply Exists.intro
    refine ⟨⟨by kernel_rfl, fun wy hw => ?_⟩, ?_⟩
    · (have bw := hw.below; obtain ⟨f0, _⟩ := HK3.out.below bw 0 (by simp); obtain ⟨f1, _⟩ := HK3.out.below bw 1 (by simp); obtain ⟨f2, _⟩ := HK3.out.below bw 2 (by simp); obtain ⟨f3, _⟩ := HK3.out.below bw 3 (by simp); obtain ⟨f4, _⟩ := HK3.out.below bw 4 (by simp); simp only [List.getElem_cons_zero, List.getElem_cons_succ] at f0 f1 f2 f3 f4; rw [HFL.out] at f0; go_simp; try (first | (with_reducible rfl) | (with_reducible exact ⟨rfl, rfl⟩)))
    try simp only [Act.put, List.getElem_toArray, List.getElem_cons_succ, List.getElem_cons_zero, List.setIfInBounds_toArray, List.set_cons_succ, List.set_cons_zero]
    refine wpAnyK_fork2 2 10 (by kernel_rfl) ?_ ?_
    · skip
      refine wpOpK_step rfl (by kernel_rfl) (listed' := #[true, true, true, true, true, true, true, false, false, false, false, false]) rfl (by rfl) (fun K hK => ?_)
      go_simp
      refine (HCR.out _ _ (by have := HF3.out _ (hwx.below); rw [HFL.out] at this; exact this)).mono ?_
      rintro e w4 ⟨adl, cpl, row, l, rfl, hcap, hrl, hll, hck, hb⟩
      have HBC := Lib.hid (show Below w3.heap.size w3 w4 from (hwx.below).trans (hb.mono (Below.size (hwx.below))))
      have HB56 := Lib.hid hb
      refine hK _ _ HBC.out ?_
      clear hK K
      try simp only [Act.put]
      have hil : i < l.length := by rw [hll, HFL.out]; exact him
      obtain ⟨gb, go, rfl, _, hgc⟩ := hrl.rl.at_ i hil
      obtain ⟨k1, k2, hk3⟩ := hck i hil
      have hcp : (l[i]'hil).n ≤ (l[i]'hil).c := by
        obtain ⟨b, _, _, _, _, _, _, h⟩ := hk3
        exact h
      have HGC := Lib.hid (show ∀ W, Below w4.heap.size w4 W → W.cell? ⟨gb, go + 2 * i, none⟩ = some (.int .i64 (clkN (fleetN n) n i).dr) ∧ W.cell? ⟨gb, go + 2 * i + 1, none⟩ = some (.slice (l[i]'hil).ad (clkN (fleetN n) n i).an.length (l[i]'hil).c) from fun W b => ⟨by rw [← k1]; exact hgc W b 0 (by decide), by rw [← k2]; exact hgc W b 1 (by decide)⟩)
      have HRK := Lib.hid (show RN KA w4 wx.heap.size (l[i]'hil).ad (clkN (fleetN n) n i).an from by
        obtain ⟨b, h3, _, h5, h6, h7, _⟩ := hk3
        rw [h3]; exact h7.rnA h5 h6)
      have HCP := Lib.hid (show (clkN (fleetN n) n i).an.length ≤ (l[i]'hil).c by rw [← k2]; exact hcp)
      have hik := fun W => at_ck8 gb go l.length cpl i hil W
      generalize (l[i]'hil).ad = adc at *
      generalize (l[i]'hil).c = cpc at *
      clear hrl hll hck hb hgc k1 k2 hk3 hcp hcap
      obtain ⟨w5, V5, Z5, K5, B5⟩ := lay8 w4 [.int .i64 0, .slice none 0 0] 50
      obtain ⟨z0, z1⟩ := K5 0 (by simp)
      obtain ⟨z2, z3⟩ := K5 1 (by simp)
      have K5 := Lib.hid K5; have B5 := Lib.hid B5
      obtain ⟨g0, g1⟩ := HGC.out w4 (Below.refl _ _)
      obtain ⟨g2, g3⟩ := HGC.out w5 B5.out
      have HBD := Lib.hid (show Below w3.heap.size w3 w5 from HBC.out.trans (B5.out.mono HBC.out.size))
      have hz4 := HBC.out.size
      refine wpAnyK_callx (i := 7) rfl (by kernel_rfl) (listed' := #[true, true, true, true, true, true, true, true, false, false, false, false]) rfl (fun _ _ _ _ _ h => h) HBC.out ?_
      apply Exists.intro
      apply Exists.intro
      apply Exists.intro
      refine ⟨⟨by kernel_rfl, fun wy hw => ?_, fun wy hw => ?_⟩, ?_⟩
      · (have bw := hw.below; obtain ⟨f0, _⟩ := HK3.out.below bw 0 (by simp); obtain ⟨f1, _⟩ := HK3.out.below bw 1 (by simp); obtain ⟨f2, _⟩ := HK3.out.below bw 2 (by simp); obtain ⟨f3, _⟩ := HK3.out.below bw 3 (by simp); obtain ⟨f4, _⟩ := HK3.out.below bw 4 (by simp); simp only [List.getElem_cons_zero, List.getElem_cons_succ] at f0 f1 f2 f3 f4; rw [HFL.out] at f0; go_simp; try (first | (with_reducible rfl) | (with_reducible exact ⟨rfl, rfl⟩)))
      · (exact (HPA.out _).mono (fun e w2 h => ⟨h.1, h.2.symm⟩))
      try simp only [Act.put, List.getElem_toArray, List.getElem_cons_succ, List.getElem_cons_zero, List.setIfInBounds_toArray, List.set_cons_succ, List.set_cons_zero]
      refine wpAnyK_ex (i := 8) rfl (by kernel_rfl) (listed' := #[true, true, true, true, true, true, true, true, true, false, false, false]) rfl (fun _ _ _ _ _ h => h) HBC.out ?_
      apply Exists.intro
      refine ⟨⟨by kernel_rfl, fun wy hw => ?_⟩, ?_⟩
      · (have bw := hw.below; obtain ⟨f0, _⟩ := HK3.out.below bw 0 (by simp); obtain ⟨f1, _⟩ := HK3.out.below bw 1 (by simp); obtain ⟨f2, _⟩ := HK3.out.below bw 2 (by simp); obtain ⟨f3, _⟩ := HK3.out.below bw 3 (by simp); obtain ⟨f4, _⟩ := HK3.out.below bw 4 (by simp); simp only [List.getElem_cons_zero, List.getElem_cons_succ] at f0 f1 f2 f3 f4; rw [HFL.out] at f0; go_simp; try (first | (with_reducible rfl) | (with_reducible exact ⟨rfl, rfl⟩)))
      try simp only [Act.put, List.getElem_toArray, List.getElem_cons_succ, List.getElem_cons_zero, List.setIfInBounds_toArray, List.set_cons_succ, List.set_cons_zero]
      refine wpAnyK_fork2 9 10 (by kernel_rfl) ?_ ?_
      · skip
        refine wpOpK_step rfl (by kernel_rfl) (listed' := #[true, true, true, true, true, true, true, true, true, true, false, false]) rfl (by kernel_rfl) (fun K hK => ?_)
        go_simp
        refine hK _ _ (HBC.out) ?_
        clear hK K
        try simp only [Act.put, List.getElem_toArray, List.getElem_cons_succ, List.getElem_cons_zero, List.setIfInBounds_toArray, List.set_cons_succ, List.set_cons_zero]
        refine wpAnyK_fork1 10 (by kernel_rfl) ?_
        refine wpOpK_step rfl (by kernel_rfl) (listed' := #[true, true, true, true, true, true, true, true, true, true, true, false]) rfl (by kernel_rfl) (fun K hK => ?_)
        go_simp
        refine hK _ _ (HBD.out) ?_
        clear hK K
        try simp only [Act.put, List.getElem_toArray, List.getElem_cons_succ, List.getElem_cons_zero, List.setIfInBounds_toArray, List.set_cons_succ, List.set_cons_zero]
        refine wpAnyK_end (by kernel_rfl) ?_
        try simp only [pickOps, List.filterMap_cons, List.filterMap_nil, List.getElem?_toArray, List.getElem?_cons_succ, List.getElem?_cons_zero]
        clear V5
        go_wp2_with fail
        refine NoPanic.normal ?_
        go_wp2_with fail
        go_meet
        exact ⟨_, adc, cpc, rfl, Lib.hid ⟨(K5.out.put 0 _).put 1 _, HRK.out.rl.below ((B5.out.setCell (by show _ ≤ w4.heap.size; exact Nat.le_refl _) _).setCell (by show _ ≤ w4.heap.size; exact Nat.le_refl _) _), HCP.out⟩, Lib.hid ((HBD.out.setCell (by show _ ≤ w4.heap.size; omega) _).setCell (by show _ ≤ w4.heap.size; omega) _)⟩
      · skip
        refine wpOpK_step rfl (by kernel_rfl) (listed' := #[true, true, true, true, true, true, true, true, true, false, true, false]) rfl (by kernel_rfl) (fun K hK => ?_)
        go_simp
        refine hK _ _ (HBD.out) ?_
        clear hK K
        try simp only [Act.put, List.getElem_toArray, List.getElem_cons_succ, List.getElem_cons_zero, List.setIfInBounds_toArray, List.set_cons_succ, List.set_cons_zero]
        refine wpAnyK_fork1 9 (by kernel_rfl) ?_
        refine wpOpK_step rfl (by kernel_rfl) (listed' := #[true, true, true, true, true, true, true, true, true, true, true, false]) rfl (by kernel_rfl) (fun K hK => ?_)
        go_simp
        refine hK _ _ (HBD.out) ?_
        clear hK K
        try simp only [Act.put, List.getElem_toArray, List.getElem_cons_succ, List.getElem_cons_zero, List.setIfInBounds_toArray, List.set_cons_succ, List.set_cons_zero]
        refine wpAnyK_end (by kernel_rfl) ?_
        try simp only [pickOps, List.filterMap_cons, List.filterMap_nil, List.getElem?_toArray, List.getElem?_cons_succ, List.getElem?_cons_zero]
        clear V5
        go_wp2_with fail
        refine NoPanic.normal ?_
        go_wp2_with fail
        go_meet
        exact ⟨_, adc, cpc, rfl, Lib.hid ⟨(K5.out.put 0 _).put 1 _, HRK.out.rl.below ((B5.out.setCell (by show _ ≤ w4.heap.size; exact Nat.le_refl _) _).setCell (by show _ ≤ w4.heap.size; exact Nat.le_refl _) _), HCP.out⟩, Lib.hid ((HBD.out.setCell (by show _ ≤ w4.heap.size; omega) _).setCell (by show _ ≤ w4.heap.size; omega) _)⟩
    · skip
      obtain ⟨w5, V5, Z5, K5, B5⟩ := lay8 wx [.int .i64 0, .slice none 0 0] 50
      have HBD := Lib.hid (show Below w3.heap.size w3 w5 from hwx.below.trans (B5.mono hwx.below.size))
      have hz4 := hwx.below.size
      refine wpOpK_step rfl (by kernel_rfl) (listed' := #[true, true, false, true, true, true, true, false, false, false, true, false]) rfl (by kernel_rfl) (fun K hK => ?_)
      go_simp
      refine hK _ _ (HBD.out) ?_
      clear hK K
      try simp only [Act.put, List.getElem_toArray, List.getElem_cons_succ, List.getElem_cons_zero, List.setIfInBounds_toArray, List.set_cons_succ, List.set_cons_zero]
      refine wpAnyK_fork1 2 (by kernel_rfl) ?_
      refine wpOpK_step rfl (by kernel_rfl) (listed' := #[true, true, true, true, true, true, true, false, false, false, true, false]) rfl (by rfl) (fun K hK => ?_)
      go_simp
      refine (HCR.out _ _ (by have := HF3.out _ (HBD.out); rw [HFL.out] at this; exact this)).mono ?_
      rintro e w6 ⟨adl, cpl, row, l, rfl, hcap, hrl, hll, hck, hb⟩
      have HBC := Lib.hid (show Below w3.heap.size w3 w6 from (HBD.out).trans (hb.mono (Below.size (HBD.out))))
      have HB56 := Lib.hid hb
      refine hK _ _ HBC.out ?_
      clear hK K
      try simp only [Act.put]
      have hil : i < l.length := by rw [hll, HFL.out]; exact him
      obtain ⟨gb, go, rfl, _, hgc⟩ := hrl.rl.at_ i hil
      obtain ⟨k1, k2, hk3⟩ := hck i hil
      have hcp : (l[i]'hil).n ≤ (l[i]'hil).c := by
        obtain ⟨b, _, _, _, _, _, _, h⟩ := hk3
        exact h
      have HGC := Lib.hid (show ∀ W, Below w6.heap.size w6 W → W.cell? ⟨gb, go + 2 * i, none⟩ = some (.int .i64 (clkN (fleetN n) n i).dr) ∧ W.cell? ⟨gb, go + 2 * i + 1, none⟩ = some (.slice (l[i]'hil).ad (clkN (fleetN n) n i).an.length (l[i]'hil).c) from fun W b => ⟨by rw [← k1]; exact hgc W b 0 (by decide), by rw [← k2]; exact hgc W b 1 (by decide)⟩)
      have HRK := Lib.hid (show RN KA w6 w5.heap.size (l[i]'hil).ad (clkN (fleetN n) n i).an from by
        obtain ⟨b, h3, _, h5, h6, h7, _⟩ := hk3
        rw [h3]; exact h7.rnA h5 h6)
      have HCP := Lib.hid (show (clkN (fleetN n) n i).an.length ≤ (l[i]'hil).c by rw [← k2]; exact hcp)
      have hik := fun W => at_ck8 gb go l.length cpl i hil W
      generalize (l[i]'hil).ad = adc at *
      generalize (l[i]'hil).c = cpc at *
      clear hrl hll hck hb hgc k1 k2 hk3 hcp hcap
      have K6 := K5.up (show Below w5.heap.size w5 w6 from HB56.out) (by omega)
      obtain ⟨z0, z1⟩ := K6 0 (by simp)
      obtain ⟨z2, z3⟩ := K6 1 (by simp)
      have K6 := Lib.hid K6
      obtain ⟨g0, g1⟩ := HGC.out w6 (Below.refl _ _)
      refine wpAnyK_callx (i := 7) rfl (by kernel_rfl) (listed' := #[true, true, true, true, true, true, true, true, false, false, true, false]) rfl (fun _ _ _ _ _ h => h) HBC.out ?_
      apply Exists.intro
      apply Exists.intro
      apply Exists.intro
      refine ⟨⟨by kernel_rfl, fun wy hw => ?_, fun wy hw => ?_⟩, ?_⟩
      · (have bw := hw.below; obtain ⟨f0, _⟩ := HK3.out.below bw 0 (by simp); obtain ⟨f1, _⟩ := HK3.out.below bw 1 (by simp); obtain ⟨f2, _⟩ := HK3.out.below bw 2 (by simp); obtain ⟨f3, _⟩ := HK3.out.below bw 3 (by simp); obtain ⟨f4, _⟩ := HK3.out.below bw 4 (by simp); simp only [List.getElem_cons_zero, List.getElem_cons_succ] at f0 f1 f2 f3 f4; rw [HFL.out] at f0; go_simp; try (first | (with_reducible rfl) | (with_reducible exact ⟨rfl, rfl⟩)))
      · (exact (HPA.out _).mono (fun e w2 h => ⟨h.1, h.2.symm⟩))
      try simp only [Act.put, List.getElem_toArray, List.getElem_cons_succ, List.getElem_cons_zero, List.setIfInBounds_toArray, List.set_cons_succ, List.set_cons_zero]
      refine wpAnyK_ex (i := 8) rfl (by kernel_rfl) (listed' := #[true, true, true, true, true, true, true, true, true, false, true, false]) rfl (fun _ _ _ _ _ h => h) HBC.out ?_
      apply Exists.intro
      refine ⟨⟨by kernel_rfl, fun wy hw => ?_⟩, ?_⟩
      · (have bw := hw.below; obtain ⟨f0, _⟩ := HK3.out.below bw 0 (by simp); obtain ⟨f1, _⟩ := HK3.out.below bw 1 (by simp); obtain ⟨f2, _⟩ := HK3.out.below bw 2 (by simp); obtain ⟨f3, _⟩ := HK3.out.below bw 3 (by simp); obtain ⟨f4, _⟩ := HK3.out.below bw 4 (by simp); simp only [List.getElem_cons_zero, List.getElem_cons_succ] at f0 f1 f2 f3 f4; rw [HFL.out] at f0; go_simp; try (first | (with_reducible rfl) | (with_reducible exact ⟨rfl, rfl⟩)))
      try simp only [Act.put, List.getElem_toArray, List.getElem_cons_succ, List.getElem_cons_zero, List.setIfInBounds_toArray, List.set_cons_succ, List.set_cons_zero]
      refine wpAnyK_fork1 9 (by kernel_rfl) ?_
      refine wpOpK_step rfl (by kernel_rfl) (listed' := #[true, true, true, true, true, true, true, true, true, true, true, false]) rfl (by kernel_rfl) (fun K hK => ?_)
      go_simp
      refine hK _ _ (HBC.out) ?_
      clear hK K
      try simp only [Act.put, List.getElem_toArray, List.getElem_cons_succ, List.getElem_cons_zero, List.setIfInBounds_toArray, List.set_cons_succ, List.set_cons_zero]
      refine wpAnyK_end (by kernel_rfl) ?_
      try simp only [pickOps, List.filterMap_cons, List.filterMap_nil, List.getElem?_toArray, List.getElem?_cons_succ, List.getElem?_cons_zero]
      clear V5
      go_wp2_with fail
      refine NoPanic.normal ?_
      go_wp2_with fail
      go_meet
      exact ⟨_, adc, cpc, rfl, Lib.hid ⟨(K6.out.put 0 _).put 1 _, ((HRK.out.far (by omega)).far (by omega)).rl, HCP.out⟩, Lib.hid ((HBC.out.setCell (by show _ ≤ wx.heap.size; omega) _).setCell (by show _ ≤ wx.heap.size; omega) _)⟩
  case rest =>
    obtain ⟨c0, ad, cp, rfl, HS, HB4⟩ := hcut
    generalize wc = w4 at *
    obtain ⟨KC, KR, KP⟩ := HS.out
    generalize clkN (fleetN n) n i = C at *
    obtain ⟨_, ⟨d0, d1⟩, _, hne⟩ := ckB_of HCO.out
    have HK := Lib.hid (show ∀ W, Below w4.heap.size w4 W → W.cell? ⟨c0, 0, none⟩ = some (.int .i64 C.dr) ∧ W.cell? ⟨c0, 1, none⟩ = some (.slice ad C.an.length cp) from fun W b => ⟨(KC.below b 0 (by simp)).1, (KC.below b 1 (by simp)).1⟩)
    have HRG := Lib.hid (show ∀ t, -17592186044416 ≤ t → t ≤ 17592186044416 → ∀ W, Below w4.heap.size w4 W → Calls Tryd.prog 27 #[.agg #[.int .i64 C.dr, .slice ad C.an.length cp], .int .i64 t] W fun e w' => e = .returned (.tuple #[.int .i64 (readV C t), .int .i64 0]) ∧ Below W.heap.size W w' from fun t h0 h1 W b => by
      have h := HRD C ad cp t HCN.out.2 KP W (KR.below b)
      rw [readE_yes (readB_yes HCO.out h0 h1)] at h
      exact h)
    have HBW := Lib.hid (show Below w.heap.size w w4 from HB2.out.trans ((HB3.out.mono hz2).trans (HB4.out.mono (Nat.le_trans hz2 (by omega)))))
    have u1 := wrapq8 (x := PS - 50000000) (by omega); have u2 := wrapq8 (x := PT - 50000000) (by omega)
    clear KC KR KP HS HCR HFR HF3 HK3 HR1 HR2 HR3 hne
    go_wp2_with fail
    refine (HPS.out _).mono ?_
    rintro e z ⟨rfl, hz⟩
    rw [← hz]; clear hz
    go_wp2_with fail
    refine (HPT.out _).mono ?_
    rintro e z ⟨rfl, hz⟩
    rw [← hz]; clear hz
    go_upto_region 6 with fail
    have e1 : -50000000 ≤ PS - 50000000 ∧ PS - 50000000 < 50000000 := by omega
    have e2 : -50000000 ≤ PT - 50000000 ∧ PT - 50000000 < 50000000 := by omega
    clear u1 u2 HPS HPT
    generalize PS - 50000000 = a at *
    generalize PT - 50000000 = b at *
    obtain ⟨e10, e11⟩ := e1; obtain ⟨e20, e21⟩ := e2
    clear b0 b1 b2 b3
    by_cases hab : b < a
    · skip
      have TK := tk_of HCO.out (a := b) (b := a) (by omega) (by omega) (by omega)
      have v1 := wrapq8 (x := b + 1000000) (by omega); have v2 := wrapq8 (x := b + 1000000 + C.dr) (by omega); have v3 := wrapq8 (x := b + 1000000 - C.dr) (by omega); have v4 := wrapq8 (x := b + 1000000 - C.dr - 1) (by omega)
      have v5 := wrapq8 (x := a - b) (by omega); have v6 := wrapq8 (x := 1000000 + C.dr) (by omega); have v7 := wrapq8 (x := 1000000 - C.dr) (by omega)
      have z6 : ¬ (1000000 + C.dr) = 0 := by omega
      have z7 : ¬ (1000000 - C.dr) = 0 := by omega
      have HG1 := Lib.hid (HRG.out b (by omega) (by omega))
      have HG2 := Lib.hid (HRG.out a (by omega) (by omega))
      have HG3 := Lib.hid (HRG.out (b + 1000000 + C.dr) (by omega) (by omega))
      have HG4 := Lib.hid (HRG.out (b + 1000000 - C.dr - 1) (by omega) (by omega))
      generalize readV C b = X at *
      generalize readV C a = Y at *
      generalize readV C (b + 1000000 + C.dr) = R at *
      generalize readV C (b + 1000000 - C.dr - 1) = S at *
      obtain ⟨k0, k1, k2, k3, k4, ⟨k5, k6⟩, ⟨k7, k8⟩, ⟨k9, k10⟩, ⟨k11, k12⟩⟩ := TK
      have v8 := wrapq8 (x := (a - b).tdiv (1000000 + C.dr)) (by omega); have v9 := wrapq8 (x := (a - b).tdiv (1000000 - C.dr)) (by omega)
      have v10 := wrapq8 (x := (a - b).tdiv (1000000 + C.dr) - 1) (by omega); have v11 := wrapq8 (x := (a - b).tdiv (1000000 - C.dr) + 1) (by omega)
      have v12 := wrapq8 (x := X + 1) (by omega); have v13 := wrapq8 (x := Y - X) (by omega)
      have j1 : ¬ Y < X := by omega
      have j2 : ¬ R < X + 1 := by omega
      have j3 : ¬ X + 1 < S := by omega
      obtain ⟨y0, y1⟩ := HK.out w4 (Below.refl _ _)
      go_wp2_with fail
      refine (HG1.out _ (Below.refl _ _)).mono ?_
      rintro e w5 ⟨rfl, hb5⟩
      obtain ⟨y2, y3⟩ := HK.out w5 hb5
      have HB5 := Lib.hid hb5
      clear hb5 y0 y1
      go_wp2_with fail
      refine (HG2.out _ HB5.out).mono ?_
      rintro e w6 ⟨rfl, hb6⟩
      have HB6 := Lib.hid (HB5.out.trans (hb6.mono HB5.out.size))
      obtain ⟨y4, y5⟩ := HK.out w6 HB6.out
      clear hb6 y2 y3
      go_wp2_with fail
      refine (HG3.out _ HB6.out).mono ?_
      rintro e w7 ⟨rfl, hb7⟩
      have HB7 := Lib.hid (HB6.out.trans (hb7.mono HB6.out.size))
      obtain ⟨y6, y7⟩ := HK.out w7 HB7.out
      clear hb7 y4 y5
      go_wp2_with fail
      refine (HG4.out _ HB7.out).mono ?_
      rintro e w8 ⟨rfl, hb8⟩
      have HB8 := Lib.hid (HB7.out.trans (hb8.mono HB7.out.size))
      obtain ⟨y8, y9⟩ := HK.out w8 HB8.out
      clear hb8 y6 y7
      go_wp2_with fail
      go_ret
      exact ⟨rfl, HBW.out.trans (HB8.out.mono HBW.out.size)⟩
    · skip
      have TK := tk_of HCO.out (a := a) (b := b) (by omega) (by omega) (by omega)
      have v1 := wrapq8 (x := a + 1000000) (by omega); have v2 := wrapq8 (x := a + 1000000 + C.dr) (by omega); have v3 := wrapq8 (x := a + 1000000 - C.dr) (by omega); have v4 := wrapq8 (x := a + 1000000 - C.dr - 1) (by omega)
      have v5 := wrapq8 (x := b - a) (by omega); have v6 := wrapq8 (x := 1000000 + C.dr) (by omega); have v7 := wrapq8 (x := 1000000 - C.dr) (by omega)
      have z6 : ¬ (1000000 + C.dr) = 0 := by omega
      have z7 : ¬ (1000000 - C.dr) = 0 := by omega
      have HG1 := Lib.hid (HRG.out a (by omega) (by omega))
      have HG2 := Lib.hid (HRG.out b (by omega) (by omega))
      have HG3 := Lib.hid (HRG.out (a + 1000000 + C.dr) (by omega) (by omega))
      have HG4 := Lib.hid (HRG.out (a + 1000000 - C.dr - 1) (by omega) (by omega))
      generalize readV C a = X at *
      generalize readV C b = Y at *
      generalize readV C (a + 1000000 + C.dr) = R at *
      generalize readV C (a + 1000000 - C.dr - 1) = S at *
      obtain ⟨k0, k1, k2, k3, k4, ⟨k5, k6⟩, ⟨k7, k8⟩, ⟨k9, k10⟩, ⟨k11, k12⟩⟩ := TK
      have v8 := wrapq8 (x := (b - a).tdiv (1000000 + C.dr)) (by omega); have v9 := wrapq8 (x := (b - a).tdiv (1000000 - C.dr)) (by omega)
      have v10 := wrapq8 (x := (b - a).tdiv (1000000 + C.dr) - 1) (by omega); have v11 := wrapq8 (x := (b - a).tdiv (1000000 - C.dr) + 1) (by omega)
      have v12 := wrapq8 (x := X + 1) (by omega); have v13 := wrapq8 (x := Y - X) (by omega)
      have j1 : ¬ Y < X := by omega
      have j2 : ¬ R < X + 1 := by omega
      have j3 : ¬ X + 1 < S := by omega
      obtain ⟨y0, y1⟩ := HK.out w4 (Below.refl _ _)
      go_wp2_with fail
      refine (HG1.out _ (Below.refl _ _)).mono ?_
      rintro e w5 ⟨rfl, hb5⟩
      obtain ⟨y2, y3⟩ := HK.out w5 hb5
      have HB5 := Lib.hid hb5
      clear hb5 y0 y1
      go_wp2_with fail
      refine (HG2.out _ HB5.out).mono ?_
      rintro e w6 ⟨rfl, hb6⟩
      have HB6 := Lib.hid (HB5.out.trans (hb6.mono HB5.out.size))
      obtain ⟨y4, y5⟩ := HK.out w6 HB6.out
      clear hb6 y2 y3
      go_wp2_with fail
      refine (HG3.out _ HB6.out).mono ?_
      rintro e w7 ⟨rfl, hb7⟩
      have HB7 := Lib.hid (HB6.out.trans (hb7.mono HB6.out.size))
      obtain ⟨y6, y7⟩ := HK.out w7 HB7.out
      clear hb7 y4 y5
      go_wp2_with fail
      refine (HG4.out _ HB7.out).mono ?_
      rintro e w8 ⟨rfl, hb8⟩
      have HB8 := Lib.hid (HB7.out.trans (hb8.mono HB7.out.size))
      obtain ⟨y8, y9⟩ := HK.out w8 HB8.out
      clear hb8 y6 y7
      go_wp2_with fail
      go_ret
      exact ⟨rfl, HBW.out.trans (HB8.out.mono HBW.out.size)⟩
end Go.Proofs.YtifdcfjllonmgaaDoor
