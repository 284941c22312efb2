/-
  Layer 8: ClockReadingsMatchReference over the landed program.
-/
import Derived.Test.YtamefmojocegkaaDoorQh0
import Derived.Test.YtamefmojocegkaaDoorK09
import Derived.Test.YtamefmojocegkaaDoorK10
namespace Go.Proofs.YtamefmojocegkaaDoor
open Go Go.Proofs Go.RowKit Go.Lib Go.Sort

theorem take_lenH {α : Type} (l : List α) (n : Nat) : (l.take n).length = if l.length < n then l.length else n := by rw [List.length_take]; split <;> omega
set_option maxRecDepth 100000 in
set_option maxHeartbeats 16000000 in
theorem readings_r (ra : Option Addr) (rc : Nat) (rdr : Int) (rl : List An) (t n : Int) (ad : Option Addr) (c : Nat) (l : List D4) (b0 b1 b2 : Int) (agent : Int) (hrl : rl.length ≤ maxLen) (hrc : rl.length ≤ rc) (t0 : -9223372036854775808 ≤ t) (t1 : t ≤ 9223372036854775807)
    (h0 : -9223372036854775808 ≤ n) (h1 : n ≤ 9223372036854775807) (hl : l.length ≤ maxLen) (hdi : ∀ d ∈ l, d.fit)
    (p0 : -9223372036854775808 ≤ b0) (p1 : b0 ≤ 9223372036854775807) (q0 : -9223372036854775808 ≤ b1) (q1 : b1 ≤ 9223372036854775807) (r0 : -9223372036854775808 ≤ b2) (r1 : b2 ≤ 9223372036854775807) (m0 : -9223372036854775808 ≤ agent) (m1 : agent ≤ 9223372036854775807) (w : World) (hR : Rdy w) (hA : RL KA w ra rl) (hI : RL KD w ad l) :
    Calls Tryd.prog 4 #[.agg #[.int .i64 rdr, .slice ra rl.length rc], .int .i64 t, .int .i64 n, .slice ad l.length c, .agg #[.int .i64 b0, .int .i64 b1, .int .i64 b2], .int .i64 agent] w fun e w' => e = .returned (.bool true) ∧ Below w.heap.size w w' := by
  have HRY := Lib.hid (fun W (b : Below w.heap.size w W) => hR.below b)
  have HII := Lib.hid (fun W (b : Below w.heap.size w W) => hI.below b)
  obtain ⟨ka, hka⟩ : ∃ ka, ka = (rl.take 25).length := ⟨_, rfl⟩
  have HAA := Lib.hid (fun W (b : Below w.heap.size w W) => (hA.take8 25).below b)
  have HKA := Lib.hid (show ka = if rl.length < 25 then rl.length else 25 from by rw [hka, take_lenH])
  have HAC := Lib.hid (And.intro hrl hrc)
  have HKD := Lib.hid hka
  have HPT := Lib.hid (fun W => pickL8_any t 100000000 t0 t1 (by decide) (by decide) W)
  have HEX := Lib.hid (fun W hW => exampleR_any n ad c l h0 h1 hl hdi W hW)
  have HLN := Lib.hid (ex_ok n l).1
  have HBT := Lib.hid (And.intro (And.intro p0 p1) (And.intro (And.intro q0 q1) (And.intro r0 r1)))
  have HTM := Lib.hid (fun h hh => ((ex_ok n l).2.1 h hh).t0)
  have HZ1 := Lib.hid (evs_of (ex_hs n l))
  have HZ2 := Lib.hid (bent_evs n l b0 b1 b2)
  have HTB := Lib.hid (fun k hk => ex_timesB n l k hk)
  have hm0 := agN_bd n
  obtain ⟨hma, hmb⟩ := hm0
  have HPA := Lib.hid (fun W => pickL8_any agent (agN n : Nat) m0 m1 (by omega) (by omega) W)
  have pp0 := pick8_lo (c := agent) (n := (agN n : Nat)) (by omega)
  have pp1 := pick8_hi (c := agent) (n := (agN n : Nat)) (by omega)
  obtain ⟨i, hi⟩ := Int.eq_ofNat_of_zero_le pp0
  rw [hi] at HPA pp1
  have him : i < agN n := by omega
  have HAM := Lib.hid (And.intro m0 (And.intro m1 (show i < 5 from by omega)))
  have HCR := Lib.hid (fun v W h => clocksR_any v (fleetN n) n (by rw [fleetN_len]; omega) h0 h1 W h)
  have HCN := Lib.hid (clkN_lenH (fleetN n) n i)
  generalize rl.take 25 = R25 at *
  clear hi pp0 pp1 hka
  obtain ⟨w0, V0, Z0, K0, B0⟩ := lay8 w [.int .i64 rdr, .slice ra rl.length rc] 50
  have V0 := (show w.alloc (.cells #[.int .i64 rdr, .slice ra rl.length rc] 50) = w0 from V0)
  obtain ⟨w1, V1, Z1, K1, B1⟩ := lay8 w0 [.int .i64 b0, .int .i64 b1, .int .i64 b2] 27
  have V1 := (show w0.alloc (.cells #[.int .i64 b0, .int .i64 b1, .int .i64 b2] 27) = w1 from V1)
  rw [Z0] at Z1 K1
  have HK0 := Lib.hid (K0.below B1)
  have HK1 := Lib.hid K1
  have HB1 := Lib.hid (below_up8 B0 B1)
  have HSA1 := sane_any w1 (hR.below HB1.out)
  clear hR hI hA hdi K0 B0 K1 B1 Z1 p0 p1 q0 q1 r0 r1 m0 m1 hrl hrc t0 t1
  go_enter Tryd.func4, Tryd.ntmps4
  go_wp2_with fail
  refine HSA1.mono ?_
  rintro e w2 ⟨rfl, hb⟩
  have HB2 := Lib.hid (below_up8 HB1.out hb)
  have HK2 := Lib.hid (HK1.out.below hb)
  have HK02 := Lib.hid (HK0.out.below hb)
  clear hb HSA1 HK1 HK0 HB1 V0 V1
  go_upto_region 2 with fail
  obtain ⟨c10, c11⟩ := HK02.out 1 (by simp)
  simp only [List.getElem_cons_zero, List.getElem_cons_succ] at c10
  go_cut [36] from 36 to 43 (fun _ wx => Hid (CellsAt wx w.heap.size [.int .i64 rdr, .slice ra ka rc]) ∧ Hid (CellsAt wx (w.heap.size + 1) [.int .i64 b0, .int .i64 b1, .int .i64 b2]) ∧ Hid (Below w.heap.size w wx))
  case first =>
    have hec := HAC.out.2
    by_cases h6 : rl.length ≤ 25
    · have e : ka = rl.length := by rw [HKA.out]; split <;> omega
      have hi1 : (rl.length : Int) ≤ 25 := by omega
      have hsl := (show ∀ W, (Instr.slice 48 (.slice ra rl.length rc) none (some (.int .i64 (rl.length : Int))) none).run Tryd.prog W = .ok (.slice ra rl.length rc) W from fun W => KA.toH8 ra rl.length rc rl.length hec W)
      go_wp2_with fail
      all_goals (go_meet)
      all_goals (exact ⟨Lib.hid (by rw [e]; exact HK02.out.put 1 _), Lib.hid (HK2.out.far (by omega)), Lib.hid (HB2.out.setCell (Nat.le_refl _) _)⟩)
    · have e : ka = 25 := by rw [HKA.out]; split <;> omega
      have hi1 : ¬ (rl.length : Int) ≤ 25 := by omega
      have hsl := (show ∀ W, (Instr.slice 48 (.slice ra rl.length rc) none (some (.int .i64 25)) none).run Tryd.prog W = .ok (.slice ra 25 rc) W from fun W => KA.toH8 ra rl.length rc 25 (by omega) W)
      go_wp2_with fail
      all_goals (go_meet)
      all_goals (exact ⟨Lib.hid (by rw [e]; exact HK02.out.put 1 _), Lib.hid (HK2.out.far (by omega)), Lib.hid (HB2.out.setCell (Nat.le_refl _) _)⟩)
  case rest =>
    obtain ⟨HK03, HK3, HB3⟩ := hcut
    generalize wc = w3 at *
    clear c10 c11 HK02 HK2 HB2
    go_wp2_with fail
    refine (HEX.out _ (HII.out _ HB3.out)).mono ?_
    rintro e w4 ⟨x1, k1, x2, k2, x3, k3, a4, c4, a5, c5, rfl, s1, s2, s3, hn4, hn5, s4, s5, hb⟩
    have HK4 := Lib.hid (HK3.out.below hb)
    have HK04 := Lib.hid (HK03.out.below hb)
    have HB4 := Lib.hid (below_up8 HB3.out hb)
    clear hb HB3 HK3 HK03 HEX HII
    obtain ⟨f, hf⟩ : ∃ f, f = fleetN n := ⟨_, rfl⟩
    have HFT := Lib.hid (show f.fit from by rw [hf]; exact fleet_fit n)
    have HFL := Lib.hid (show f.dr.length = agN n from by rw [hf]; exact fleetN_len n)
    rw [← hf] at s1 s2 s3 HZ1 HZ2 HCR HCN ⊢
    clear hf
    obtain ⟨hs, hhs⟩ : ∃ hs, hs = exN n l := ⟨_, rfl⟩
    rw [← hhs] at s4 s5 HLN HTM HZ1 HZ2 HTB ⊢
    clear hhs
    have HR := Lib.hid (show RL KE w4 a4 (hs.map (·.e)) ∧ RL KI w4 a5 (hs.map (·.t)) ∧ (a4 = none → c4 = 0) ∧ (a5 = none → c5 = 0) from ⟨s4.rl, s5.rl, hn4, hn5⟩)
    have HRG := Lib.hid (show ∀ W, Below w4.heap.size w4 W → FlAt W (.agg #[.slice x1 f.dr.length k1, .int .i64 f.lat, .int .i64 f.lia, .slice x2 f.sv.length k2, .slice x3 f.tm.length k3]) f from fun W b => ⟨x1, k1, x2, k2, x3, k3, rfl, s1.rl.below b, s2.rl.below b, s3.rl.below b⟩)
    clear s1 s2 s3 s4 s5 hn4 hn5
    obtain ⟨w5, V5, Z5, K5, B5⟩ := lay8 w4 [.slice x1 f.dr.length k1, .int .i64 f.lat, .int .i64 f.lia, .slice x2 f.sv.length k2, .slice x3 f.tm.length k3] 24
    have V5 := (show w4.alloc (.cells #[.slice x1 f.dr.length k1, .int .i64 f.lat, .int .i64 f.lia, .slice x2 f.sv.length k2, .slice x3 f.tm.length k3] 24) = w5 from V5)
    have HB45 := Lib.hid B5
    have HK5 := Lib.hid (HK4.out.below B5)
    have HK05 := Lib.hid (HK04.out.below B5)
    have HB5 := Lib.hid (below_up8 HB4.out B5)
    have HK3 := Lib.hid K5
    have HF3 := Lib.hid (show ∀ W, Below w5.heap.size w5 W → FlAt W (.agg #[.slice x1 f.dr.length k1, .int .i64 f.lat, .int .i64 f.lia, .slice x2 f.sv.length k2, .slice x3 f.tm.length k3]) f from fun W b => HRG.out W (below_up8 HB45.out b))
    clear K5 B5 Z5 HK4 HK04 HB4
    go_upto_region 4 with fail
    clear V5
    generalize w4.heap.size = QG at HK3 ⊢
    go_cut [17] from 51 to 60 (fun s17 wx => ∃ c0 ad cp, s17 = .pointer (some ⟨c0, 0, none⟩) ∧ Hid (CellsAt wx c0 [.int .i64 (clkN f n i).dr, .slice ad (clkN f n i).an.length cp] ∧ RL KA wx ad (clkN f n i).an ∧ (clkN f n i).an.length ≤ cp) ∧ Hid (Below w5.heap.size w5 wx))
    case first =>
      skip
      refine wp_region_noPanic ?_
      refine wp_region_Kx (C := NewB w5) [11] 11 #[false, false, false, false, false, false, false, false, false, false, false, false] (by kernel_rfl) (by kernel_rfl) (by kernel_rfl) (newB0 _) ?_
      intro wx hwx
      refine wpAnyK_ex (i := 0) rfl (by kernel_rfl) (listed' := #[true, false, false, false, false, false, false, false, false, false, false, false]) rfl (fun _ _ _ _ _ h => h) hwx ?_
      apply Exists.intro
      refine ⟨⟨by kernel_rfl, fun wy hw => ?_⟩, ?_⟩
      · (have bw := hw.below; obtain ⟨f0, _⟩ := HK3.out.below bw 0 (by simp); obtain ⟨f1, _⟩ := HK3.out.below bw 1 (by simp); obtain ⟨f2, _⟩ := HK3.out.below bw 2 (by simp); obtain ⟨f3, _⟩ := HK3.out.below bw 3 (by simp); obtain ⟨f4, _⟩ := HK3.out.below bw 4 (by simp); simp only [List.getElem_cons_zero, List.getElem_cons_succ] at f0 f1 f2 f3 f4; rw [HFL.out] at f0; go_simp; try (first | (with_reducible rfl) | (with_reducible exact ⟨rfl, rfl⟩)))
      try simp only [Act.put, List.getElem_toArray, List.getElem_cons_zero, List.setIfInBounds_toArray, List.set_cons_succ, List.set_cons_zero]
      refine wpAnyK_ex (i := 1) rfl (by kernel_rfl) (listed' := #[true, true, false, false, false, false, false, false, false, false, false, false]) rfl (fun _ _ _ _ _ h => h) hwx ?_
      apply Exists.intro
      refine ⟨⟨by kernel_rfl, fun wy hw => ?_⟩, ?_⟩
      · (have bw := hw.below; obtain ⟨f0, _⟩ := HK3.out.below bw 0 (by simp); obtain ⟨f1, _⟩ := HK3.out.below bw 1 (by simp); obtain ⟨f2, _⟩ := HK3.out.below bw 2 (by simp); obtain ⟨f3, _⟩ := HK3.out.below bw 3 (by simp); obtain ⟨f4, _⟩ := HK3.out.below bw 4 (by simp); simp only [List.getElem_cons_zero, List.getElem_cons_succ] at f0 f1 f2 f3 f4; rw [HFL.out] at f0; go_simp; try (first | (with_reducible rfl) | (with_reducible exact ⟨rfl, rfl⟩)))
      try simp only [Act.put, List.getElem_toArray, List.getElem_cons_succ, List.getElem_cons_zero, List.setIfInBounds_toArray, List.set_cons_succ, List.set_cons_zero]
      refine wpAnyK_ex (i := 3) rfl (by kernel_rfl) (listed' := #[true, true, false, true, false, false, false, false, false, false, false, false]) rfl (fun _ _ _ _ _ h => h) hwx ?_
      apply Exists.intro
      refine ⟨⟨by kernel_rfl, fun wy hw => ?_⟩, ?_⟩
      · (have bw := hw.below; obtain ⟨f0, _⟩ := HK3.out.below bw 0 (by simp); obtain ⟨f1, _⟩ := HK3.out.below bw 1 (by simp); obtain ⟨f2, _⟩ := HK3.out.below bw 2 (by simp); obtain ⟨f3, _⟩ := HK3.out.below bw 3 (by simp); obtain ⟨f4, _⟩ := HK3.out.below bw 4 (by simp); simp only [List.getElem_cons_zero, List.getElem_cons_succ] at f0 f1 f2 f3 f4; rw [HFL.out] at f0; go_simp; try (first | (with_reducible rfl) | (with_reducible exact ⟨rfl, rfl⟩)))
      try simp only [Act.put, List.getElem_toArray, List.getElem_cons_succ, List.getElem_cons_zero, List.setIfInBounds_toArray, List.set_cons_succ, List.set_cons_zero]
      refine wpAnyK_ex (i := 4) rfl (by kernel_rfl) (listed' := #[true, true, false, true, true, false, false, false, false, false, false, false]) rfl (fun _ _ _ _ _ h => h) hwx ?_
      apply Exists.intro
      refine ⟨⟨by kernel_rfl, fun wy hw => ?_⟩, ?_⟩
      · (have bw := hw.below; obtain ⟨f0, _⟩ := HK3.out.below bw 0 (by simp); obtain ⟨f1, _⟩ := HK3.out.below bw 1 (by simp); obtain ⟨f2, _⟩ := HK3.out.below bw 2 (by simp); obtain ⟨f3, _⟩ := HK3.out.below bw 3 (by simp); obtain ⟨f4, _⟩ := HK3.out.below bw 4 (by simp); simp only [List.getElem_cons_zero, List.getElem_cons_succ] at f0 f1 f2 f3 f4; rw [HFL.out] at f0; go_simp; try (first | (with_reducible rfl) | (with_reducible exact ⟨rfl, rfl⟩)))
      try simp only [Act.put, List.getElem_toArray, List.getElem_cons_succ, List.getElem_cons_zero, List.setIfInBounds_toArray, List.set_cons_succ, List.set_cons_zero]
      refine wpAnyK_ex (i := 5) rfl (by kernel_rfl) (listed' := #[true, true, false, true, true, true, false, false, false, false, false, false]) rfl (fun _ _ _ _ _ h => h) hwx ?_
      apply Exists.intro
      refine ⟨⟨by kernel_rfl, fun wy hw => ?_⟩, ?_⟩
      · (have bw := hw.below; obtain ⟨f0, _⟩ := HK3.out.below bw 0 (by simp); obtain ⟨f1, _⟩ := HK3.out.below bw 1 (by simp); obtain ⟨f2, _⟩ := HK3.out.below bw 2 (by simp); obtain ⟨f3, _⟩ := HK3.out.below bw 3 (by simp); obtain ⟨f4, _⟩ := HK3.out.below bw 4 (by simp); simp only [List.getElem_cons_zero, List.getElem_cons_succ] at f0 f1 f2 f3 f4; rw [HFL.out] at f0; go_simp; try (first | (with_reducible rfl) | (with_reducible exact ⟨rfl, rfl⟩)))
      try simp only [Act.put, List.getElem_toArray, List.getElem_cons_succ, List.getElem_cons_zero, List.setIfInBounds_toArray, List.set_cons_succ, List.set_cons_zero]
      refine wpAnyK_ex (i := 6) rfl (by kernel_rfl) (listed' := #[true, true, false, true, true, true, true, false, false, false, false, false]) rfl (fun _ _ _ _ _ h => h) hwx ?_
      apply Exists.intro
      refine ⟨⟨by kernel_rfl, fun wy hw => ?_⟩, ?_⟩
      · (have bw := hw.below; obtain ⟨f0, _⟩ := HK3.out.below bw 0 (by simp); obtain ⟨f1, _⟩ := HK3.out.below bw 1 (by simp); obtain ⟨f2, _⟩ := HK3.out.below bw 2 (by simp); obtain ⟨f3, _⟩ := HK3.out.below bw 3 (by simp); obtain ⟨f4, _⟩ := HK3.out.below bw 4 (by simp); simp only [List.getElem_cons_zero, List.getElem_cons_succ] at f0 f1 f2 f3 f4; rw [HFL.out] at f0; go_simp; try (first | (with_reducible rfl) | (with_reducible exact ⟨rfl, rfl⟩)))
      try simp only [Act.put, List.getElem_toArray, List.getElem_cons_succ, List.getElem_cons_zero, List.setIfInBounds_toArray, List.set_cons_succ, List.set_cons_zero]
      refine wpAnyK_fork2 2 10 (by kernel_rfl) ?_ ?_
      · skip
        refine wpOpK_step rfl (by kernel_rfl) (listed' := #[true, true, true, true, true, true, true, false, false, false, false, false]) rfl (by rfl) (fun K hK => ?_)
        go_simp
        refine (HCR.out _ _ (by have := HF3.out _ (hwx.below); rw [HFL.out] at this; exact this)).mono ?_
        rintro e wP ⟨adl, cpl, row, l, rfl, hcap, hrl, hll, hck, hb⟩
        have HBC := Lib.hid (show Below w5.heap.size w5 wP from (hwx.below).trans (hb.mono (Below.size (hwx.below))))
        have HBQ6 := Lib.hid hb
        refine hK _ _ HBC.out ?_
        clear hK K
        try simp only [Act.put]
        have hil : i < l.length := by rw [hll, HFL.out]; exact him
        obtain ⟨gb, go, rfl, _, hgc⟩ := hrl.rl.at_ i hil
        obtain ⟨k1, k2, hk3⟩ := hck i hil
        have hcp : (l[i]'hil).n ≤ (l[i]'hil).c := by
          obtain ⟨b, _, _, _, _, _, _, h⟩ := hk3
          exact h
        have HGC := Lib.hid (show ∀ W, Below wP.heap.size wP W → W.cell? ⟨gb, go + 2 * i, none⟩ = some (.int .i64 (clkN f n i).dr) ∧ W.cell? ⟨gb, go + 2 * i + 1, none⟩ = some (.slice (l[i]'hil).ad (clkN f n i).an.length (l[i]'hil).c) from fun W b => ⟨by rw [← k1]; exact hgc W b 0 (by decide), by rw [← k2]; exact hgc W b 1 (by decide)⟩)
        have HRK := Lib.hid (show RN KA wP wx.heap.size (l[i]'hil).ad (clkN f n i).an from by
          obtain ⟨b, h3, _, h5, h6, h7, _⟩ := hk3
          rw [h3]; exact h7.rnA h5 h6)
        have HCP := Lib.hid (show (clkN f n i).an.length ≤ (l[i]'hil).c by rw [← k2]; exact hcp)
        have hik := fun W => at_ck8 gb go l.length cpl i hil W
        generalize (l[i]'hil).ad = adc at *
        generalize (l[i]'hil).c = cpc at *
        clear hrl hll hck hb hgc k1 k2 hk3 hcp hcap
        obtain ⟨wQ, VQ, ZQ, KQ, BQ⟩ := lay8 wP [.int .i64 0, .slice none 0 0] 50
        obtain ⟨z0, z1⟩ := KQ 0 (by simp)
        obtain ⟨z2, z3⟩ := KQ 1 (by simp)
        have KQ := Lib.hid KQ; have BQ := Lib.hid BQ
        obtain ⟨g0, g1⟩ := HGC.out wP (Below.refl _ _)
        obtain ⟨g2, g3⟩ := HGC.out wQ BQ.out
        have HBD := Lib.hid (show Below w5.heap.size w5 wQ from HBC.out.trans (BQ.out.mono HBC.out.size))
        have hz4 := HBC.out.size
        refine wpAnyK_callx (i := 7) rfl (by kernel_rfl) (listed' := #[true, true, true, true, true, true, true, true, false, false, false, false]) rfl (fun _ _ _ _ _ h => h) HBC.out ?_
        apply Exists.intro
        apply Exists.intro
        apply Exists.intro
        refine ⟨⟨by kernel_rfl, fun wy hw => ?_, fun wy hw => ?_⟩, ?_⟩
        · (have bw := hw.below; obtain ⟨f0, _⟩ := HK3.out.below bw 0 (by simp); obtain ⟨f1, _⟩ := HK3.out.below bw 1 (by simp); obtain ⟨f2, _⟩ := HK3.out.below bw 2 (by simp); obtain ⟨f3, _⟩ := HK3.out.below bw 3 (by simp); obtain ⟨f4, _⟩ := HK3.out.below bw 4 (by simp); simp only [List.getElem_cons_zero, List.getElem_cons_succ] at f0 f1 f2 f3 f4; rw [HFL.out] at f0; go_simp; try (first | (with_reducible rfl) | (with_reducible exact ⟨rfl, rfl⟩)))
        · (exact (HPA.out _).mono (fun e w2 h => ⟨h.1, h.2.symm⟩))
        try simp only [Act.put, List.getElem_toArray, List.getElem_cons_succ, List.getElem_cons_zero, List.setIfInBounds_toArray, List.set_cons_succ, List.set_cons_zero]
        refine wpAnyK_ex (i := 8) rfl (by kernel_rfl) (listed' := #[true, true, true, true, true, true, true, true, true, false, false, false]) rfl (fun _ _ _ _ _ h => h) HBC.out ?_
        apply Exists.intro
        refine ⟨⟨by kernel_rfl, fun wy hw => ?_⟩, ?_⟩
        · (have bw := hw.below; obtain ⟨f0, _⟩ := HK3.out.below bw 0 (by simp); obtain ⟨f1, _⟩ := HK3.out.below bw 1 (by simp); obtain ⟨f2, _⟩ := HK3.out.below bw 2 (by simp); obtain ⟨f3, _⟩ := HK3.out.below bw 3 (by simp); obtain ⟨f4, _⟩ := HK3.out.below bw 4 (by simp); simp only [List.getElem_cons_zero, List.getElem_cons_succ] at f0 f1 f2 f3 f4; rw [HFL.out] at f0; go_simp; try (first | (with_reducible rfl) | (with_reducible exact ⟨rfl, rfl⟩)))
        try simp only [Act.put, List.getElem_toArray, List.getElem_cons_succ, List.getElem_cons_zero, List.setIfInBounds_toArray, List.set_cons_succ, List.set_cons_zero]
        refine wpAnyK_fork2 9 10 (by kernel_rfl) ?_ ?_
        · skip
          refine wpOpK_step rfl (by kernel_rfl) (listed' := #[true, true, true, true, true, true, true, true, true, true, false, false]) rfl (by kernel_rfl) (fun K hK => ?_)
          go_simp
          refine hK _ _ (HBC.out) ?_
          clear hK K
          try simp only [Act.put, List.getElem_toArray, List.getElem_cons_succ, List.getElem_cons_zero, List.setIfInBounds_toArray, List.set_cons_succ, List.set_cons_zero]
          refine wpAnyK_fork1 10 (by kernel_rfl) ?_
          refine wpOpK_step rfl (by kernel_rfl) (listed' := #[true, true, true, true, true, true, true, true, true, true, true, false]) rfl (by kernel_rfl) (fun K hK => ?_)
          go_simp
          refine hK _ _ (HBD.out) ?_
          clear hK K
          try simp only [Act.put, List.getElem_toArray, List.getElem_cons_succ, List.getElem_cons_zero, List.setIfInBounds_toArray, List.set_cons_succ, List.set_cons_zero]
          refine wpAnyK_end (by kernel_rfl) ?_
          try simp only [pickOps, List.filterMap_cons, List.filterMap_nil, List.getElem?_toArray, List.getElem?_cons_succ, List.getElem?_cons_zero]
          clear VQ
          go_wp2_with fail
          refine NoPanic.normal ?_
          go_wp2_with fail
          go_meet
          exact ⟨_, adc, cpc, rfl, Lib.hid ⟨(KQ.out.put 0 _).put 1 _, HRK.out.rl.below ((BQ.out.setCell (by show _ ≤ wP.heap.size; exact Nat.le_refl _) _).setCell (by show _ ≤ wP.heap.size; exact Nat.le_refl _) _), HCP.out⟩, Lib.hid ((HBD.out.setCell (by show _ ≤ wP.heap.size; omega) _).setCell (by show _ ≤ wP.heap.size; omega) _)⟩
        · skip
          refine wpOpK_step rfl (by kernel_rfl) (listed' := #[true, true, true, true, true, true, true, true, true, false, true, false]) rfl (by kernel_rfl) (fun K hK => ?_)
          go_simp
          refine hK _ _ (HBD.out) ?_
          clear hK K
          try simp only [Act.put, List.getElem_toArray, List.getElem_cons_succ, List.getElem_cons_zero, List.setIfInBounds_toArray, List.set_cons_succ, List.set_cons_zero]
          refine wpAnyK_fork1 9 (by kernel_rfl) ?_
          refine wpOpK_step rfl (by kernel_rfl) (listed' := #[true, true, true, true, true, true, true, true, true, true, true, false]) rfl (by kernel_rfl) (fun K hK => ?_)
          go_simp
          refine hK _ _ (HBD.out) ?_
          clear hK K
          try simp only [Act.put, List.getElem_toArray, List.getElem_cons_succ, List.getElem_cons_zero, List.setIfInBounds_toArray, List.set_cons_succ, List.set_cons_zero]
          refine wpAnyK_end (by kernel_rfl) ?_
          try simp only [pickOps, List.filterMap_cons, List.filterMap_nil, List.getElem?_toArray, List.getElem?_cons_succ, List.getElem?_cons_zero]
          clear VQ
          go_wp2_with fail
          refine NoPanic.normal ?_
          go_wp2_with fail
          go_meet
          exact ⟨_, adc, cpc, rfl, Lib.hid ⟨(KQ.out.put 0 _).put 1 _, HRK.out.rl.below ((BQ.out.setCell (by show _ ≤ wP.heap.size; exact Nat.le_refl _) _).setCell (by show _ ≤ wP.heap.size; exact Nat.le_refl _) _), HCP.out⟩, Lib.hid ((HBD.out.setCell (by show _ ≤ wP.heap.size; omega) _).setCell (by show _ ≤ wP.heap.size; omega) _)⟩
      · skip
        obtain ⟨wQ, VQ, ZQ, KQ, BQ⟩ := lay8 wx [.int .i64 0, .slice none 0 0] 50
        have HBD := Lib.hid (show Below w5.heap.size w5 wQ from hwx.below.trans (BQ.mono hwx.below.size))
        have hz4 := hwx.below.size
        refine wpOpK_step rfl (by kernel_rfl) (listed' := #[true, true, false, true, true, true, true, false, false, false, true, false]) rfl (by kernel_rfl) (fun K hK => ?_)
        go_simp
        refine hK _ _ (HBD.out) ?_
        clear hK K
        try simp only [Act.put, List.getElem_toArray, List.getElem_cons_succ, List.getElem_cons_zero, List.setIfInBounds_toArray, List.set_cons_succ, List.set_cons_zero]
        refine wpAnyK_fork1 2 (by kernel_rfl) ?_
        refine wpOpK_step rfl (by kernel_rfl) (listed' := #[true, true, true, true, true, true, true, false, false, false, true, false]) rfl (by rfl) (fun K hK => ?_)
        go_simp
        refine (HCR.out _ _ (by have := HF3.out _ (HBD.out); rw [HFL.out] at this; exact this)).mono ?_
        rintro e wS ⟨adl, cpl, row, l, rfl, hcap, hrl, hll, hck, hb⟩
        have HBC := Lib.hid (show Below w5.heap.size w5 wS from (HBD.out).trans (hb.mono (Below.size (HBD.out))))
        have HBQ6 := Lib.hid hb
        refine hK _ _ HBC.out ?_
        clear hK K
        try simp only [Act.put]
        have hil : i < l.length := by rw [hll, HFL.out]; exact him
        obtain ⟨gb, go, rfl, _, hgc⟩ := hrl.rl.at_ i hil
        obtain ⟨k1, k2, hk3⟩ := hck i hil
        have hcp : (l[i]'hil).n ≤ (l[i]'hil).c := by
          obtain ⟨b, _, _, _, _, _, _, h⟩ := hk3
          exact h
        have HGC := Lib.hid (show ∀ W, Below wS.heap.size wS W → W.cell? ⟨gb, go + 2 * i, none⟩ = some (.int .i64 (clkN f n i).dr) ∧ W.cell? ⟨gb, go + 2 * i + 1, none⟩ = some (.slice (l[i]'hil).ad (clkN f n i).an.length (l[i]'hil).c) from fun W b => ⟨by rw [← k1]; exact hgc W b 0 (by decide), by rw [← k2]; exact hgc W b 1 (by decide)⟩)
        have HRK := Lib.hid (show RN KA wS wQ.heap.size (l[i]'hil).ad (clkN f n i).an from by
          obtain ⟨b, h3, _, h5, h6, h7, _⟩ := hk3
          rw [h3]; exact h7.rnA h5 h6)
        have HCP := Lib.hid (show (clkN f n i).an.length ≤ (l[i]'hil).c by rw [← k2]; exact hcp)
        have hik := fun W => at_ck8 gb go l.length cpl i hil W
        generalize (l[i]'hil).ad = adc at *
        generalize (l[i]'hil).c = cpc at *
        clear hrl hll hck hb hgc k1 k2 hk3 hcp hcap
        have KS := KQ.up (show Below wQ.heap.size wQ wS from HBQ6.out) (by omega)
        obtain ⟨z0, z1⟩ := KS 0 (by simp)
        obtain ⟨z2, z3⟩ := KS 1 (by simp)
        have KS := Lib.hid KS
        obtain ⟨g0, g1⟩ := HGC.out wS (Below.refl _ _)
        refine wpAnyK_callx (i := 7) rfl (by kernel_rfl) (listed' := #[true, true, true, true, true, true, true, true, false, false, true, false]) rfl (fun _ _ _ _ _ h => h) HBC.out ?_
        apply Exists.intro
        apply Exists.intro
        apply Exists.intro
        refine ⟨⟨by kernel_rfl, fun wy hw => ?_, fun wy hw => ?_⟩, ?_⟩
        · (have bw := hw.below; obtain ⟨f0, _⟩ := HK3.out.below bw 0 (by simp); obtain ⟨f1, _⟩ := HK3.out.below bw 1 (by simp); obtain ⟨f2, _⟩ := HK3.out.below bw 2 (by simp); obtain ⟨f3, _⟩ := HK3.out.below bw 3 (by simp); obtain ⟨f4, _⟩ := HK3.out.below bw 4 (by simp); simp only [List.getElem_cons_zero, List.getElem_cons_succ] at f0 f1 f2 f3 f4; rw [HFL.out] at f0; go_simp; try (first | (with_reducible rfl) | (with_reducible exact ⟨rfl, rfl⟩)))
        · (exact (HPA.out _).mono (fun e w2 h => ⟨h.1, h.2.symm⟩))
        try simp only [Act.put, List.getElem_toArray, List.getElem_cons_succ, List.getElem_cons_zero, List.setIfInBounds_toArray, List.set_cons_succ, List.set_cons_zero]
        refine wpAnyK_ex (i := 8) rfl (by kernel_rfl) (listed' := #[true, true, true, true, true, true, true, true, true, false, true, false]) rfl (fun _ _ _ _ _ h => h) HBC.out ?_
        apply Exists.intro
        refine ⟨⟨by kernel_rfl, fun wy hw => ?_⟩, ?_⟩
        · (have bw := hw.below; obtain ⟨f0, _⟩ := HK3.out.below bw 0 (by simp); obtain ⟨f1, _⟩ := HK3.out.below bw 1 (by simp); obtain ⟨f2, _⟩ := HK3.out.below bw 2 (by simp); obtain ⟨f3, _⟩ := HK3.out.below bw 3 (by simp); obtain ⟨f4, _⟩ := HK3.out.below bw 4 (by simp); simp only [List.getElem_cons_zero, List.getElem_cons_succ] at f0 f1 f2 f3 f4; rw [HFL.out] at f0; go_simp; try (first | (with_reducible rfl) | (with_reducible exact ⟨rfl, rfl⟩)))
        try simp only [Act.put, List.getElem_toArray, List.getElem_cons_succ, List.getElem_cons_zero, List.setIfInBounds_toArray, List.set_cons_succ, List.set_cons_zero]
        refine wpAnyK_fork1 9 (by kernel_rfl) ?_
        refine wpOpK_step rfl (by kernel_rfl) (listed' := #[true, true, true, true, true, true, true, true, true, true, true, false]) rfl (by kernel_rfl) (fun K hK => ?_)
        go_simp
        refine hK _ _ (HBC.out) ?_
        clear hK K
        try simp only [Act.put, List.getElem_toArray, List.getElem_cons_succ, List.getElem_cons_zero, List.setIfInBounds_toArray, List.set_cons_succ, List.set_cons_zero]
        refine wpAnyK_end (by kernel_rfl) ?_
        try simp only [pickOps, List.filterMap_cons, List.filterMap_nil, List.getElem?_toArray, List.getElem?_cons_succ, List.getElem?_cons_zero]
        clear VQ
        go_wp2_with fail
        refine NoPanic.normal ?_
        go_wp2_with fail
        go_meet
        exact ⟨_, adc, cpc, rfl, Lib.hid ⟨(KS.out.put 0 _).put 1 _, ((HRK.out.far (by omega)).far (by omega)).rl, HCP.out⟩, Lib.hid ((HBC.out.setCell (by show _ ≤ wx.heap.size; omega) _).setCell (by show _ ≤ wx.heap.size; omega) _)⟩
    case rest =>
      obtain ⟨qc, ca, ck, rfl, HS, HB6⟩ := hcut
      generalize wc = w6 at *
      obtain ⟨CN, hCN⟩ : ∃ CN, CN = clkN f n i := ⟨_, rfl⟩
      rw [← hCN] at HS HCN
      clear hCN
      have HKC := Lib.hid HS.out.1
      have HRC := Lib.hid HS.out.2
      have HK6 := Lib.hid (HK5.out.below HB6.out)
      have HK06 := Lib.hid (HK05.out.below HB6.out)
      have HKF := Lib.hid (HK3.out.below HB6.out)
      have HB46 := Lib.hid (below_up8 HB45.out HB6.out)
      have HBw6 := Lib.hid (below_up8 HB5.out HB6.out)
      clear HS HK5 HK05 HK3 HCR HF3
      have r0 := (show w6.cell? ⟨w.heap.size, 0, none⟩ = some (.int .i64 rdr) from (HK06.out 0 (by simp)).1)
      have r1 := (show w6.cell? ⟨w.heap.size, 1, none⟩ = some (.slice ra ka rc) from (HK06.out 1 (by simp)).1)
      have r2 := (show w6.cell? ⟨qc, 0, none⟩ = some (.int .i64 CN.dr) from (HKC.out 0 (by simp)).1)
      have r3 := (show w6.cell? ⟨qc, 1, none⟩ = some (.slice ca CN.an.length ck) from (HKC.out 1 (by simp)).1)
      obtain ⟨w7, V7, Z7, K7, B7⟩ := lay8 w6 [.int .i64 rdr, .slice ra ka rc, .int .i64 CN.dr, .slice ca CN.an.length ck] 50
      have V7 := (show w6.alloc (.cells #[.int .i64 rdr, .slice ra ka rc, .int .i64 CN.dr, .slice ca CN.an.length ck] 50) = w7 from V7)
      have HK7 := Lib.hid (HK6.out.below B7)
      have HKF7 := Lib.hid (HKF.out.below B7)
      have HB47 := Lib.hid (below_up8 HB46.out B7)
      have HBw7 := Lib.hid (below_up8 HBw6.out B7)
      have HQC := Lib.hid K7
      have HRC7 := Lib.hid (HRC.out.1.below B7)
      clear K7 B7 Z7 HK6 HKF HKC HK06
      go_wp2_with fail
      clear V7 r0 r1 r2 r3
      generalize w6.heap.size = QC at HQC ⊢
      have HXX := Lib.hid (show ∀ j, j < 2 → ∃ (x : Cl) (xa : Option Addr) (xk : Nat), (∀ W, Below w7.heap.size w7 W → W.cell? ⟨QC, 2 * j, none⟩ = some (.int .i64 x.dr) ∧ W.cell? ⟨QC, 2 * j + 1, none⟩ = some (.slice xa x.an.length xk)) ∧ x.an.length ≤ maxLen ∧ x.an.length ≤ xk ∧ ∀ W, Below w7.heap.size w7 W → RL KA W xa x.an from fun j hj => by
        have hj2 : j = 0 ∨ j = 1 := by omega
        rcases hj2 with rfl | rfl
        · refine ⟨⟨rdr, R25⟩, ra, rc, fun W b => ⟨(HQC.out.below b 0 (by simp)).1, ?_⟩, ?_, ?_, fun W b => HAA.out W (below_up8 HBw7.out b)⟩
          · show W.cell? ⟨QC, 1, none⟩ = some (.slice ra R25.length rc)
            rw [← HKD.out]; exact (HQC.out.below b 1 (by simp)).1
          · show R25.length ≤ maxLen
            rw [← HKD.out, HKA.out]; unfold maxLen; split <;> omega
          · show R25.length ≤ rc
            have := HAC.out.2
            rw [← HKD.out, HKA.out]; split <;> omega
        · exact ⟨CN, ca, ck, fun W b => ⟨(HQC.out.below b 2 (by simp)).1, (HQC.out.below b 3 (by simp)).1⟩, HCN.out.2, HRC.out.2, fun W b => HRC7.out.below b⟩)
      obtain ⟨PT, hPT⟩ : ∃ PT, PT = pick8 t 100000000 := ⟨_, rfl⟩
      have pt0 : 0 ≤ PT := by rw [hPT]; exact pick8_lo (by decide)
      have pt1 : PT < 100000000 := by rw [hPT]; exact pick8_hi (by decide)
      rw [← hPT] at HPT
      clear hPT
      have hwpt : IntKind.i64.wrap (PT - 50000000) = PT - 50000000 := wrapq8 (by omega)
      clear HRC HRC7 HCN pt0 pt1
      go_loopw [65] (fun i wr => ∃ j : Nat, i = .int .i64 j ∧ j ≤ 2 ∧ Hid (Below w7.heap.size w7 wr)) (fun i _ => 2 - (RowKit.intOf i).toNat)
      case atStart => exact ⟨0, rfl, by decide, Lib.hid (Below.refl _ _)⟩
      case round =>
        obtain ⟨j, rfl, hj, HB⟩ := hrel
        generalize wr = wa at *
        by_cases hlt : j < 2
        · have hji : (j : Int) < 2 := by omega
          have HLT := Lib.hid hlt
          obtain ⟨x, xa, xk, hxc, hxm, hxk, hxr⟩ := HXX.out j hlt
          obtain ⟨z0, z1⟩ := hxc wa HB.out
          have ixy := fun W => at_ck8 QC 0 2 2 j hlt W
          simp only [Nat.zero_add] at ixy
          obtain ⟨wb, Vb, Zb, Kb, Bb⟩ := lay8 wa [.int .i64 x.dr, .slice xa x.an.length xk] 50
          have Vb := (show wa.alloc (.cells #[.int .i64 x.dr, .slice xa x.an.length xk] 50) = wb from Vb)
          have HQY := Lib.hid Kb
          have HB7b := Lib.hid (below_up8 HB.out Bb)
          have HXM := Lib.hid (And.intro hxm hxk)
          have HXR := Lib.hid (fun W (b : Below wb.heap.size wb W) => hxr W (below_up8 HB7b.out b))
          clear hxc hxm hxk hxr hlt Kb Bb Zb
          go_upto_region 8 with fail
          clear Vb z0 z1 ixy
          generalize wa.heap.size = QY at HQY ⊢
          obtain ⟨wd, Vd, Zd, Kd, Bd⟩ := lay8 wb [.int .i64 t, .int .i64 (PT - 50000000)] 3
          have Vd := (show wb.alloc (.cells #[.int .i64 t, .int .i64 (PT - 50000000)] 3) = wd from Vd)
          have HQS := Lib.hid Kd
          have HBbd := Lib.hid Bd
          clear Kd Bd Zd
          go_upto_region 9 with (first | (go_at_call 26; refine (HPT.out _).mono ?_; rintro e z ⟨rfl, rfl⟩))
          clear Vd
          have HB7d := Lib.hid (below_up8 HB7b.out HBbd.out)
          have HSS := Lib.hid (show ∀ j, j < 2 → ∃ s : Int, ∀ W, Below wd.heap.size wd W → W.cell? ⟨wb.heap.size, j, none⟩ = some (.int .i64 s) from fun j hj => by
            have hj2 : j = 0 ∨ j = 1 := by omega
            rcases hj2 with rfl | rfl
            · exact ⟨_, fun W b => (HQS.out.below b 0 (by simp)).1⟩
            · exact ⟨_, fun W b => (HQS.out.below b 1 (by simp)).1⟩)
          generalize wb.heap.size = QS at HSS ⊢
          go_loopw [75] (fun i wr => ∃ j2 : Nat, i = .int .i64 j2 ∧ j2 ≤ 2 ∧ Hid (Below wd.heap.size wd wr)) (fun i _ => 2 - (RowKit.intOf i).toNat)
          case atStart => exact ⟨0, rfl, by decide, Lib.hid (Below.refl _ _)⟩
          case round =>
            obtain ⟨j2, rfl, hj2, HBd⟩ := hrel
            generalize wr = we at *
            have HBbe := Lib.hid (show Below _ wb we from below_up8 HBbd.out HBd.out)
            by_cases hl2 : j2 < 2
            · have hj3 : (j2 : Int) < 2 := by omega
              have HL2 := Lib.hid hl2
              obtain ⟨s, hsc⟩ := HSS.out j2 hl2
              have z0 := hsc we HBd.out
              have ixs := (show ∀ W, (Instr.indexAt 22 (.slice (some ⟨QS, 0, none⟩) 2 2) (.int .i64 (j2 : Int))).run Tryd.prog W = .ok (.pointer (some ⟨QS, j2, none⟩)) W from fun W => by have := at_int8 QS 0 2 2 j2 hl2 W; rwa [Nat.zero_add] at this)
              obtain ⟨RV, hRV⟩ : ∃ RV, RV = readV x s := ⟨_, rfl⟩
              obtain ⟨RE, hRE⟩ : ∃ RE, RE = readE x s := ⟨_, rfl⟩
              obtain ⟨CB, hCB⟩ : ∃ CB, CB = ckB x := ⟨_, rfl⟩
              have HC1 := Lib.hid (show ∀ W, Below wb.heap.size wb W → Calls Tryd.prog 27 #[.agg #[.int .i64 x.dr, .slice xa x.an.length xk], .int .i64 s] W (fun e w' => e = .returned (.tuple #[.int .i64 RV, .int .i64 RE]) ∧ Below W.heap.size W w') from fun W b => by rw [hRV, hRE]; exact reading_u x xa xk s HXM.out.1 HXM.out.2 W (HXR.out W b))
              have HC2 := Lib.hid (show ∀ W, Below wb.heap.size wb W → Calls Tryd.prog 28 #[.agg #[.int .i64 x.dr, .slice xa x.an.length xk], .int .i64 s] W (fun e w' => e = .returned (.tuple #[.int .i64 RV, .int .i64 RE]) ∧ Below W.heap.size W w') from fun W b => by rw [hRV, hRE]; exact readingR_any _ x s W ⟨xa, xk, rfl, HXR.out W b⟩ HXM.out.1)
              have HC3 := Lib.hid (show ∀ W, Below wb.heap.size wb W → Calls Tryd.prog 29 #[.agg #[.int .i64 x.dr, .slice xa x.an.length xk]] W (fun e w' => e = .returned (.bool CB) ∧ Below W.heap.size W w') from fun W b => by rw [hCB]; exact validClock_u _ x W ⟨xa, xk, rfl, HXR.out W b⟩ HXM.out.1)
              have HC4 := Lib.hid (show ∀ W, Below wb.heap.size wb W → Calls Tryd.prog 30 #[.agg #[.int .i64 x.dr, .slice xa x.an.length xk]] W (fun e w' => e = .returned (.bool CB) ∧ Below W.heap.size W w') from fun W b => by rw [hCB]; exact validClockR_any _ x W ⟨xa, xk, rfl, HXR.out W b⟩ HXM.out.1)
              have y0 := (show we.cell? ⟨QY, 0, none⟩ = some (.int .i64 x.dr) from (HQY.out.below HBbe.out 0 (by simp)).1)
              have y1 := (show we.cell? ⟨QY, 1, none⟩ = some (.slice xa x.an.length xk) from (HQY.out.below HBbe.out 1 (by simp)).1)
              clear hRV hRE hCB hsc hl2
              go_wp2_with fail
              refine (HC1.out _ HBbe.out).mono ?_
              rintro e wg ⟨rfl, hb⟩
              have HBbg := Lib.hid (below_up8 HBbe.out hb)
              have HBdg := Lib.hid (below_up8 HBd.out hb)
              clear hb y0 y1 z0 ixs
              have y0 := (show wg.cell? ⟨QY, 0, none⟩ = some (.int .i64 x.dr) from (HQY.out.below HBbg.out 0 (by simp)).1)
              have y1 := (show wg.cell? ⟨QY, 1, none⟩ = some (.slice xa x.an.length xk) from (HQY.out.below HBbg.out 1 (by simp)).1)
              go_wp2_with fail
              refine (HC2.out _ HBbg.out).mono ?_
              rintro e wh ⟨rfl, hb⟩
              have HBbh := Lib.hid (below_up8 HBbg.out hb)
              have HBdh := Lib.hid (below_up8 HBdg.out hb)
              have hn1 : (RV != RV) = false := bne_self_eq_false _
              have hn2 : (RE != RE) = false := bne_self_eq_false _
              have hn3 : (CB != CB) = false := bne_self_eq_false _
              clear hb y0 y1 HBbg HBdg
              go_upto_region 13 with fail
              go_cut [105] from 91 to 105 (fun s105 wx => s105 = .bool false ∧ Hid (Below wh.heap.size wh wx))
              case first =>
                skip
                have y0 := fun d os => (show (grow (redrawn wh d) os).cell? ⟨QY, 0, none⟩ = some (.int .i64 x.dr) from (HQY.out.below (below_up8 HBbh.out (below_regrown wh d os)) 0 (by simp)).1)
                have y1 := fun d os => (show (grow (redrawn wh d) os).cell? ⟨QY, 1, none⟩ = some (.slice xa x.an.length xk) from (HQY.out.below (below_up8 HBbh.out (below_regrown wh d os)) 1 (by simp)).1)
                refine wp_region_quiet_below (by kernel_rfl) (by kernel_rfl) ?_
                repeat (first | go_big_quiet_step ((first | fail | (go_at_call 29; exact Calls.regrown_of (HC3.out _ (below_up8 HBbh.out (below_regrown _ _ _)))) | (go_at_call 30; exact Calls.regrown_of (HC4.out _ (below_up8 HBbh.out (below_regrown _ _ _)))))) | quiet_step ((first | fail | (go_at_call 29; exact Calls.regrown_of (HC3.out _ (below_up8 HBbh.out (below_regrown _ _ _)))) | (go_at_call 30; exact Calls.regrown_of (HC4.out _ (below_up8 HBbh.out (below_regrown _ _ _)))))))
                refine wpQuiet_nil ?_
                intro _ hw'
                obtain ⟨⟨dq, osq⟩, hw''⟩ := hw'
                subst hw''
                go_wp2_with fail
                go_meet
                exact ⟨rfl, Lib.hid (below_regrown _ _ _)⟩
              case rest =>
                obtain ⟨rfl, HBx⟩ := hcut
                generalize wc = wi at *
                have HBdi := Lib.hid (below_up8 HBdh.out HBx.out)
                clear HBx hn1 hn2 hn3 HC1 HC2 HC3 HC4
                go_wp2_with fail
                go_roundw
                case rel => exact ⟨j2 + 1, by go_num, HL2.out, HBdi⟩
                case measure => have h9 := HL2.out; simp [RowKit.intOf]; omega
            · have hj3 : ¬ (j2 : Int) < 2 := by omega
              obtain rfl : j2 = 2 := by omega
              have HB7e := Lib.hid (show Below w7.heap.size w7 we from below_up8 HB7d.out HBd.out)
              clear hl2 hj2
              go_wp2_with fail
              go_roundw
              case rel => exact ⟨j + 1, by go_num, HLT.out, HB7e⟩
              case measure => have h9 := HLT.out; simp [RowKit.intOf]; omega
        · have hji : ¬ (j : Int) < 2 := by omega
          obtain rfl : j = 2 := by omega
          clear hlt hj HXX hwpt HPT HQC
          have HB4a := Lib.hid (below_up8 HB47.out HB.out)
          have HBwa := Lib.hid (below_up8 HBw7.out HB.out)
          have u0 := (show wa.cell? ⟨w.heap.size + 1, 0, none⟩ = some (.int .i64 b0) from (HK7.out.below HB.out 0 (by simp)).1)
          have u1 := (show wa.cell? ⟨w.heap.size + 1, 1, none⟩ = some (.int .i64 b1) from (HK7.out.below HB.out 1 (by simp)).1)
          have u2 := (show wa.cell? ⟨w.heap.size + 1, 2, none⟩ = some (.int .i64 b2) from (HK7.out.below HB.out 2 (by simp)).1)
          have HKFa := Lib.hid (HKF7.out.below HB.out)
          have hlm : (hs.map (·.e)).length = hs.length := List.length_map ..
          have HBE := Lib.hid (show Calls Tryd.prog 13 #[.slice a4 hs.length c4, .int .i64 b0, .int .i64 b1, .int .i64 b2] wa (fun e w' => ∃ zad zc, e = .returned (.slice zad hs.length zc) ∧ RL KE w' zad (bentN (hs.map (·.e)) b0 b1 b2) ∧ Below wa.heap.size wa w') from by
            have h := bentR_any a4 c4 (hs.map (·.e)) b0 b1 b2 (by rw [hlm]; have := HLN.out; omega) HR.out.2.2.1 HBT.out.1.1 HBT.out.1.2 HBT.out.2.1.1 HBT.out.2.1.2 HBT.out.2.2.1 HBT.out.2.2.2 (fun e he => by
              obtain ⟨h, hh, rfl⟩ := List.mem_map.1 he
              have := HTM.out h hh
              omega) wa (HR.out.1.below HB4a.out)
            rw [hlm] at h
            refine h.mono fun e w' h => ?_
            obtain ⟨zad, zc, e1, _, _, e4, e5⟩ := h
            rw [bent_len, hlm] at e1
            exact ⟨zad, zc, e1, e4.rl, e5⟩)
          go_wp2_with fail
          refine HBE.out.mono ?_
          rintro e w8 ⟨zad, zc, rfl, hz6, hb⟩
          have HB48 := Lib.hid (below_up8 HB4a.out hb)
          have HBw8 := Lib.hid (below_up8 HBwa.out hb)
          have HKF8 := Lib.hid (HKFa.out.below hb)
          have HZR := Lib.hid hz6
          clear u0 u1 u2 hz6 hb HBE HKFa HB4a HBwa HK7 HKF7 HB47 HBw7
          obtain ⟨w9, V9, Z9, K9, B9⟩ := lay8 w8 [.slice a4 hs.length c4, .slice zad hs.length zc] 25
          have V9 := (show w8.alloc (.cells #[.slice a4 hs.length c4, .slice zad hs.length zc] 25) = w9 from V9)
          have HK9 := Lib.hid K9
          have HB49 := Lib.hid (below_up8 HB48.out B9)
          have HBw9 := Lib.hid (below_up8 HBw8.out B9)
          have HKF9 := Lib.hid (HKF8.out.below B9)
          have HZA := Lib.hid (show ∀ W, Below w9.heap.size w9 W → RL KE W a4 (hs.map (·.e)) ∧ RL KE W zad (bentN (hs.map (·.e)) b0 b1 b2) ∧ RL KI W a5 (hs.map (·.t)) from fun W b => ⟨HR.out.1.below (below_up8 HB49.out b), (HZR.out.below B9).below b, HR.out.2.1.below (below_up8 HB49.out b)⟩)
          go_wp2_with fail
          clear V9 Z9 K9 B9 HZR HB48 HBw8 HKF8
          generalize w8.heap.size = Z at HK9 ⊢
          go_loopw [119] (fun i wr => ∃ j : Nat, i = .int .i64 j ∧ j ≤ 2 ∧ Hid (Below w9.heap.size w9 wr)) (fun i _ => 2 - (RowKit.intOf i).toNat)
          case atStart => exact ⟨0, rfl, by decide, Lib.hid (Below.refl _ _)⟩
          case round =>
            obtain ⟨j, rfl, hj, HB9⟩ := hrel
            generalize wr = wb at *
            by_cases hlt : j < 2
            · have hji : (j : Int) < 2 := by omega
              have HLT := Lib.hid hlt
              have hzz : ∃ (zz : List Ev) (za : Option Addr) (zk : Nat), w9.cell? ⟨Z, j, none⟩ = some (.slice za hs.length zk) ∧ zz.length = hs.length ∧ EvsOk f zz ∧ ∀ W, Below w9.heap.size w9 W → RL KE W za zz := by
                have hj2 : j = 0 ∨ j = 1 := by omega
                rcases hj2 with rfl | rfl
                · exact ⟨hs.map (·.e), a4, c4, (HK9.out 0 (by simp)).1, hlm, HZ1.out, fun W b => (HZA.out W b).1⟩
                · exact ⟨bentN (hs.map (·.e)) b0 b1 b2, zad, zc, (HK9.out 1 (by simp)).1, by rw [bent_len, hlm], HZ2.out, fun W b => (HZA.out W b).2.1⟩
              obtain ⟨zz, za, zk, hzc, hzl, hze, hzr⟩ := hzz
              have HZE := Lib.hid (And.intro hze (And.intro hzl hzr))
              have ixz := fun W => at_z8 Z 2 2 j hlt W
              have y0 := (show wb.cell? ⟨Z, j, none⟩ = some (.slice za hs.length zk) from (HB9.out.cell (p := ⟨Z, j, none⟩) (World.block_lt_of_cell? w9 ⟨Z, j, none⟩ hzc)).trans hzc)
              have f0 := (show wb.cell? ⟨QG, 0, none⟩ = some (.slice x1 f.dr.length k1) from (HKF9.out.below HB9.out 0 (by simp)).1)
              rw [HFL.out] at f0
              clear hzc hzl hze hzr hlt
              obtain ⟨wc, Vc, Zc, Kc, Bc⟩ := lay8 wb [.int .i64 agent, .int .i64 (i : Int)] 3
              have Vc := (show wb.alloc (.cells #[.int .i64 agent, .int .i64 (i : Int)] 3) = wc from Vc)
              have HQA := Lib.hid Kc
              have HB9c := Lib.hid (below_up8 HB9.out Bc)
              go_upto_region 21 with (first | (go_at_call 26; refine (HPA.out _).mono ?_; rintro e z ⟨rfl, rfl⟩))
              clear Vc Zc Kc Bc y0 ixz f0
              have HSS := Lib.hid (show ∀ j, j < 2 → ∃ s : Int, (-9223372036854775808 ≤ s ∧ s ≤ 9223372036854775807) ∧ ∀ W, Below wc.heap.size wc W → W.cell? ⟨wb.heap.size, j, none⟩ = some (.int .i64 s) from fun j hj => by
                have hj2 : j = 0 ∨ j = 1 := by omega
                rcases hj2 with rfl | rfl
                · exact ⟨agent, ⟨HAM.out.1, HAM.out.2.1⟩, fun W b => (HQA.out.below b 0 (by simp)).1⟩
                · exact ⟨(i : Int), by have := HAM.out.2.2; omega, fun W b => (HQA.out.below b 1 (by simp)).1⟩)
              clear HQA
              generalize wb.heap.size = QA at HSS ⊢
              go_loopw [131] (fun i wr => ∃ j2 : Nat, i = .int .i64 j2 ∧ j2 ≤ 2 ∧ Hid (Below wc.heap.size wc wr)) (fun i _ => 2 - (RowKit.intOf i).toNat)
              case atStart => exact ⟨0, rfl, by decide, Lib.hid (Below.refl _ _)⟩
              case round =>
                obtain ⟨j2, rfl, hj2, HBc⟩ := hrel
                generalize wr = wd at *
                have HB9d := Lib.hid (below_up8 HB9c.out HBc.out)
                by_cases hl2 : j2 < 2
                · have hj3 : (j2 : Int) < 2 := by omega
                  have HL2 := Lib.hid hl2
                  obtain ⟨av, hab, hsc⟩ := HSS.out j2 hl2
                  have z0 := hsc wd HBc.out
                  have ixs := (show ∀ W, (Instr.indexAt 22 (.slice (some ⟨QA, 0, none⟩) 2 2) (.int .i64 (j2 : Int))).run Tryd.prog W = .ok (.pointer (some ⟨QA, j2, none⟩)) W from fun W => by have := at_int8 QA 0 2 2 j2 hl2 W; rwa [Nat.zero_add] at this)
                  obtain ⟨FV, hFV⟩ : ∃ FV, FV = fdV f zz (hs.map (·.t)) av := ⟨_, rfl⟩
                  obtain ⟨FE, hFE⟩ : ∃ FE, FE = fdE f zz (hs.map (·.t)) av := ⟨_, rfl⟩
                  have hlt9 : (hs.map (·.t)).length = hs.length := List.length_map ..
                  have HP := Lib.hid (show ∀ W, Below w9.heap.size w9 W → Calls Tryd.prog 31 #[.agg #[.slice x1 f.dr.length k1, .int .i64 f.lat, .int .i64 f.lia, .slice x2 f.sv.length k2, .slice x3 f.tm.length k3], .slice za hs.length zk, .slice a5 hs.length c5, .int .i64 av] W (FindPost W FV FE) from fun W b => by
                    have h := findP_u _ f za a5 zk c5 zz (hs.map (·.t)) av W HFT.out (by rw [HZE.out.2.1]; have := HLN.out; unfold maxLen; omega) (by rw [hlt9]; have := HLN.out; unfold maxLen; omega) (wf_evs HZE.out.1) (HRY.out _ (below_up8 HBw9.out b)) (HRG.out W (below_up8 HB49.out b)) (HZE.out.2.2 W b) (HZA.out W b).2.2
                    rw [HZE.out.2.1, hlt9, ← hFV, ← hFE] at h
                    exact h)
                  have HQ := Lib.hid (show ∀ W, Below w9.heap.size w9 W → Calls Tryd.prog 32 #[.agg #[.slice x1 f.dr.length k1, .int .i64 f.lat, .int .i64 f.lia, .slice x2 f.sv.length k2, .slice x3 f.tm.length k3], .slice za hs.length zk, .slice a5 hs.length c5, .int .i64 av] W (FindPost W FV FE) from fun W b => by
                    have h := findR_any _ f za a5 zk c5 zz (hs.map (·.t)) av HFT.out HZE.out.1 (HTB.out _ HZE.out.2.1) hab.1 hab.2 W (HRG.out W (below_up8 HB49.out b)) (HZE.out.2.2 W b) (HZA.out W b).2.2
                    rw [HZE.out.2.1, hlt9, ← hFV, ← hFE] at h
                    exact h)
                  have HFB := Lib.hid (show FV.an.length ≤ 24 from by
                    rw [hFV]
                    unfold fdV
                    split
                    · have h := anK8_len zz (hs.map (·.t)) av zz.length
                      rw [anK8_all] at h
                      have h2 := HZE.out.2.1
                      have h3 := HLN.out
                      show (fdAn zz (hs.map (·.t)) av).length ≤ 24
                      omega
                    · exact Nat.zero_le _)
                  have HKFq := Lib.hid (fun W (b : Below w9.heap.size w9 W) => HKF9.out.below b)
                  clear hFV hFE hab hsc hl2
                  have f0 := (show wd.cell? ⟨QG, 0, none⟩ = some (.slice x1 f.dr.length k1) from (HKFq.out wd HB9d.out 0 (by simp)).1)
                  have f1 := (show wd.cell? ⟨QG, 1, none⟩ = some (.int .i64 f.lat) from (HKFq.out wd HB9d.out 1 (by simp)).1)
                  have f2 := (show wd.cell? ⟨QG, 2, none⟩ = some (.int .i64 f.lia) from (HKFq.out wd HB9d.out 2 (by simp)).1)
                  have f3 := (show wd.cell? ⟨QG, 3, none⟩ = some (.slice x2 f.sv.length k2) from (HKFq.out wd HB9d.out 3 (by simp)).1)
                  have f4 := (show wd.cell? ⟨QG, 4, none⟩ = some (.slice x3 f.tm.length k3) from (HKFq.out wd HB9d.out 4 (by simp)).1)
                  go_wp2_with fail
                  refine (HP.out _ HB9d.out).mono ?_
                  rintro e we ⟨ua, uk, rfl, huk, hur, hb⟩
                  have HB9e := Lib.hid (below_up8 HB9d.out hb)
                  have HUR := Lib.hid hur.rl
                  have HBce := Lib.hid (below_up8 HBc.out hb)
                  clear hb hur f0 f1 f2 f3 f4 z0 ixs HP
                  obtain ⟨wf, Vf, Zf, Kf, Bf⟩ := lay8 we [.int .i64 FV.dr, .slice ua FV.an.length uk] 50
                  have Vf := (show we.alloc (.cells #[.int .i64 FV.dr, .slice ua FV.an.length uk] 50) = wf from Vf)
                  have HQU := Lib.hid Kf
                  have HB9f := Lib.hid (below_up8 HB9e.out Bf)
                  have HBcf := Lib.hid (below_up8 HBce.out Bf)
                  have HUR := Lib.hid (HUR.out.below Bf)
                  clear Kf Bf Zf
                  go_upto_region 24 with fail
                  clear Vf HB9e HBce
                  generalize we.heap.size = QU at HQU ⊢
                  have f0 := (show wf.cell? ⟨QG, 0, none⟩ = some (.slice x1 f.dr.length k1) from (HKFq.out wf HB9f.out 0 (by simp)).1)
                  have f1 := (show wf.cell? ⟨QG, 1, none⟩ = some (.int .i64 f.lat) from (HKFq.out wf HB9f.out 1 (by simp)).1)
                  have f2 := (show wf.cell? ⟨QG, 2, none⟩ = some (.int .i64 f.lia) from (HKFq.out wf HB9f.out 2 (by simp)).1)
                  have f3 := (show wf.cell? ⟨QG, 3, none⟩ = some (.slice x2 f.sv.length k2) from (HKFq.out wf HB9f.out 3 (by simp)).1)
                  have f4 := (show wf.cell? ⟨QG, 4, none⟩ = some (.slice x3 f.tm.length k3) from (HKFq.out wf HB9f.out 4 (by simp)).1)
                  go_wp2_with fail
                  refine (HQ.out _ HB9f.out).mono ?_
                  rintro e wg ⟨va, vk, rfl, hvk, hvr, hb⟩
                  have HB9g := Lib.hid (below_up8 HB9f.out hb)
                  have HBcg := Lib.hid (below_up8 HBcf.out hb)
                  have HVR := Lib.hid hvr.rl
                  have HQU := Lib.hid (HQU.out.below hb)
                  have HUR := Lib.hid (HUR.out.below hb)
                  clear hb hvr f0 f1 f2 f3 f4 HQ
                  obtain ⟨wh, Vh, Zh, Kh, Bh⟩ := lay8 wg [.int .i64 FV.dr, .slice va FV.an.length vk] 50
                  have Vh := (show wg.alloc (.cells #[.int .i64 FV.dr, .slice va FV.an.length vk] 50) = wh from Vh)
                  have HQV := Lib.hid Kh
                  have HBch := Lib.hid (below_up8 HBcg.out Bh)
                  have HVR := Lib.hid (HVR.out.below Bh)
                  have HQU := Lib.hid (HQU.out.below Bh)
                  have HUR := Lib.hid (HUR.out.below Bh)
                  clear Kh Bh Zh
                  go_upto_region 25 with fail
                  clear Vh HB9g HBcg HBcf HB9f
                  generalize wg.heap.size = QV at HQV ⊢
                  have hn1 : (FE != FE) = false := bne_self_eq_false _
                  have hn2 : (FV.dr != FV.dr) = false := bne_self_eq_false _
                  have hn3 : ((FV.an.length : Int) != (FV.an.length : Int)) = false := bne_self_eq_false _
                  have hn4 : (FV.an.length != FV.an.length) = false := bne_self_eq_false _
                  have v0 := (show wh.cell? ⟨QU, 0, none⟩ = some (.int .i64 FV.dr) from (HQU.out 0 (by simp)).1)
                  have v1 := (show wh.cell? ⟨QU, 1, none⟩ = some (.slice ua FV.an.length uk) from (HQU.out 1 (by simp)).1)
                  have v2 := (show wh.cell? ⟨QV, 0, none⟩ = some (.int .i64 FV.dr) from (HQV.out 0 (by simp)).1)
                  have v3 := (show wh.cell? ⟨QV, 1, none⟩ = some (.slice va FV.an.length vk) from (HQV.out 1 (by simp)).1)
                  go_wp2_with fail
                  clear hn1 hn2 hn3 hn4 v0 v1 v2 v3
                  go_loopw [34] (fun i wr => ∃ k : Nat, i = .int .i64 k ∧ k ≤ FV.an.length ∧ Hid (Below wh.heap.size wh wr)) (fun i _ => FV.an.length - (RowKit.intOf i).toNat)
                  case atStart => exact ⟨0, rfl, Nat.zero_le _, Lib.hid (Below.refl _ _)⟩
                  case round =>
                    obtain ⟨k, rfl, hk, HBh⟩ := hrel
                    generalize wr = wi at *
                    have hf24 := HFB.out
                    have v1 := (show wi.cell? ⟨QU, 1, none⟩ = some (.slice ua FV.an.length uk) from (HQU.out.below HBh.out 1 (by simp)).1)
                    by_cases hlk : k < FV.an.length
                    · have hkk : (k : Int) < (FV.an.length : Int) := by omega
                      have HLK := Lib.hid hlk
                      obtain ⟨ub, uo, eu, _, huc⟩ := HUR.out.an k hlk
                      obtain ⟨vb, vo, ev, _, hvc⟩ := HVR.out.an k hlk
                      subst eu ev
                      have ixu := fun W => at_an8 ub uo FV.an.length uk k hlk W
                      have ixv := fun W => at_an8 vb vo FV.an.length vk k hlk W
                      have HUC := Lib.hid (fun W (b : Below wi.heap.size wi W) => huc W (below_up8 HBh.out b))
                      have HVC := Lib.hid (fun W (b : Below wi.heap.size wi W) => hvc W (below_up8 HBh.out b))
                      have HQU9 := Lib.hid (fun W (b : Below wi.heap.size wi W) => HQU.out.below (below_up8 HBh.out b))
                      have HQV9 := Lib.hid (fun W (b : Below wi.heap.size wi W) => HQV.out.below (below_up8 HBh.out b))
                      have heq := fun W => eq_an8 (FV.an[k]'hlk).a (FV.an[k]'hlk).t W
                      generalize (FV.an[k]'hlk).a = ea at *
                      generalize (FV.an[k]'hlk).t = et at *
                      clear huc hvc hlk
                      go_upto_region 30 with fail
                      go_cut [187] from 177 to 187 (fun s187 wx => s187 = .bool false ∧ Hid (Below wi.heap.size wi wx))
                      case first =>
                        skip
                        have g0 := fun d os => (HUC.out _ (below_regrown wi d os)).1
                        have g1 := fun d os => (HUC.out _ (below_regrown wi d os)).2
                        have g2 := fun d os => (HVC.out _ (below_regrown wi d os)).1
                        have g3 := fun d os => (HVC.out _ (below_regrown wi d os)).2
                        have g4 := fun d os => (show (grow (redrawn wi d) os).cell? ⟨QU, 1, none⟩ = some (.slice (some ⟨ub, uo, none⟩) FV.an.length uk) from (HQU9.out _ (below_regrown wi d os) 1 (by simp)).1)
                        have g5 := fun d os => (show (grow (redrawn wi d) os).cell? ⟨QV, 1, none⟩ = some (.slice (some ⟨vb, vo, none⟩) FV.an.length vk) from (HQV9.out _ (below_regrown wi d os) 1 (by simp)).1)
                        refine wp_region_quiet_below (by kernel_rfl) (by kernel_rfl) ?_
                        repeat (first | go_big_quiet_step (fail) | quiet_step (fail))
                        refine wpQuiet_nil ?_
                        intro _ hw'
                        obtain ⟨⟨dq, osq⟩, hw''⟩ := hw'
                        subst hw''
                        go_wp2_with fail
                        go_meet
                        exact ⟨rfl, Lib.hid (below_regrown _ _ _)⟩
                      case rest =>
                        obtain ⟨rfl, HBx⟩ := hcut
                        generalize wc = wj at *
                        have HBhj := Lib.hid (below_up8 HBh.out HBx.out)
                        clear HBx heq
                        go_wp2_with fail
                        go_roundw
                        case rel => exact ⟨k + 1, by go_num, HLK.out, HBhj⟩
                        case measure => have h9 := HLK.out; simp [RowKit.intOf]; omega
                    · have hkk : ¬ (k : Int) < (FV.an.length : Int) := by omega
                      have HBci := Lib.hid (below_up8 HBch.out HBh.out)
                      clear hlk
                      go_wp2_with fail
                      go_roundw
                      case rel => exact ⟨j2 + 1, by go_num, HL2.out, HBci⟩
                      case measure => have h9 := HL2.out; simp [RowKit.intOf]; omega
                · have hj3 : ¬ (j2 : Int) < 2 := by omega
                  obtain rfl : j2 = 2 := by omega
                  clear hl2 hj2
                  go_wp2_with fail
                  go_roundw
                  case rel => exact ⟨j + 1, by go_num, HLT.out, HB9d⟩
                  case measure => have h9 := HLT.out; simp [RowKit.intOf]; omega
            · have hji : ¬ (j : Int) < 2 := by omega
              obtain rfl : j = 2 := by omega
              have HBfin := Lib.hid (below_up8 HBw9.out HB9.out)
              clear hlt hj
              go_wp2_with fail
              go_ret
              exact ⟨rfl, HBfin.out⟩
end Go.Proofs.YtamefmojocegkaaDoor
