/-
  Layer 8: ClockMatchesReference over the landed program.
-/
import Derived.Test.YtamefmojocegkaaDoorQd0
import Derived.Test.YtamefmojocegkaaDoorE06
import Derived.Test.YtamefmojocegkaaDoorE07
import Derived.Test.YtamefmojocegkaaDoorE08
import Derived.Test.YtamefmojocegkaaDoorK09
import Derived.Test.YtamefmojocegkaaDoorK10
namespace Go.Proofs.YtamefmojocegkaaDoor
open Go Go.Proofs Go.RowKit Go.Lib Go.Sort

set_option maxRecDepth 100000 in
set_option maxHeartbeats 16000000 in
theorem matches_u (g1 g2 g3 : Option Addr) (d1 d2 d3 : Nat) (fr : Fl) (hfl : fr.dr.length ≤ maxLen ∧ fr.sv.length ≤ maxLen ∧ fr.tm.length ≤ maxLen) (hfc : fr.dr.length ≤ d1 ∧ fr.sv.length ≤ d2 ∧ fr.tm.length ≤ d3)
    (ea : Option Addr) (ec : Nat) (es : List Ev) (hel : es.length ≤ maxLen) (hec : es.length ≤ ec) (hew : evsW es) (xa : Option Addr) (xc : Nat) (xs : List Int) (hxl : xs.length ≤ maxLen) (hxc : xs.length ≤ xc) (agents n : Int) (ad : Option Addr) (c : Nat) (l : List D4) (b0 b1 b2 : Int)
    (h0 : -9223372036854775808 ≤ n) (h1 : n ≤ 9223372036854775807) (hl : l.length ≤ maxLen) (hdi : ∀ d ∈ l, d.fit)
    (p0 : -9223372036854775808 ≤ b0) (p1 : b0 ≤ 9223372036854775807) (q0 : -9223372036854775808 ≤ b1) (q1 : b1 ≤ 9223372036854775807) (r0 : -9223372036854775808 ≤ b2) (r1 : b2 ≤ 9223372036854775807) (w : World) (hR : Rdy w)
    (hF : RL KI w g1 fr.dr ∧ RL KI w g2 fr.sv ∧ RL KI w g3 fr.tm) (hE : RL KE w ea es) (hX : RL KI w xa xs) (hI : RL KD w ad l) :
    Calls Tryd.prog 3 #[.agg #[.slice g1 fr.dr.length d1, .int .i64 fr.lat, .int .i64 fr.lia, .slice g2 fr.sv.length d2, .slice g3 fr.tm.length d3], .slice ea es.length ec, .slice xa xs.length xc, .int .i64 agents, .int .i64 n, .slice ad l.length c, .agg #[.int .i64 b0, .int .i64 b1, .int .i64 b2]] w fun e w' => e = .returned (.bool true) ∧ Below w.heap.size w w' := by
  have HRY := Lib.hid (fun W (b : Below w.heap.size w W) => hR.below b)
  have HII := Lib.hid (fun W (b : Below w.heap.size w W) => hI.below b)
  have HFF := Lib.hid (fun W (b : Below w.heap.size w W) => show RL KI W g1 fr.dr ∧ RL KI W g2 fr.sv ∧ RL KI W g3 fr.tm from ⟨hF.1.below b, hF.2.1.below b, hF.2.2.below b⟩)
  obtain ⟨ke, hke⟩ : ∃ ke, ke = (es.take 26).length := ⟨_, rfl⟩
  obtain ⟨kx, hkx⟩ : ∃ kx, kx = (xs.take 26).length := ⟨_, rfl⟩
  have HEE := Lib.hid (fun W (b : Below w.heap.size w W) => (hE.take8 26).below b)
  have HXX := Lib.hid (fun W (b : Below w.heap.size w W) => (hX.take8 26).below b)
  have HKE := Lib.hid (show ke = if es.length < 26 then es.length else 26 from by rw [hke, take_lenE])
  have HKX := Lib.hid (show kx = if xs.length < 26 then xs.length else 26 from by rw [hkx, take_lenE])
  have HEW := Lib.hid (show evsW (es.take 26) from fun e he => hew e (List.mem_of_mem_take he))
  have HEC := Lib.hid (And.intro hel hec)
  have HXC := Lib.hid (And.intro hxl hxc)
  have HEX := Lib.hid (fun W hW => exampleR_any n ad c l h0 h1 hl hdi W hW)
  have HLN := Lib.hid (ex_ok n l).1
  have HBT := Lib.hid (And.intro (And.intro p0 p1) (And.intro (And.intro q0 q1) (And.intro r0 r1)))
  have HTM := Lib.hid (fun h hh => ((ex_ok n l).2.1 h hh).t0)
  have HZ1 := Lib.hid (wf_evs (evs_of (ex_hs n l)))
  have HZ2 := Lib.hid (wf_evs (bent_evs n l b0 b1 b2))
  have HFW := Lib.hid (fun W (b : Below w.heap.size w W) => few_any g1 g2 g3 d1 d2 d3 fr hfl hfc.1 hfc.2.1 hfc.2.2 W (hF.1.below b) (hF.2.1.below b) (hF.2.2.below b))
  obtain ⟨FW, hFW⟩ : ∃ FW, FW = fewF fr := ⟨_, rfl⟩
  have HFIT := Lib.hid (show FW.fit from by
    rw [hFW]
    unfold fewF Fl.fit
    dsimp only
    rw [List.length_take, List.length_take, List.length_take]
    omega)
  rw [← hFW] at HFW
  generalize es.take 26 = E26 at *
  generalize xs.take 26 = X26 at *
  have HKD := Lib.hid hke
  have HXD := Lib.hid hkx
  clear hke hkx
  obtain ⟨w0, V0, Z0, K0, B0⟩ := lay8 w [.slice g1 fr.dr.length d1, .int .i64 fr.lat, .int .i64 fr.lia, .slice g2 fr.sv.length d2, .slice g3 fr.tm.length d3] 24
  have V0 := (show w.alloc (.cells #[.slice g1 fr.dr.length d1, .int .i64 fr.lat, .int .i64 fr.lia, .slice g2 fr.sv.length d2, .slice g3 fr.tm.length d3] 24) = w0 from V0)
  obtain ⟨w1, V1, Z1, K1, B1⟩ := lay8 w0 [.int .i64 b0, .int .i64 b1, .int .i64 b2] 27
  have V1 := (show w0.alloc (.cells #[.int .i64 b0, .int .i64 b1, .int .i64 b2] 27) = w1 from V1)
  rw [Z0] at Z1 K1
  have HK0 := Lib.hid (K0.below B1)
  have HK1 := Lib.hid K1
  have HB1 := Lib.hid (below_up8 B0 B1)
  have HSA1 := sane_any w1 (hR.below HB1.out)
  clear hR hI hE hX hF hdi K0 B0 K1 B1 Z1 p0 p1 q0 q1 r0 r1 hfl hfc hel hec hew hxl hxc hFW
  go_enter Tryd.func3, Tryd.ntmps3
  go_wp2_with fail
  refine HSA1.mono ?_
  rintro e w2 ⟨rfl, hb⟩
  have HB2 := Lib.hid (below_up8 HB1.out hb)
  have HK2 := Lib.hid (HK1.out.below hb)
  have c00 := (show w2.cell? ⟨w.heap.size, 0, none⟩ = some (.slice g1 fr.dr.length d1) from (HK0.out.below hb 0 (by simp)).1)
  have c01 := (show w2.cell? ⟨w.heap.size, 1, none⟩ = some (.int .i64 fr.lat) from (HK0.out.below hb 1 (by simp)).1)
  have c02 := (show w2.cell? ⟨w.heap.size, 2, none⟩ = some (.int .i64 fr.lia) from (HK0.out.below hb 2 (by simp)).1)
  have c03 := (show w2.cell? ⟨w.heap.size, 3, none⟩ = some (.slice g2 fr.sv.length d2) from (HK0.out.below hb 3 (by simp)).1)
  have c04 := (show w2.cell? ⟨w.heap.size, 4, none⟩ = some (.slice g3 fr.tm.length d3) from (HK0.out.below hb 4 (by simp)).1)
  clear hb HSA1 HK1 HK0 HB1 V0 V1
  go_wp2_with fail
  refine (HFW.out _ HB2.out).mono ?_
  rintro e w3 ⟨v, rfl, ⟨y1, u1, y2, u2, y3, u3, rfl, ry1, ry2, ry3⟩, hb⟩
  clear c00 c01 c02 c03 c04
  have HK3 := Lib.hid (HK2.out.below hb)
  have HB3 := Lib.hid (below_up8 HB2.out hb)
  have HRF := Lib.hid (show ∀ W, Below w3.heap.size w3 W → RL KI W y1 FW.dr ∧ RL KI W y2 FW.sv ∧ RL KI W y3 FW.tm from fun W b => ⟨ry1.below b, ry2.below b, ry3.below b⟩)
  obtain ⟨w4, V4, Z4, K4, B4⟩ := lay8 w3 [.slice y1 FW.dr.length u1, .int .i64 FW.lat, .int .i64 FW.lia, .slice y2 FW.sv.length u2, .slice y3 FW.tm.length u3] 24
  have V4 := (show w3.alloc (.cells #[.slice y1 FW.dr.length u1, .int .i64 FW.lat, .int .i64 FW.lia, .slice y2 FW.sv.length u2, .slice y3 FW.tm.length u3] 24) = w4 from V4)
  clear ry1 ry2 ry3 hb HK2 HB2 HFW HFF
  have HB34 := Lib.hid B4
  have HK4 := Lib.hid (HK3.out.below B4)
  have HB4 := Lib.hid (below_up8 HB3.out B4)
  have HKf := Lib.hid K4
  clear B4 Z4 K4 HK3
  go_upto_region 3 with fail
  clear V4
  generalize w3.heap.size = QF at HKf ⊢
  go_wp2_with fail
  refine (HEX.out _ (HII.out _ HB4.out)).mono ?_
  rintro e w5 ⟨x1, k1, x2, k2, x3, k3, a4, c4, a5, c5, rfl, s1, s2, s3, hn4, hn5, s4, s5, hb⟩
  have HK5 := Lib.hid (HK4.out.below hb)
  have HB5 := Lib.hid (below_up8 HB4.out hb)
  have HKf5 := Lib.hid (HKf.out.below hb)
  have HB35 := Lib.hid (below_up8 HB34.out hb)
  clear hb HB4 HK4 HEX HII HKf HB34
  obtain ⟨f, hf⟩ : ∃ f, f = fleetN n := ⟨_, rfl⟩
  have HFT := Lib.hid (show f.fit from by rw [hf]; exact fleet_fit n)
  rw [← hf] at s1 s2 s3 ⊢
  clear hf
  obtain ⟨hs, hhs⟩ : ∃ hs, hs = exN n l := ⟨_, rfl⟩
  rw [← hhs] at s4 s5 HLN HTM HZ1 HZ2 ⊢
  clear hhs
  have HRG := Lib.hid (show ∀ W, Below w5.heap.size w5 W → RL KI W x1 f.dr ∧ RL KI W x2 f.sv ∧ RL KI W x3 f.tm from fun W b => ⟨s1.rl.below b, s2.rl.below b, s3.rl.below b⟩)
  have HR := Lib.hid (show RL KE w5 a4 (hs.map (·.e)) ∧ RL KI w5 a5 (hs.map (·.t)) ∧ (a4 = none → c4 = 0) ∧ (a5 = none → c5 = 0) from ⟨s4.rl, s5.rl, hn4, hn5⟩)
  clear s1 s2 s3 s4 s5 hn4 hn5
  obtain ⟨w6, V6, Z6, K6, B6⟩ := lay8 w5 [.slice x1 f.dr.length k1, .int .i64 f.lat, .int .i64 f.lia, .slice x2 f.sv.length k2, .slice x3 f.tm.length k3] 24
  have V6 := (show w5.alloc (.cells #[.slice x1 f.dr.length k1, .int .i64 f.lat, .int .i64 f.lia, .slice x2 f.sv.length k2, .slice x3 f.tm.length k3] 24) = w6 from V6)
  have HB56 := Lib.hid B6
  have HK6 := Lib.hid (HK5.out.below B6)
  have HB6 := Lib.hid (below_up8 HB5.out B6)
  have HKf6 := Lib.hid (HKf5.out.below B6)
  have HB36 := Lib.hid (below_up8 HB35.out B6)
  have HKg6 := Lib.hid K6
  clear K6 B6 Z6 HK5 HB5 HKf5 HB35
  go_upto_region 4 with fail
  clear V6
  generalize w5.heap.size = QG at HKg6 ⊢
  have u0 := (show w6.cell? ⟨w.heap.size + 1, 0, none⟩ = some (.int .i64 b0) from (HK6.out 0 (by simp)).1)
  have u1' := (show w6.cell? ⟨w.heap.size + 1, 1, none⟩ = some (.int .i64 b1) from (HK6.out 1 (by simp)).1)
  have u2' := (show w6.cell? ⟨w.heap.size + 1, 2, none⟩ = some (.int .i64 b2) from (HK6.out 2 (by simp)).1)
  have hlm : (hs.map (·.e)).length = hs.length := List.length_map ..
  have HBE := Lib.hid (show Calls Tryd.prog 13 #[.slice a4 hs.length c4, .int .i64 b0, .int .i64 b1, .int .i64 b2] w6 (fun e w' => ∃ zad zc, e = .returned (.slice zad hs.length zc) ∧ RL KE w' zad (bentN (hs.map (·.e)) b0 b1 b2) ∧ Below w6.heap.size w6 w') from by
    have h := bentR_any a4 c4 (hs.map (·.e)) b0 b1 b2 (by rw [hlm]; have := HLN.out; omega) HR.out.2.2.1 HBT.out.1.1 HBT.out.1.2 HBT.out.2.1.1 HBT.out.2.1.2 HBT.out.2.2.1 HBT.out.2.2.2 (fun e he => by
      obtain ⟨h, hh, rfl⟩ := List.mem_map.1 he
      have := HTM.out h hh
      omega) w6 (HR.out.1.below HB56.out)
    rw [hlm] at h
    refine h.mono fun e w' h => ?_
    obtain ⟨zad, zc, e1, _, _, e4, e5⟩ := h
    rw [bent_len, hlm] at e1
    exact ⟨zad, zc, e1, e4.rl, e5⟩)
  go_wp2_with fail
  refine HBE.out.mono ?_
  rintro e w7 ⟨zad, zc, rfl, hz6, hb⟩
  have HZR := Lib.hid hz6
  have HB57 := Lib.hid (below_up8 HB56.out hb)
  have HB7 := Lib.hid (below_up8 HB6.out hb)
  have HKf7 := Lib.hid (HKf6.out.below hb)
  have HKg7 := Lib.hid (HKg6.out.below hb)
  have HB37 := Lib.hid (below_up8 HB36.out hb)
  clear u0 u1' u2' hz6 hb HBE HB56 HB6 HKf6 HKg6 HK6 HB36 HTM HBT
  go_upto_region 5 with fail
  go_cut [1] from 50 to 54 (fun s1 wx => s1 = .slice ea ke ec ∧ wx = w7)
  case first =>
    have hec := HEC.out.2
    by_cases h6 : es.length ≤ 26
    · have e : ke = es.length := by rw [HKE.out]; split <;> omega
      have hi1 : (es.length : Int) ≤ 26 := by omega
      have hsl := (show ∀ W, (Instr.slice 25 (.slice ea es.length ec) none (some (.int .i64 (es.length : Int))) none).run Tryd.prog W = .ok (.slice ea es.length ec) W from fun W => KE.to8 ea es.length ec es.length hec W)
      go_wp2_with fail
      all_goals (go_meet)
      all_goals (exact ⟨by rw [e], rfl⟩)
    · have e : ke = 26 := by rw [HKE.out]; split <;> omega
      have hi1 : ¬ (es.length : Int) ≤ 26 := by omega
      have hsl := (show ∀ W, (Instr.slice 25 (.slice ea es.length ec) none (some (.int .i64 26)) none).run Tryd.prog W = .ok (.slice ea 26 ec) W from fun W => KE.to8 ea es.length ec 26 (by omega) W)
      go_wp2_with fail
      all_goals (go_meet)
      all_goals (exact ⟨by rw [e], rfl⟩)
  case rest =>
    obtain ⟨rfl, rfl⟩ := hcut
    skip
    have HKE26 := Lib.hid (show ke ≤ 26 from by rw [HKE.out]; split <;> omega)
    have HKX26 := Lib.hid (show kx ≤ 26 from by rw [HKX.out]; split <;> omega)
    have m0 := (show wc.cell? ⟨QF, 0, none⟩ = some (.slice y1 FW.dr.length u1) from (HKf7.out 0 (by simp)).1)
    have m1 := (show wc.cell? ⟨QF, 1, none⟩ = some (.int .i64 FW.lat) from (HKf7.out 1 (by simp)).1)
    have m2 := (show wc.cell? ⟨QF, 2, none⟩ = some (.int .i64 FW.lia) from (HKf7.out 2 (by simp)).1)
    have m3 := (show wc.cell? ⟨QF, 3, none⟩ = some (.slice y2 FW.sv.length u2) from (HKf7.out 3 (by simp)).1)
    have m4 := (show wc.cell? ⟨QF, 4, none⟩ = some (.slice y3 FW.tm.length u3) from (HKf7.out 4 (by simp)).1)
    have n0 := (show wc.cell? ⟨QG, 0, none⟩ = some (.slice x1 f.dr.length k1) from (HKg7.out 0 (by simp)).1)
    have n1 := (show wc.cell? ⟨QG, 1, none⟩ = some (.int .i64 f.lat) from (HKg7.out 1 (by simp)).1)
    have n2 := (show wc.cell? ⟨QG, 2, none⟩ = some (.int .i64 f.lia) from (HKg7.out 2 (by simp)).1)
    have n3 := (show wc.cell? ⟨QG, 3, none⟩ = some (.slice x2 f.sv.length k2) from (HKg7.out 3 (by simp)).1)
    have n4 := (show wc.cell? ⟨QG, 4, none⟩ = some (.slice x3 f.tm.length k3) from (HKg7.out 4 (by simp)).1)
    generalize wc = w7 at *
    obtain ⟨w8, V8, Z8, K8, B8⟩ := lay8 w7 [.slice y1 FW.dr.length u1, .int .i64 FW.lat, .int .i64 FW.lia, .slice y2 FW.sv.length u2, .slice y3 FW.tm.length u3, .slice x1 f.dr.length k1, .int .i64 f.lat, .int .i64 f.lia, .slice x2 f.sv.length k2, .slice x3 f.tm.length k3] 24
    have V8 := (show w7.alloc (.cells #[.slice y1 FW.dr.length u1, .int .i64 FW.lat, .int .i64 FW.lia, .slice y2 FW.sv.length u2, .slice y3 FW.tm.length u3, .slice x1 f.dr.length k1, .int .i64 f.lat, .int .i64 f.lia, .slice x2 f.sv.length k2, .slice x3 f.tm.length k3] 24) = w8 from V8)
    have HK8 := Lib.hid K8
    have HB58 := Lib.hid (below_up8 HB57.out B8)
    have HB38 := Lib.hid (below_up8 HB37.out B8)
    have HB8 := Lib.hid (below_up8 HB7.out B8)
    have HZR8 := Lib.hid (HZR.out.below B8)
    go_wp2_with fail
    clear V8 m0 m1 m2 m3 m4 n0 n1 n2 n3 n4 K8 B8 Z8 HKf7 HKg7 HB57 HB37 HB7 HZR
    generalize w7.heap.size = QH at HK8 ⊢
    have HYY := Lib.hid (show ∀ j, j < 2 → ∃ (y : Fl) (o1 o2 o3 : Option Addr) (k1 k2 k3 : Nat), y.fit ∧ (∀ W, Below w8.heap.size w8 W → RL KI W o1 y.dr ∧ RL KI W o2 y.sv ∧ RL KI W o3 y.tm) ∧ (∀ W, Below w8.heap.size w8 W → W.cell? ⟨QH, 5 * j, none⟩ = some (.slice o1 y.dr.length k1) ∧ W.cell? ⟨QH, 5 * j + 1, none⟩ = some (.int .i64 y.lat) ∧ W.cell? ⟨QH, 5 * j + 2, none⟩ = some (.int .i64 y.lia) ∧ W.cell? ⟨QH, 5 * j + 3, none⟩ = some (.slice o2 y.sv.length k2) ∧ W.cell? ⟨QH, 5 * j + 4, none⟩ = some (.slice o3 y.tm.length k3)) from fun j hj => by
      have hj2 : j = 0 ∨ j = 1 := by omega
      rcases hj2 with rfl | rfl
      · exact ⟨FW, y1, y2, y3, u1, u2, u3, HFIT.out, fun W b => HRF.out W (below_up8 HB38.out b), fun W b => ⟨(HK8.out.below b 0 (by simp)).1, (HK8.out.below b 1 (by simp)).1, (HK8.out.below b 2 (by simp)).1, (HK8.out.below b 3 (by simp)).1, (HK8.out.below b 4 (by simp)).1⟩⟩
      · exact ⟨f, x1, x2, x3, k1, k2, k3, HFT.out, fun W b => HRG.out W (below_up8 HB58.out b), fun W b => ⟨(HK8.out.below b 5 (by simp)).1, (HK8.out.below b 6 (by simp)).1, (HK8.out.below b 7 (by simp)).1, (HK8.out.below b 8 (by simp)).1, (HK8.out.below b 9 (by simp)).1⟩⟩)
    have HE8 := Lib.hid (show RL KE w8 ea E26 ∧ RL KE w8 a4 (hs.map (·.e)) ∧ RL KE w8 zad (bentN (hs.map (·.e)) b0 b1 b2) ∧ RL KI w8 xa X26 ∧ RL KI w8 a5 (hs.map (·.t)) from ⟨HEE.out _ HB8.out, HR.out.1.below HB58.out, HZR8.out, HXX.out _ HB8.out, HR.out.2.1.below HB58.out⟩)
    clear HFIT HRF HRG HFT HK8 HEE HXX HR HZR8 HB38 HB58
    go_loopw [59] (fun i wr => ∃ j : Nat, i = .int .i64 j ∧ j ≤ 2 ∧ Hid (Below w8.heap.size w8 wr)) (fun i _ => 2 - (RowKit.intOf i).toNat)
    case atStart => exact ⟨0, rfl, by decide, Lib.hid (Below.refl _ _)⟩
    case round =>
      obtain ⟨j, rfl, hj, HB⟩ := hrel
      generalize wr = wa at *
      have HBwa := Lib.hid (show Below w.heap.size w wa from below_up8 HB8.out HB.out)
      by_cases hlt : j < 2
      · have hji : (j : Int) < 2 := by omega
        have HLT := Lib.hid hlt
        obtain ⟨y, o1, o2, o3, t1, t2, t3, hyf, hyr, hyc⟩ := HYY.out j hlt
        obtain ⟨f0, f1, f2, f3, f4⟩ := hyc wa HB.out
        have ixy := fun W => at_fl8 QH 2 2 j hlt W
        have HYF := Lib.hid hyf
        have HYR := Lib.hid hyr
        obtain ⟨wb, Vb, Zb, Kb, Bb⟩ := lay8 wa [.slice o1 y.dr.length t1, .int .i64 y.lat, .int .i64 y.lia, .slice o2 y.sv.length t2, .slice o3 y.tm.length t3] 24
        have Vb := (show wa.alloc (.cells #[.slice o1 y.dr.length t1, .int .i64 y.lat, .int .i64 y.lia, .slice o2 y.sv.length t2, .slice o3 y.tm.length t3] 24) = wb from Vb)
        have HQY := Lib.hid Kb
        have HB8b := Lib.hid (below_up8 HB.out Bb)
        have HBwb := Lib.hid (below_up8 HBwa.out Bb)
        have HFL := Lib.hid (show ∀ W, Below wb.heap.size wb W → FlAt W (.agg #[.slice o1 y.dr.length t1, .int .i64 y.lat, .int .i64 y.lia, .slice o2 y.sv.length t2, .slice o3 y.tm.length t3]) y from fun W b => ⟨o1, t1, o2, t2, o3, t3, rfl, (hyr W (below_up8 HB8b.out b)).1, (hyr W (below_up8 HB8b.out b)).2.1, (hyr W (below_up8 HB8b.out b)).2.2⟩)
        clear hyf hyr hyc hlt Kb Bb Zb
        go_upto_region 9 with fail
        clear Vb f0 f1 f2 f3 f4 ixy
        generalize wa.heap.size = QY at HQY ⊢
        have HV1 := Lib.hid (show ∀ W, Below wb.heap.size wb W → Calls Tryd.prog 14 #[.agg #[.slice o1 y.dr.length t1, .int .i64 y.lat, .int .i64 y.lia, .slice o2 y.sv.length t2, .slice o3 y.tm.length t3]] W (fun e w' => e = .returned (.bool (flB y)) ∧ Below W.heap.size W w') from fun W b => valid_u _ y W HYF.out (HFL.out W b))
        have HV2 := Lib.hid (show ∀ W, Below wb.heap.size wb W → Calls Tryd.prog 15 #[.agg #[.slice o1 y.dr.length t1, .int .i64 y.lat, .int .i64 y.lia, .slice o2 y.sv.length t2, .slice o3 y.tm.length t3]] W (fun e w' => e = .returned (.bool (flB y)) ∧ Below W.heap.size W w') from fun W b => validR_any _ y HYF.out W (HFL.out W b))
        obtain ⟨FB, hFB⟩ : ∃ FB, FB = flB y := ⟨_, rfl⟩
        rw [← hFB] at HV1 HV2
        have hne : (FB != FB) = false := by cases FB <;> rfl
        clear hFB
        go_upto_region 9 with fail
        go_cut [67] from 63 to 67 (fun s67 wx => s67 = .bool false ∧ Hid (Below wb.heap.size wb wx))
        case first =>
          skip
          have q0 := fun d os => (show (grow (redrawn wb d) os).cell? ⟨QY, 0, none⟩ = some (.slice o1 y.dr.length t1) from (HQY.out.below (below_regrown wb d os) 0 (by simp)).1)
          have q1 := fun d os => (show (grow (redrawn wb d) os).cell? ⟨QY, 1, none⟩ = some (.int .i64 y.lat) from (HQY.out.below (below_regrown wb d os) 1 (by simp)).1)
          have q2 := fun d os => (show (grow (redrawn wb d) os).cell? ⟨QY, 2, none⟩ = some (.int .i64 y.lia) from (HQY.out.below (below_regrown wb d os) 2 (by simp)).1)
          have q3 := fun d os => (show (grow (redrawn wb d) os).cell? ⟨QY, 3, none⟩ = some (.slice o2 y.sv.length t2) from (HQY.out.below (below_regrown wb d os) 3 (by simp)).1)
          have q4 := fun d os => (show (grow (redrawn wb d) os).cell? ⟨QY, 4, none⟩ = some (.slice o3 y.tm.length t3) from (HQY.out.below (below_regrown wb d os) 4 (by simp)).1)
          refine wp_region_quiet_below (by kernel_rfl) (by kernel_rfl) ?_
          repeat (first | go_big_quiet_step ((first | fail | (go_at_call 14; exact Calls.regrown_of (HV1.out _ (below_regrown _ _ _))) | (go_at_call 15; exact Calls.regrown_of (HV2.out _ (below_regrown _ _ _))))) | quiet_step ((first | fail | (go_at_call 14; exact Calls.regrown_of (HV1.out _ (below_regrown _ _ _))) | (go_at_call 15; exact Calls.regrown_of (HV2.out _ (below_regrown _ _ _))))))
          refine wpQuiet_nil ?_
          intro _ hw'
          obtain ⟨⟨dq, osq⟩, hw''⟩ := hw'
          subst hw''
          go_wp2_with fail
          go_meet
          exact ⟨rfl, Lib.hid (below_regrown _ _ _)⟩
        case rest =>
          obtain ⟨rfl, HBx⟩ := hcut
          generalize wc = wd at *
          have HBbd := HBx
          have HB8d := Lib.hid (below_up8 HB8b.out HBx.out)
          clear HBx hne HV1 HV2
          obtain ⟨we, Ve, Ze, Ke, Be⟩ := lay8 wd [.slice ea ke ec, .slice a4 hs.length c4, .slice zad hs.length zc] 25
          have Ve := (show wd.alloc (.cells #[.slice ea ke ec, .slice a4 hs.length c4, .slice zad hs.length zc] 25) = we from Ve)
          have HKe := Lib.hid Ke
          have HBbe := Lib.hid (below_up8 HBbd.out Be)
          have HB8e := Lib.hid (below_up8 HB8d.out Be)
          have HBwe := Lib.hid (below_up8 HB8.out HB8e.out)
          clear Ke Be Ze HBbd HB8d
          go_wp2_with fail
          clear Ve
          generalize wd.heap.size = QE at HKe ⊢
          have HZZ := Lib.hid (show ∀ j, j < 3 → ∃ (zz : List Ev) (za : Option Addr) (zl zk : Nat), (∀ W, Below we.heap.size we W → W.cell? ⟨QE, j, none⟩ = some (.slice za zl zk)) ∧ zz.length = zl ∧ zl ≤ 26 ∧ evsW zz ∧ ∀ W, Below w8.heap.size w8 W → RL KE W za zz from fun j hj => by
            have hj2 : j = 0 ∨ j = 1 ∨ j = 2 := by omega
            have hn := HLN.out
            rcases hj2 with rfl | rfl | rfl
            · exact ⟨E26, ea, ke, ec, fun W b => (HKe.out.below b 0 (by simp)).1, HKD.out.symm, HKE26.out, HEW.out, fun W b => HE8.out.1.below b⟩
            · exact ⟨hs.map (·.e), a4, hs.length, c4, fun W b => (HKe.out.below b 1 (by simp)).1, hlm, by omega, HZ1.out, fun W b => HE8.out.2.1.below b⟩
            · exact ⟨bentN (hs.map (·.e)) b0 b1 b2, zad, hs.length, zc, fun W b => (HKe.out.below b 2 (by simp)).1, by rw [bent_len, hlm], by omega, HZ2.out, fun W b => HE8.out.2.2.1.below b⟩)
          go_loopw [73] (fun i wr => ∃ j2 : Nat, i = .int .i64 j2 ∧ j2 ≤ 3 ∧ Hid (Below we.heap.size we wr)) (fun i _ => 3 - (RowKit.intOf i).toNat)
          case atStart => exact ⟨0, rfl, by decide, Lib.hid (Below.refl _ _)⟩
          case round =>
            obtain ⟨j2, rfl, hj2, HBe⟩ := hrel
            generalize wr = wf at *
            have HBbf := Lib.hid (below_up8 HBbe.out HBe.out)
            have HB8f := Lib.hid (below_up8 HB8e.out HBe.out)
            by_cases hl3 : j2 < 3
            · have hj3 : (j2 : Int) < 3 := by omega
              have HL3 := Lib.hid hl3
              obtain ⟨zz, za, zl, zk, hzc, hzl, hz26, hzw, hzr⟩ := HZZ.out j2 hl3
              have z0 := hzc wf HBe.out
              have ixz := fun W => at_z8 QE 3 3 j2 hl3 W
              subst hzl
              have HZW := Lib.hid (And.intro hz26 (And.intro hzw hzr))
              have HYW := Lib.hid (fun W (b : Below w8.heap.size w8 W) => HRY.out W (below_up8 HB8.out b))
              have HC1 := Lib.hid (show ∀ W, Below wb.heap.size wb W → Calls Tryd.prog 16 #[.agg #[.slice o1 y.dr.length t1, .int .i64 y.lat, .int .i64 y.lia, .slice o2 y.sv.length t2, .slice o3 y.tm.length t3], .slice za zz.length zk] W (ConPost W (conL y zz) (conE y zz)) from fun W b => consP_u _ y za zk zz W HYF.out (by unfold maxLen; omega) hzw (HYW.out W (below_up8 HB8b.out b)) (HFL.out W b) (hzr W (below_up8 HB8b.out b)))
              have HC2 := Lib.hid (show ∀ W, Below wb.heap.size wb W → Calls Tryd.prog 17 #[.agg #[.slice o1 y.dr.length t1, .int .i64 y.lat, .int .i64 y.lia, .slice o2 y.sv.length t2, .slice o3 y.tm.length t3], .slice za zz.length zk] W (ConPost W (conL y zz) (conE y zz)) from fun W b => constraintsR_any _ y za zk zz HYF.out (by unfold maxLen; omega) W (HFL.out W b) (hzr W (below_up8 HB8b.out b)))
              have HV1 := Lib.hid (show ∀ W, Below wb.heap.size wb W → Calls Tryd.prog 18 #[.agg #[.slice o1 y.dr.length t1, .int .i64 y.lat, .int .i64 y.lia, .slice o2 y.sv.length t2, .slice o3 y.tm.length t3], .slice za zz.length zk] W (fun e w' => e = .returned (.bool (evsB y zz)) ∧ Below W.heap.size W w') from fun W b => events_u _ y za zk zz HYF.out (by unfold maxLen; omega) hzw W (HYW.out W (below_up8 HB8b.out b)) (HFL.out W b) (hzr W (below_up8 HB8b.out b)))
              have HV2 := Lib.hid (show ∀ W, Below wb.heap.size wb W → Calls Tryd.prog 19 #[.agg #[.slice o1 y.dr.length t1, .int .i64 y.lat, .int .i64 y.lia, .slice o2 y.sv.length t2, .slice o3 y.tm.length t3], .slice za zz.length zk] W (fun e w' => e = .returned (.bool (evsB y zz)) ∧ Below W.heap.size W w') from fun W b => eventsR_any _ y za zk zz HYF.out (by unfold maxLen; omega) W (HFL.out W b) (hzr W (below_up8 HB8b.out b)))
              have HCL := Lib.hid (show (conL y zz).length ≤ 100000 from by
                have h := conN_le y zz zz.length
                have h5 : zz.length * zz.length ≤ 26 * 26 := Nat.mul_le_mul hz26 hz26
                have h6 : 3 * zz.length * zz.length = 3 * (zz.length * zz.length) := Nat.mul_assoc _ _ _
                unfold conL
                split
                · omega
                · simp)
              obtain ⟨CLS, hCLS⟩ : ∃ CLS, CLS = conL y zz := ⟨_, rfl⟩
              obtain ⟨CER, hCER⟩ : ∃ CER, CER = conE y zz := ⟨_, rfl⟩
              obtain ⟨EB, hEB⟩ : ∃ EB, EB = evsB y zz := ⟨_, rfl⟩
              rw [← hCLS, ← hCER] at HC1 HC2
              rw [← hEB] at HV1 HV2
              rw [← hCLS] at HCL
              clear hCLS hCER hEB hzc hz26 hzw hzr hl3
              have q0 := (show wf.cell? ⟨QY, 0, none⟩ = some (.slice o1 y.dr.length t1) from (HQY.out.below HBbf.out 0 (by simp)).1)
              have q1 := (show wf.cell? ⟨QY, 1, none⟩ = some (.int .i64 y.lat) from (HQY.out.below HBbf.out 1 (by simp)).1)
              have q2 := (show wf.cell? ⟨QY, 2, none⟩ = some (.int .i64 y.lia) from (HQY.out.below HBbf.out 2 (by simp)).1)
              have q3 := (show wf.cell? ⟨QY, 3, none⟩ = some (.slice o2 y.sv.length t2) from (HQY.out.below HBbf.out 3 (by simp)).1)
              have q4 := (show wf.cell? ⟨QY, 4, none⟩ = some (.slice o3 y.tm.length t3) from (HQY.out.below HBbf.out 4 (by simp)).1)
              go_wp2_with fail
              refine (HC1.out _ HBbf.out).mono ?_
              rintro e wg ⟨ca1, cc1, rfl, hlc1, hrc1, hb⟩
              have HBbg := Lib.hid (below_up8 HBbf.out hb)
              have HB8g := Lib.hid (below_up8 HB8f.out hb)
              have HBeg := Lib.hid (below_up8 HBe.out hb)
              have HR1 := Lib.hid hrc1.rl
              clear q0 q1 q2 q3 q4 z0 ixz hb hrc1
              have q0 := (show wg.cell? ⟨QY, 0, none⟩ = some (.slice o1 y.dr.length t1) from (HQY.out.below HBbg.out 0 (by simp)).1)
              have q1 := (show wg.cell? ⟨QY, 1, none⟩ = some (.int .i64 y.lat) from (HQY.out.below HBbg.out 1 (by simp)).1)
              have q2 := (show wg.cell? ⟨QY, 2, none⟩ = some (.int .i64 y.lia) from (HQY.out.below HBbg.out 2 (by simp)).1)
              have q3 := (show wg.cell? ⟨QY, 3, none⟩ = some (.slice o2 y.sv.length t2) from (HQY.out.below HBbg.out 3 (by simp)).1)
              have q4 := (show wg.cell? ⟨QY, 4, none⟩ = some (.slice o3 y.tm.length t3) from (HQY.out.below HBbg.out 4 (by simp)).1)
              go_wp2_with fail
              refine (HC2.out _ HBbg.out).mono ?_
              rintro e wh ⟨ca2, cc2, rfl, hlc2, hrc2, hb⟩
              have HBbh := Lib.hid (below_up8 HBbg.out hb)
              have HB8h := Lib.hid (below_up8 HB8g.out hb)
              have HBeh := Lib.hid (below_up8 HBeg.out hb)
              have HR2 := Lib.hid (And.intro (HR1.out.below hb) hrc2.rl)
              clear q0 q1 q2 q3 q4 hb hrc2 HR1 HC1 HC2 HBbg HB8g HBeg
              have HSM := Lib.hid (show ∀ W, Below wh.heap.size wh W → Calls Tryd.prog 20 #[.slice ca1 CLS.length cc1, .slice ca2 CLS.length cc2] W (fun e w' => e = .returned (.bool true) ∧ Below W.heap.size W w') from fun W b => by
                have h := same_any ca1 ca2 cc1 cc2 CLS CLS (by have := HCL.out; unfold maxLen; omega) W (HR2.out.1.below b) (HR2.out.2.below b)
                rw [decide_eq_true (rfl : CLS = CLS)] at h
                exact h)
              have hne : (EB != EB) = false := by cases EB <;> rfl
              have hne2 : (CER != CER) = false := bne_self_eq_false _
              have hne3 : (CER == CER) = true := beq_self_eq_true _
              clear hlc1 hlc2
              go_upto_region 16 with fail
              go_cut [106] from 89 to 106 (fun s106 wx => s106 = .bool false ∧ Hid (Below wh.heap.size wh wx))
              case first =>
                skip
                have q0 := fun d os => (show (grow (redrawn wh d) os).cell? ⟨QY, 0, none⟩ = some (.slice o1 y.dr.length t1) from (HQY.out.below (below_up8 HBbh.out (below_regrown wh d os)) 0 (by simp)).1)
                have q1 := fun d os => (show (grow (redrawn wh d) os).cell? ⟨QY, 1, none⟩ = some (.int .i64 y.lat) from (HQY.out.below (below_up8 HBbh.out (below_regrown wh d os)) 1 (by simp)).1)
                have q2 := fun d os => (show (grow (redrawn wh d) os).cell? ⟨QY, 2, none⟩ = some (.int .i64 y.lia) from (HQY.out.below (below_up8 HBbh.out (below_regrown wh d os)) 2 (by simp)).1)
                have q3 := fun d os => (show (grow (redrawn wh d) os).cell? ⟨QY, 3, none⟩ = some (.slice o2 y.sv.length t2) from (HQY.out.below (below_up8 HBbh.out (below_regrown wh d os)) 3 (by simp)).1)
                have q4 := fun d os => (show (grow (redrawn wh d) os).cell? ⟨QY, 4, none⟩ = some (.slice o3 y.tm.length t3) from (HQY.out.below (below_up8 HBbh.out (below_regrown wh d os)) 4 (by simp)).1)
                refine wp_region_quiet_below (by kernel_rfl) (by kernel_rfl) ?_
                repeat (first | go_big_quiet_step ((first | fail | (go_at_call 18; exact Calls.regrown_of (HV1.out _ (below_up8 HBbh.out (below_regrown _ _ _)))) | (go_at_call 19; exact Calls.regrown_of (HV2.out _ (below_up8 HBbh.out (below_regrown _ _ _)))) | (go_at_call 20; exact Calls.regrown_of (HSM.out _ (below_regrown _ _ _))))) | quiet_step ((first | fail | (go_at_call 18; exact Calls.regrown_of (HV1.out _ (below_up8 HBbh.out (below_regrown _ _ _)))) | (go_at_call 19; exact Calls.regrown_of (HV2.out _ (below_up8 HBbh.out (below_regrown _ _ _)))) | (go_at_call 20; exact Calls.regrown_of (HSM.out _ (below_regrown _ _ _))))))
                refine wpQuiet_nil ?_
                intro _ hw'
                obtain ⟨⟨dq, osq⟩, hw''⟩ := hw'
                subst hw''
                go_wp2_with fail
                go_meet
                exact ⟨rfl, Lib.hid (below_regrown _ _ _)⟩
              case rest =>
                obtain ⟨rfl, HBx⟩ := hcut
                generalize wc = wi at *
                have HBbi := Lib.hid (below_up8 HBbh.out HBx.out)
                have HB8i := Lib.hid (below_up8 HB8h.out HBx.out)
                have HBei := Lib.hid (below_up8 HBeh.out HBx.out)
                clear HBx hne hne2 hne3 HV1 HV2 HSM HR2 HBbh HB8h HBeh
                obtain ⟨wj, Vj, Zj, Kj, Bj⟩ := lay8 wi [.slice xa kx xc, .slice a5 hs.length c5] 22
                have Vj := (show wi.alloc (.cells #[.slice xa kx xc, .slice a5 hs.length c5] 22) = wj from Vj)
                have HKj := Lib.hid Kj
                have HBbj := Lib.hid (below_up8 HBbi.out Bj)
                have HB8j := Lib.hid (below_up8 HB8i.out Bj)
                have HBej := Lib.hid (below_up8 HBei.out Bj)
                clear Kj Bj Zj HBbi HB8i HBei
                go_upto_region 18 with fail
                go_cut [113, 114, 115] from 107 to 115 (fun s113 s114 s115 wx => s113 = .slice (some ⟨wi.heap.size, 0, none⟩) 2 2 ∧ s114 = .int .i64 2 ∧ s115 = .int .i64 0 ∧ wx = wj)
                case first =>
                  have hxc := HXC.out.2
                  by_cases h6 : xs.length ≤ 26
                  · have e : kx = xs.length := by rw [HKX.out]; split <;> omega
                    rw [e] at Vj
                    have hi1 : (xs.length : Int) ≤ 26 := by omega
                    have hsl := (show ∀ W, (Instr.slice 22 (.slice xa xs.length xc) none (some (.int .i64 (xs.length : Int))) none).run Tryd.prog W = .ok (.slice xa xs.length xc) W from fun W => KI.to8 xa xs.length xc xs.length hxc W)
                    clear e
                    go_wp2_with fail
                    all_goals (go_meet)
                    all_goals (exact ⟨rfl, rfl, rfl, rfl⟩)
                  · have e : kx = 26 := by rw [HKX.out]; split <;> omega
                    rw [e] at Vj
                    have hi1 : ¬ (xs.length : Int) ≤ 26 := by omega
                    have hsl := (show ∀ W, (Instr.slice 22 (.slice xa xs.length xc) none (some (.int .i64 26)) none).run Tryd.prog W = .ok (.slice xa 26 xc) W from fun W => KI.to8 xa xs.length xc 26 (by omega) W)
                    clear e
                    go_wp2_with fail
                    all_goals (go_meet)
                    all_goals (exact ⟨rfl, rfl, rfl, rfl⟩)
                case rest =>
                  obtain ⟨rfl, rfl, rfl, rfl⟩ := hcut
                  generalize wc = wj at *
                  go_wp2_with fail
                  clear Vj
                  generalize wi.heap.size = QX at HKj ⊢
                  have HTT := Lib.hid (show ∀ j, j < 2 → ∃ (tt : List Int) (ta : Option Addr) (tl tk : Nat), (∀ W, Below wj.heap.size wj W → W.cell? ⟨QX, j, none⟩ = some (.slice ta tl tk)) ∧ tt.length = tl ∧ tl ≤ 26 ∧ ∀ W, Below w8.heap.size w8 W → RL KI W ta tt from fun j hj => by
                    have hj2 : j = 0 ∨ j = 1 := by omega
                    have hn := HLN.out
                    rcases hj2 with rfl | rfl
                    · exact ⟨X26, xa, kx, xc, fun W b => (HKj.out.below b 0 (by simp)).1, HXD.out.symm, HKX26.out, fun W b => HE8.out.2.2.2.1.below b⟩
                    · exact ⟨hs.map (·.t), a5, hs.length, c5, fun W b => (HKj.out.below b 1 (by simp)).1, List.length_map .., by omega, fun W b => HE8.out.2.2.2.2.below b⟩)
                  go_loopw [115] (fun i wr => ∃ j3 : Nat, i = .int .i64 j3 ∧ j3 ≤ 2 ∧ Hid (Below wj.heap.size wj wr)) (fun i _ => 2 - (RowKit.intOf i).toNat)
                  case atStart => exact ⟨0, rfl, by decide, Lib.hid (Below.refl _ _)⟩
                  case round =>
                    obtain ⟨j3, rfl, hj4, HBj⟩ := hrel
                    generalize wr = wk at *
                    have HBbk := Lib.hid (below_up8 HBbj.out HBj.out)
                    have HB8k := Lib.hid (below_up8 HB8j.out HBj.out)
                    have HBek := Lib.hid (below_up8 HBej.out HBj.out)
                    by_cases hl4 : j3 < 2
                    · have hj5 : (j3 : Int) < 2 := by omega
                      have HL4 := Lib.hid hl4
                      obtain ⟨tt, ta, tl, tk, htc, htl, ht26, htr⟩ := HTT.out j3 hl4
                      have t0 := htc wk HBj.out
                      have ixt := fun W => at_y8 QX 2 2 j3 hl4 W
                      subst htl
                      obtain ⟨gv, hgv⟩ : ∃ gv : Int → Bool, gv = agB y zz tt := ⟨_, rfl⟩
                      have HP := Lib.hid (show ∀ (m : Int) W, Below wb.heap.size wb W → Calls Tryd.prog 21 #[.agg #[.slice o1 y.dr.length t1, .int .i64 y.lat, .int .i64 y.lia, .slice o2 y.sv.length t2, .slice o3 y.tm.length t3], .slice za zz.length zk, .slice ta tt.length tk, .int .i64 m] W (fun e w' => e = .returned (.bool (agB y zz tt m)) ∧ Below W.heap.size W w') from fun m W b => agreesP_u _ y za ta zk tk zz tt m W HYF.out (by have := HZW.out.1; unfold maxLen; omega) (by unfold maxLen; omega) HZW.out.2.1 (HYW.out W (below_up8 HB8b.out b)) (HFL.out W b) (HZW.out.2.2 W (below_up8 HB8b.out b)) (htr W (below_up8 HB8b.out b)))
                      have HQ := Lib.hid (show ∀ (m : Int) W, Below wb.heap.size wb W → Calls Tryd.prog 22 #[.agg #[.slice o1 y.dr.length t1, .int .i64 y.lat, .int .i64 y.lia, .slice o2 y.sv.length t2, .slice o3 y.tm.length t3], .slice za zz.length zk, .slice ta tt.length tk, .int .i64 m] W (fun e w' => e = .returned (.bool (agB y zz tt m)) ∧ Below W.heap.size W w') from fun m W b => agreesR_any _ y za ta zk tk zz tt m HYF.out (by have := HZW.out.1; unfold maxLen; omega) (by unfold maxLen; omega) W (HFL.out W b) (HZW.out.2.2 W (below_up8 HB8b.out b)) (htr W (below_up8 HB8b.out b)))
                      rw [← hgv] at HP HQ
                      have hn1 : (gv agents != gv agents) = false := by cases gv agents <;> rfl
                      have hn2 : (gv 63 != gv 63) = false := by cases gv 63 <;> rfl
                      clear hgv htc ht26 htr hl4
                      go_upto_region 21 with fail
                      go_cut [140] from 119 to 140 (fun s140 wx => s140 = .bool false ∧ Hid (Below wk.heap.size wk wx))
                      case first =>
                        skip
                        have q0 := fun d os => (show (grow (redrawn wk d) os).cell? ⟨QY, 0, none⟩ = some (.slice o1 y.dr.length t1) from (HQY.out.below (below_up8 HBbk.out (below_regrown wk d os)) 0 (by simp)).1)
                        have q1 := fun d os => (show (grow (redrawn wk d) os).cell? ⟨QY, 1, none⟩ = some (.int .i64 y.lat) from (HQY.out.below (below_up8 HBbk.out (below_regrown wk d os)) 1 (by simp)).1)
                        have q2 := fun d os => (show (grow (redrawn wk d) os).cell? ⟨QY, 2, none⟩ = some (.int .i64 y.lia) from (HQY.out.below (below_up8 HBbk.out (below_regrown wk d os)) 2 (by simp)).1)
                        have q3 := fun d os => (show (grow (redrawn wk d) os).cell? ⟨QY, 3, none⟩ = some (.slice o2 y.sv.length t2) from (HQY.out.below (below_up8 HBbk.out (below_regrown wk d os)) 3 (by simp)).1)
                        have q4 := fun d os => (show (grow (redrawn wk d) os).cell? ⟨QY, 4, none⟩ = some (.slice o3 y.tm.length t3) from (HQY.out.below (below_up8 HBbk.out (below_regrown wk d os)) 4 (by simp)).1)
                        refine wp_region_quiet_below (by kernel_rfl) (by kernel_rfl) ?_
                        repeat (first | go_big_quiet_step ((first | fail | (go_at_call 21; exact Calls.regrown_of (HP.out _ _ (below_up8 HBbk.out (below_regrown _ _ _)))) | (go_at_call 22; exact Calls.regrown_of (HQ.out _ _ (below_up8 HBbk.out (below_regrown _ _ _)))))) | quiet_step ((first | fail | (go_at_call 21; exact Calls.regrown_of (HP.out _ _ (below_up8 HBbk.out (below_regrown _ _ _)))) | (go_at_call 22; exact Calls.regrown_of (HQ.out _ _ (below_up8 HBbk.out (below_regrown _ _ _)))))))
                        refine wpQuiet_nil ?_
                        intro _ hw'
                        obtain ⟨⟨dq, osq⟩, hw''⟩ := hw'
                        subst hw''
                        go_wp2_with fail
                        go_meet
                        exact ⟨rfl, Lib.hid (below_regrown _ _ _)⟩
                      case rest =>
                        obtain ⟨rfl, HBx⟩ := hcut
                        generalize wc = wl at *
                        have HBjl := Lib.hid (below_up8 HBj.out HBx.out)
                        clear HBx hn1 hn2 HP HQ
                        go_wp2_with fail
                        go_roundw
                        case rel => exact ⟨j3 + 1, by go_num, HL4.out, HBjl⟩
                        case measure => have h9 := HL4.out; simp [RowKit.intOf]; omega
                    · have hj5 : ¬ (j3 : Int) < 2 := by omega
                      obtain rfl : j3 = 2 := by omega
                      clear hl4 hj4 HTT HKj
                      go_wp2_with fail
                      go_loopw [31] (fun i wr => ∃ k : Nat, i = .int .i64 k ∧ k ≤ zz.length ∧ Hid (Below wk.heap.size wk wr)) (fun i _ => zz.length - (RowKit.intOf i).toNat)
                      case atStart => exact ⟨0, rfl, Nat.zero_le _, Lib.hid (Below.refl _ _)⟩
                      case round =>
                        obtain ⟨k, rfl, hk, HBk⟩ := hrel
                        generalize wr = wm at *
                        have HB8m := Lib.hid (below_up8 HB8k.out HBk.out)
                        have hz26 := HZW.out.1
                        by_cases hlk : k < zz.length
                        · have hkk : (k : Int) < (zz.length : Int) := by omega
                          have HLK := Lib.hid hlk
                          obtain ⟨zb, zo, ez, hzb, hzc⟩ := (HZW.out.2.2 w8 (Below.refl _ _)).ev k hlk
                          subst ez
                          have ixz := fun W => at_ev8 zb zo zz.length zk k hlk W
                          have HCE := Lib.hid hzc
                          have hwf : (zz[k]'hlk).wf := HZW.out.2.1 _ (List.getElem_mem hlk)
                          generalize zz[k]'hlk = e at *
                          have HE1 := Lib.hid (fun W (b : Below w8.heap.size w8 W) => event_u e hwf W (HYW.out W b))
                          have HE2 := Lib.hid (fun W => eventR_any e W)
                          obtain ⟨BB, hBB⟩ : ∃ BB, BB = evB e := ⟨_, rfl⟩
                          rw [← hBB] at HE1 HE2
                          have hne : (BB != BB) = false := by cases BB <;> rfl
                          have HVV := Lib.hid (show e.val = .agg #[.int .i64 e.ag, .int .i64 e.sq, .int .i64 e.tm, .int .i64 e.kd, .int .i64 e.tr, .int .i64 e.sp, .int .i64 e.lk, .int .i64 e.gn, .int .i64 e.op, .int .i64 e.vr, .int .i64 e.pe, .int .i64 e.bt] from rfl)
                          clear hBB hzc hzb hlk hwf
                          rw [HVV.out] at HE1 HE2
                          clear HVV
                          go_upto_region 27 with fail
                          go_cut [158] from 148 to 158 (fun s158 wx => s158 = .bool false ∧ Hid (Below wm.heap.size wm wx))
                          case first =>
                            skip
                            have e0 := fun d os => (show (grow (redrawn wm d) os).cell? ⟨zb, zo + 12 * k, none⟩ = some (.int .i64 e.ag) from (HCE.out _ (below_up8 HB8m.out (below_regrown wm d os))).1)
                            have e1 := fun d os => (show (grow (redrawn wm d) os).cell? ⟨zb, zo + 12 * k + 1, none⟩ = some (.int .i64 e.sq) from (HCE.out _ (below_up8 HB8m.out (below_regrown wm d os))).2.1)
                            have e2 := fun d os => (show (grow (redrawn wm d) os).cell? ⟨zb, zo + 12 * k + 2, none⟩ = some (.int .i64 e.tm) from (HCE.out _ (below_up8 HB8m.out (below_regrown wm d os))).2.2.1)
                            have e3 := fun d os => (show (grow (redrawn wm d) os).cell? ⟨zb, zo + 12 * k + 3, none⟩ = some (.int .i64 e.kd) from (HCE.out _ (below_up8 HB8m.out (below_regrown wm d os))).2.2.2.1)
                            have e4 := fun d os => (show (grow (redrawn wm d) os).cell? ⟨zb, zo + 12 * k + 4, none⟩ = some (.int .i64 e.tr) from (HCE.out _ (below_up8 HB8m.out (below_regrown wm d os))).2.2.2.2.1)
                            have e5 := fun d os => (show (grow (redrawn wm d) os).cell? ⟨zb, zo + 12 * k + 5, none⟩ = some (.int .i64 e.sp) from (HCE.out _ (below_up8 HB8m.out (below_regrown wm d os))).2.2.2.2.2.1)
                            have e6 := fun d os => (show (grow (redrawn wm d) os).cell? ⟨zb, zo + 12 * k + 6, none⟩ = some (.int .i64 e.lk) from (HCE.out _ (below_up8 HB8m.out (below_regrown wm d os))).2.2.2.2.2.2.1)
                            have e7 := fun d os => (show (grow (redrawn wm d) os).cell? ⟨zb, zo + 12 * k + 7, none⟩ = some (.int .i64 e.gn) from (HCE.out _ (below_up8 HB8m.out (below_regrown wm d os))).2.2.2.2.2.2.2.1)
                            have e8 := fun d os => (show (grow (redrawn wm d) os).cell? ⟨zb, zo + 12 * k + 8, none⟩ = some (.int .i64 e.op) from (HCE.out _ (below_up8 HB8m.out (below_regrown wm d os))).2.2.2.2.2.2.2.2.1)
                            have e9 := fun d os => (show (grow (redrawn wm d) os).cell? ⟨zb, zo + 12 * k + 9, none⟩ = some (.int .i64 e.vr) from (HCE.out _ (below_up8 HB8m.out (below_regrown wm d os))).2.2.2.2.2.2.2.2.2.1)
                            have e10 := fun d os => (show (grow (redrawn wm d) os).cell? ⟨zb, zo + 12 * k + 10, none⟩ = some (.int .i64 e.pe) from (HCE.out _ (below_up8 HB8m.out (below_regrown wm d os))).2.2.2.2.2.2.2.2.2.2.1)
                            have e11 := fun d os => (show (grow (redrawn wm d) os).cell? ⟨zb, zo + 12 * k + 11, none⟩ = some (.int .i64 e.bt) from (HCE.out _ (below_up8 HB8m.out (below_regrown wm d os))).2.2.2.2.2.2.2.2.2.2.2)
                            refine wp_region_quiet_below (by kernel_rfl) (by kernel_rfl) ?_
                            repeat (first | go_big_quiet_step ((first | fail | (go_at_call 23; exact Calls.regrown_of (HE1.out _ (below_up8 HB8m.out (below_regrown _ _ _)))) | (go_at_call 24; exact Calls.regrown_of (HE2.out _)))) | quiet_step ((first | fail | (go_at_call 23; exact Calls.regrown_of (HE1.out _ (below_up8 HB8m.out (below_regrown _ _ _)))) | (go_at_call 24; exact Calls.regrown_of (HE2.out _)))))
                            refine wpQuiet_nil ?_
                            intro _ hw'
                            obtain ⟨⟨dq, osq⟩, hw''⟩ := hw'
                            subst hw''
                            go_wp2_with fail
                            go_meet
                            exact ⟨rfl, Lib.hid (below_regrown _ _ _)⟩
                          case rest =>
                            obtain ⟨rfl, HBx⟩ := hcut
                            generalize wc = wo at *
                            have HBko := Lib.hid (below_up8 HBk.out HBx.out)
                            clear HBx hne HE1 HE2
                            go_wp2_with fail
                            go_roundw
                            case rel => exact ⟨k + 1, by go_num, HLK.out, HBko⟩
                            case measure => have h9 := HLK.out; simp [RowKit.intOf]; omega
                        · have hkk : ¬ (k : Int) < (zz.length : Int) := by omega
                          have HBem := Lib.hid (below_up8 HBek.out HBk.out)
                          clear hlk
                          go_wp2_with fail
                          go_roundw
                          case rel => exact ⟨j2 + 1, by go_num, HL3.out, HBem⟩
                          case measure => have h9 := HL3.out; simp [RowKit.intOf]; omega
            · have hj3 : ¬ (j2 : Int) < 3 := by omega
              obtain rfl : j2 = 3 := by omega
              clear hl3 hj2
              go_wp2_with fail
              go_roundw
              case rel => exact ⟨j + 1, by go_num, HLT.out, HB8f⟩
              case measure => have h9 := HLT.out; simp [RowKit.intOf]; omega
      · have hji : ¬ (j : Int) < 2 := by omega
        obtain rfl : j = 2 := by omega
        clear hlt hj
        go_wp2_with fail
        go_ret
        exact ⟨rfl, HBwa.out⟩
end Go.Proofs.YtamefmojocegkaaDoor
