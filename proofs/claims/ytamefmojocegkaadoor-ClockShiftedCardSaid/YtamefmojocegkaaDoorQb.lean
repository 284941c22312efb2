/-
  Layer 8: the walk of ClockShifted, over whatever keeps the contracts of sane and Agrees.
-/
import Derived.Test.YtamefmojocegkaaDoorQa
import Derived.Test.YtamefmojocegkaaDoorQb0
import Derived.Test.YtamefmojocegkaaDoorPg2
import Derived.Test.YtamefmojocegkaaDoorE01
namespace Go.Proofs.YtamefmojocegkaaDoor
open Go Go.Proofs Go.RowKit Go.Lib Go.Sort

theorem shift_all {x : List Int} {d : Int} {k : Nat} (hk : k = x.length) : (x.map (· + d)).take k = x.map (· + d) := List.take_of_length_le (by rw [List.length_map]; omega)
theorem shift_step {x : List Int} {d : Int} {k : Nat} (hk : k < x.length) : (x.map (· + d)).take (k + 1) = (x.map (· + d)).take k ++ [x[k] + d] := by
  rw [List.take_succ_eq_append_getElem (by rw [List.length_map]; exact hk)]
  simp
set_option maxRecDepth 100000 in
set_option maxHeartbeats 16000000 in
theorem shifted_any (HSA : SaneOk 10) (HAG : AgreesOk8 21) (n : Int) (ad : Option Addr) (c : Nat) (l : List D4) (b0 b1 b2 : Int) (ad2 : Option Addr) (c2 : Nat) (by_ : List Int) (shift agents more out : Int) (h0 : -9223372036854775808 ≤ n) (h1 : n ≤ 9223372036854775807) (hl : l.length ≤ maxLen) (hdi : ∀ d ∈ l, d.fit)
    (p0 : -9223372036854775808 ≤ b0) (p1 : b0 ≤ 9223372036854775807) (q0 : -9223372036854775808 ≤ b1) (q1 : b1 ≤ 9223372036854775807) (r0 : -9223372036854775808 ≤ b2) (r1 : b2 ≤ 9223372036854775807) (hby : by_.length ≤ maxLen) (hbc : by_.length ≤ c2) (hbb : ∀ i (h : i < by_.length), -9223372036854775808 ≤ by_[i] ∧ by_[i] ≤ 9223372036854775807)
    (s0 : -9223372036854775808 ≤ shift) (s1 : shift ≤ 9223372036854775807) (m0 : -9223372036854775808 ≤ agents) (m1 : agents ≤ 9223372036854775807) (t0 : -9223372036854775808 ≤ more) (t1 : more ≤ 9223372036854775807) (v0 : -9223372036854775808 ≤ out) (v1 : out ≤ 9223372036854775807) (w : World) (hR : Rdy w) (hI : RL KD w ad l) (hJ : RL KI w ad2 by_) :
    Calls Tryd.prog 8 #[.int .i64 n, .slice ad l.length c, .agg #[.int .i64 b0, .int .i64 b1, .int .i64 b2], .slice ad2 by_.length c2, .int .i64 shift, .int .i64 agents, .int .i64 more, .int .i64 out] w fun e w' => e = .returned (.bool true) ∧ Below w.heap.size w w' := by
  have HRY := Lib.hid (fun W (b : Below w.heap.size w W) => hR.below b)
  have HII := Lib.hid (fun W (b : Below w.heap.size w W) => hI.below b)
  have HJJ := Lib.hid (fun W (b : Below w.heap.size w W) => hJ.below b)
  have HEX := Lib.hid (fun W hW => exampleR2_any n ad c l h0 h1 hl hdi W hW)
  have HLN := Lib.hid (ex_ok n l).1
  have HXT := Lib.hid (ex_times n l)
  have HBT := Lib.hid (And.intro (And.intro p0 p1) (And.intro (And.intro q0 q1) (And.intro r0 r1)))
  have HTM := Lib.hid (fun h hh => ((ex_ok n l).2.1 h hh).t0)
  have HZ1 := Lib.hid (evs_of (ex_hs n l))
  have HZ2 := Lib.hid (bent_evs n l b0 b1 b2)
  have HMV := Lib.hid (fun b hb k hk => mv_times n l b hb k hk)
  have HPS := Lib.hid (fun W => pickL8_any shift 2000001 s0 s1 (by decide) (by decide) W)
  have HPM := Lib.hid (fun W => pickL8_any agents 64 m0 m1 (by decide) (by decide) W)
  have HPQ := Lib.hid (fun W => pickL8_any more 6 t0 t1 (by decide) (by decide) W)
  have HPO := Lib.hid (fun (k : Nat) (hk : 1 ≤ k ∧ k ≤ 24) W => pickL8_any out (k : Nat) v0 v1 (by omega) (by omega) W)
  obtain ⟨kb, hkb⟩ : ∃ kb, kb = (by_.take 4).length := ⟨_, rfl⟩
  have HKB := Lib.hid (And.intro hkb (And.intro hby hbc))
  have HBB := Lib.hid (fun (b : Int) (hb : b ∈ by_.take 4) => show -9223372036854775808 ≤ b ∧ b ≤ 9223372036854775807 from by
    obtain ⟨i, hi, rfl⟩ := List.getElem_of_mem (List.mem_of_mem_take hb)
    exact hbb i hi)
  have hkc : kb ≤ c2 := by rw [hkb, List.length_take]; omega
  have hkl : kb = if by_.length < 4 then by_.length else 4 := by rw [hkb, take_len8]
  have HKL := Lib.hid hkl
  have HKC := Lib.hid hkc
  obtain ⟨w1, V1, Z1, K1, B1⟩ := lay8 w [.int .i64 b0, .int .i64 b1, .int .i64 b2] 27
  have V1 := (show w.alloc (.cells #[.int .i64 b0, .int .i64 b1, .int .i64 b2] 27) = w1 from V1)
  have HK1 := Lib.hid K1
  have HB1 := Lib.hid B1
  have HSA1 := HSA w1 (hR.below B1)
  clear HSA hR hI hJ hdi K1 B1 Z1 hkb hkc hkl hbb p0 p1 q0 q1 r0 r1 hby hbc s0 s1 m0 m1 t0 t1 v0 v1
  go_enter Tryd.func8, Tryd.ntmps8
  go_wp2_with fail
  refine HSA1.mono ?_
  rintro e w2 ⟨rfl, hb⟩
  have HK2 := Lib.hid (HK1.out.below hb)
  have HB2 := Lib.hid (below_up8 HB1.out hb)
  clear hb HSA1 HK1 HB1 V1
  go_wp2_with fail
  refine (HEX.out _ (HII.out _ HB2.out)).mono ?_
  rintro e w3 ⟨x1, k1, x2, k2, x3, k3, a4, c4, a5, c5, rfl, s1, s2, s3, hn4, hn5, s4, s5, hb⟩
  have HK3 := Lib.hid (HK2.out.below hb)
  have HB3 := Lib.hid (below_up8 HB2.out hb)
  clear hb HB2 HK2 HEX HII
  obtain ⟨f, hf⟩ : ∃ f, f = fleetN n := ⟨_, rfl⟩
  have HFT := Lib.hid (show f.fit from by rw [hf]; exact fleet_fit n)
  rw [← hf] at s1 s2 s3 HZ1 HZ2 ⊢
  clear hf
  obtain ⟨hs, hhs⟩ : ∃ hs, hs = exN n l := ⟨_, rfl⟩
  rw [← hhs] at s4 s5 hn4 hn5 HLN HXT HTM HZ1 HZ2 HMV ⊢
  clear hhs
  have HR := Lib.hid (show FlAt w3 (.agg #[.slice x1 f.dr.length k1, .int .i64 f.lat, .int .i64 f.lia, .slice x2 f.sv.length k2, .slice x3 f.tm.length k3]) f ∧ RL KE w3 a4 (hs.map (·.e)) ∧ RL KI w3 a5 (hs.map (·.t)) ∧ (a4 = none → c4 = 0) ∧ (a5 = none → c5 = 0) from ⟨⟨x1, k1, x2, k2, x3, k3, rfl, s1.rl, s2.rl, s3.rl⟩, s4.rl, s5.rl, hn4.1, hn5.1⟩)
  have HC4 := Lib.hid hn4
  clear s1 s2 s3 s4 s5 hn4 hn5
  obtain ⟨w4, V4, Z4, K4, B4⟩ := lay8 w3 [.slice x1 f.dr.length k1, .int .i64 f.lat, .int .i64 f.lia, .slice x2 f.sv.length k2, .slice x3 f.tm.length k3] 24
  have V4 := (show w3.alloc (.cells #[.slice x1 f.dr.length k1, .int .i64 f.lat, .int .i64 f.lia, .slice x2 f.sv.length k2, .slice x3 f.tm.length k3] 24) = w4 from V4)
  go_upto_region 3 with fail
  clear V4
  have HKF := Lib.hid K4
  have HKB4 := Lib.hid (HK3.out.below B4)
  have HB34 := Lib.hid B4
  have hz34 : w3.heap.size < w4.heap.size := by omega
  clear K4 B4 Z4 HK3
  generalize w3.heap.size = Q at HKF ⊢
  have HB24 := Lib.hid (show Below w.heap.size w w4 from below_up8 HB3.out HB34.out)
  obtain ⟨X, hX⟩ : ∃ X, X = mvN (hs.map (·.t)) (by_.take 4) := ⟨_, rfl⟩
  have HXL := Lib.hid (show X.length = hs.length from by rw [hX, mvN_len, List.length_map])
  have HXB := Lib.hid (show ∀ i, -200000000000 ≤ X.getD i 0 ∧ X.getD i 0 ≤ 200000000000 from fun i => by
    have := mvN_bd (by_.take 4) (hs.map (·.t)) 160000000000 HXT.out i
    have h6 : (by_.take 4).length ≤ 4 := by rw [List.length_take]; omega
    rw [hX]; omega)
  have HXM := Lib.hid (show ∀ k, k = hs.length → timesB k X = true from fun k hk => by rw [hX]; exact HMV.out _ (by rw [List.length_take]; omega) k hk)
  have HMO := Lib.hid (show Calls Tryd.prog 33 #[.slice a5 hs.length c5, .slice ad2 kb c2] w4 (fun e w' => ∃ xad xc, e = .returned (.slice xad hs.length xc) ∧ hs.length ≤ xc ∧ Own KI w' w4.heap.size (.slice xad hs.length xc) X ∧ Below w4.heap.size w4 w') from by
    have h := moved_any a5 ad2 c5 c2 (hs.map (·.t)) (by_.take 4) (by rw [List.length_map]; have := HLN.out; omega) (by rw [List.length_take]; omega) HR.out.2.2.2.2 HBB.out (fun i => by have := HXT.out i; omega) w4 (HR.out.2.2.1.below HB34.out) ((HJJ.out _ HB24.out).take8 4)
    rw [List.length_map, ← HKB.out.1] at h
    refine h.mono fun e w' h => ?_
    obtain ⟨xad, xc, e1, e2, e3, e4⟩ := h
    rw [mvN_len, List.length_map] at e1 e2
    rw [mvN_len, List.length_map, ← hX] at e3
    exact ⟨xad, xc, e1, e2, e3, e4⟩)
  clear hX HMV HXT HBB HJJ
  go_cut [21] from 40 to 46 (fun s21 wx => ∃ xad xc, s21 = .slice xad hs.length xc ∧ hs.length ≤ xc ∧ Hid (Own KI wx w4.heap.size (.slice xad hs.length xc) X) ∧ Hid (Below w4.heap.size w4 wx))
  case first =>
    have hkc := HKC.out
    have hbc := HKB.out.2.2
    by_cases h6 : by_.length ≤ 4
    · have HMO := Lib.hid (show Calls Tryd.prog 33 #[.slice a5 hs.length c5, .slice ad2 by_.length c2] w4 (fun e w' => ∃ xad xc, e = .returned (.slice xad hs.length xc) ∧ hs.length ≤ xc ∧ Own KI w' w4.heap.size (.slice xad hs.length xc) X ∧ Below w4.heap.size w4 w') from by
        have h := HMO.out
        rw [show kb = by_.length from by rw [HKL.out]; split <;> omega] at h
        exact h)
      go_wp2_with fail
      refine HMO.out.mono ?_
      rintro e wx ⟨xad, xc, rfl, hxc, ho, hb⟩
      have HO := Lib.hid ho
      have HB := Lib.hid hb
      clear ho hb
      go_wp2_with fail
      go_meet
      exact ⟨xad, xc, rfl, hxc, HO, HB⟩
    · have HMO := Lib.hid (show Calls Tryd.prog 33 #[.slice a5 hs.length c5, .slice ad2 4 c2] w4 (fun e w' => ∃ xad xc, e = .returned (.slice xad hs.length xc) ∧ hs.length ≤ xc ∧ Own KI w' w4.heap.size (.slice xad hs.length xc) X ∧ Below w4.heap.size w4 w') from by
        have h := HMO.out
        rw [show kb = 4 from by rw [HKL.out]; split <;> omega] at h
        exact h)
      have h62 : 4 ≤ c2 := by omega
      go_wp2_with fail
      refine HMO.out.mono ?_
      rintro e wx ⟨xad, xc, rfl, hxc, ho, hb⟩
      have HO := Lib.hid ho
      have HB := Lib.hid hb
      clear ho hb
      go_wp2_with fail
      go_meet
      exact ⟨xad, xc, rfl, hxc, HO, HB⟩
  case rest =>
    obtain ⟨xad, xc, rfl, hxc, HXO, HB45⟩ := hcut
    generalize wc = w5 at *
    have HXC := Lib.hid (show Capd xad hs.length xc from by
      obtain ⟨a, c', e, hc, _⟩ := HXO.out.rn2
      rw [HXL.out] at e hc
      injection e with e1 _ e3
      subst e1 e3
      exact hc)
    have HXR := Lib.hid (show RL KI w5 xad X from by
      obtain ⟨_, _, e1, _, h⟩ := HXO.out.rn
      injection e1 with e1 e2 e3
      rw [e1]; exact h.rl)
    have HK5 := Lib.hid (HKB4.out.below HB45.out)
    have HKF5 := Lib.hid (HKF.out.below HB45.out)
    have HB35 := Lib.hid (below_up8 HB34.out HB45.out)
    clear HMO HKC HKL HKB HXO HKF HKB4 hxc
    obtain ⟨SP, hSP⟩ : ∃ SP, SP = pick8 shift 2000001 := ⟨_, rfl⟩
    have sp0 : 0 ≤ SP := by rw [hSP]; exact pick8_lo (by decide)
    have sp1 : SP < 2000001 := by rw [hSP]; exact pick8_hi (by decide)
    rw [← hSP] at HPS
    obtain ⟨M, hM⟩ : ∃ M, M = pick8 agents 64 := ⟨_, rfl⟩
    have hm0 : 0 ≤ M := by rw [hM]; exact pick8_lo (by decide)
    have hm1 : M < 64 := by rw [hM]; exact pick8_hi (by decide)
    rw [← hM] at HPM
    obtain ⟨qm, hqm⟩ := Int.eq_ofNat_of_zero_le (show 0 ≤ pick8 more 6 from pick8_lo (by decide))
    have hq6 : qm < 6 := by have := pick8_hi (c := more) (n := 6) (by decide); omega
    rw [hqm] at HPQ
    have hws : IntKind.i64.wrap (SP - 1000000) = SP - 1000000 := wrapq8 (by omega)
    have HMB := Lib.hid (And.intro hm0 (And.intro hm1 hq6))
    obtain ⟨DD, hDD⟩ : ∃ DD, DD = SP - 1000000 := ⟨_, rfl⟩
    have HDD := Lib.hid (show -1000000 ≤ DD ∧ DD ≤ 1000000 from by omega)
    rw [← hDD] at hws
    clear hSP hM hqm hm0 hm1 hq6
    go_upto_region 5 with (go_at_call 26; refine (HPS.out _).mono ?_; rintro e z ⟨rfl, rfl⟩)
    rw [← hDD]
    clear hDD sp0 sp1 hws HPS
    go_upto_region 6 with (go_at_call 26; refine (HPM.out _).mono ?_; rintro e z ⟨rfl, rfl⟩)
    clear HPM
    have HX5 := HXR
    go_wp2_with fail
    go_loopw [24, 25] (fun yv i wr => ∃ k : Nat, i = .int .i64 k ∧ k ≤ hs.length ∧ ∃ yad yc, yv = .slice yad k yc ∧ Hid (Own KI wr w5.heap.size (.slice yad k yc) ((X.map (· + DD)).take k)) ∧ Hid (Below w5.heap.size w5 wr)) (fun _ i _ => hs.length - (RowKit.intOf i).toNat)
    case atStart => exact ⟨0, rfl, Nat.zero_le _, none, 0, rfl, Lib.hid (Own.nil _ _ _), Lib.hid (Below.refl _ _)⟩
    case round =>
      obtain ⟨k, rfl, hk, yad, yc, rfl, HO, HBk⟩ := hrel
      by_cases hlk : k < hs.length
      · have hkk : (k : Int) < (hs.length : Int) := by omega
        have hkx : k < X.length := by rw [HXL.out]; exact hlk
        obtain ⟨xb, xo, rfl, _, hxcl⟩ := HX5.out.int k hkx
        have y0 := hxcl wr HBk.out
        have ixx := fun W => at_int8 xb xo hs.length xc k hlk W
        have HST := Lib.hid (shift_step (d := DD) hkx)
        have hxb := HXB.out k
        rw [show X.getD k 0 = X[k]'hkx from xD_of hkx] at hxb
        generalize X[k]'hkx = xk at *
        have hdd := HDD.out
        have hwx : IntKind.i64.wrap (xk + DD) = xk + DD := wrapq8 (by omega)
        have HLT := Lib.hid hlk
        obtain ⟨LY, hLY⟩ : ∃ LY, LY = (X.map (· + DD)).take k := ⟨_, rfl⟩
        have hlly : LY.length = k := by rw [hLY, List.length_take, List.length_map]; omega
        rw [← hLY] at HO HST
        have HLY := Lib.hid hlly
        have HLL := Lib.hid (show LY.length + 1 ≤ 100000000 from by have := HLN.out; omega)
        obtain ⟨wB, VB, ZB, KB, BB⟩ := lay8 wr [.int .i64 (xk + DD)] 3
        have VB := (show wr.alloc (.cells #[.int .i64 (xk + DD)] 3) = wB from VB)
        have KB := Lib.hid (show CellsAt wB wr.heap.size (KI.cs (xk + DD)) from KB)
        have BB := Lib.hid BB
        have hz5 : w5.heap.size ≤ wr.heap.size := HBk.out.size
        have hk24 : k < 100 := by have := HLN.out; omega
        clear hLY hlly hxcl hlk hkx hxb hdd
        go_wp2_with (first | (at_builtin; refine walk_push8 KI (w0 := wB) rfl _ _ rfl w5.heap.size (.slice yad k yc) LY (xk + DD) rfl (HO.out.below BB.out (Nat.le_refl _)) (Below.refl _ _) (by omega) wr.heap.size 1 rfl KB.out HLL.out ?_; intro v9 w9 ho9 hb9 hg9 hk9))
        have HB9 := Lib.hid (show Below w5.heap.size w5 w9 from (HBk.out.trans (BB.out.mono hz5)).trans hb9)
        obtain ⟨yad9, yc9, e9, _⟩ := ho9.form
        have hl9 : (LY ++ [xk + DD]).length = k + 1 := by rw [List.length_append, HLY.out]; rfl
        rw [hl9] at e9
        subst e9
        have HO9 := Lib.hid ho9
        clear ho9 hb9 hg9 hk9 VB y0 ixx
        go_roundw
        case rel => exact ⟨k + 1, by go_num, HLT.out, yad9, yc9, rfl, Lib.hid (by rw [HST.out]; exact HO9.out), HB9⟩
        case measure => have h9 := HLT.out; simp [RowKit.intOf]; omega
      · have hkk : ¬ (k : Int) < (hs.length : Int) := by omega
        obtain rfl : k = hs.length := by omega
        obtain ⟨Y, hY⟩ : ∃ Y, Y = X.map (· + DD) := ⟨_, rfl⟩
        rw [← hY] at HO
        have HYR := Lib.hid (show RL KI wr yad Y from by
          have h := HO.out
          rw [hY, shift_all (show hs.length = X.length by rw [HXL.out]), ← hY] at h
          obtain ⟨_, _, e1, _, h⟩ := h.rn
          injection e1 with e1 e2 e3
          rw [e1]; exact h.rl)
        have HYL := Lib.hid (show Y.length = hs.length from by rw [hY, List.length_map, HXL.out])
        have HYA := Lib.hid (show ∀ (zz : List Ev) (m : Int), zz.length = hs.length → agB f zz Y m = agB f zz X m from fun zz m hz => by
          rw [hY]
          exact ag_shift (HXM.out _ hz) (times_shift (by rw [hz, HXL.out]) HXB.out HDD.out.1 HDD.out.2) m)
        clear hY HO hlk hk
        generalize wr = wv at *
        have u0 := (show wv.cell? ⟨w.heap.size, 0, none⟩ = some (.int .i64 b0) from (HK5.out.below HBk.out 0 (by simp)).1)
        have u1 := (show wv.cell? ⟨w.heap.size, 1, none⟩ = some (.int .i64 b1) from (HK5.out.below HBk.out 1 (by simp)).1)
        have u2 := (show wv.cell? ⟨w.heap.size, 2, none⟩ = some (.int .i64 b2) from (HK5.out.below HBk.out 2 (by simp)).1)
        have HB3v := Lib.hid (below_up8 HB35.out HBk.out)
        have HXRv := Lib.hid (HXR.out.below HBk.out)
        have HKFv := Lib.hid (HKF5.out.below HBk.out)
        clear HBk HK5 HKF5 HXR HB35 HB45 HX5
        have hlm : (hs.map (·.e)).length = hs.length := List.length_map ..
        have HBE := Lib.hid (show Calls Tryd.prog 13 #[.slice a4 hs.length c4, .int .i64 b0, .int .i64 b1, .int .i64 b2] wv (fun e w' => ∃ zad zc, e = .returned (.slice zad hs.length zc) ∧ Capd zad hs.length zc ∧ RL KE w' zad (bentN (hs.map (·.e)) b0 b1 b2) ∧ Below wv.heap.size wv w') from by
          have h := bentR_any a4 c4 (hs.map (·.e)) b0 b1 b2 (by rw [hlm]; have := HLN.out; omega) HR.out.2.2.2.1 HBT.out.1.1 HBT.out.1.2 HBT.out.2.1.1 HBT.out.2.1.2 HBT.out.2.2.1 HBT.out.2.2.2 (fun e he => by
            obtain ⟨h, hh, rfl⟩ := List.mem_map.1 he
            have := HTM.out h hh
            omega) wv (HR.out.2.1.below HB3v.out)
          rw [hlm] at h
          refine h.mono fun e w' h => ?_
          obtain ⟨zad, zc, e1, e2, e3, e4, e5⟩ := h
          rw [bent_len, hlm] at e1 e2
          exact ⟨zad, zc, e1, ⟨e3, e2⟩, e4.rl, e5⟩)
        go_wp2_with fail
        refine HBE.out.mono ?_
        rintro e w6 ⟨zad, zc, rfl, hzc, hz6, hb⟩
        have HZR := Lib.hid hz6
        have HZC := Lib.hid hzc
        have HB36 := Lib.hid (below_up8 HB3v.out hb)
        have HXR6 := Lib.hid (HXRv.out.below hb)
        have HYR6 := Lib.hid (HYR.out.below hb)
        have HKF6 := Lib.hid (HKFv.out.below hb)
        clear u0 u1 u2 hz6 hzc hb HBE HXRv HYR HKFv HB3v
        obtain ⟨w7, V7, Z7, K7, B7⟩ := lay8 w6 [.slice a4 hs.length c4, .slice zad hs.length zc] 25
        have V7 := (show w6.alloc (.cells #[.slice a4 hs.length c4, .slice zad hs.length zc] 25) = w7 from V7)
        go_wp2_with fail
        have HK7 := Lib.hid K7
        have HB37 := Lib.hid (below_up8 HB36.out B7)
        have HX7 := Lib.hid (show RL KI w7 xad X ∧ RL KI w7 yad Y ∧ CellsAt w7 Q [.slice x1 f.dr.length k1, .int .i64 f.lat, .int .i64 f.lia, .slice x2 f.sv.length k2, .slice x3 f.tm.length k3] from ⟨HXR6.out.below B7, HYR6.out.below B7, HKF6.out.below B7⟩)
        have HZA := Lib.hid (show ∀ W, Below w7.heap.size w7 W → RL KE W a4 (hs.map (·.e)) ∧ RL KE W zad (bentN (hs.map (·.e)) b0 b1 b2) from fun W b => ⟨HR.out.2.1.below (below_up8 HB37.out b), (HZR.out.below B7).below b⟩)
        clear K7 B7 V7 Z7 HXR6 HYR6 HKF6 HZR HB36
        generalize w6.heap.size = Z at HK7 ⊢
        go_loopw [78] (fun i wr => ∃ j : Nat, i = .int .i64 j ∧ j ≤ 2 ∧ Hid (Below w7.heap.size w7 wr)) (fun i _ => 2 - (RowKit.intOf i).toNat)
        case atStart => exact ⟨0, rfl, by decide, Lib.hid (Below.refl _ _)⟩
        case round =>
          obtain ⟨j, rfl, hj, HB⟩ := hrel
          generalize wr = wq at *
          have HBwr := Lib.hid (show Below w.heap.size w wq from below_up8 (below_up8 HB3.out HB37.out) HB.out)
          by_cases hlt : j < 2
          · have hji : (j : Int) < 2 := by omega
            have HLT := Lib.hid hlt
            have hzz : ∃ (zz : List Ev) (za : Option Addr) (zk : Nat), w7.cell? ⟨Z, j, none⟩ = some (.slice za hs.length zk) ∧ zz.length = hs.length ∧ EvsOk f zz ∧ Capd za hs.length zk ∧ ∀ W, Below w7.heap.size w7 W → RL KE W za zz := by
              have hj2 : j = 0 ∨ j = 1 := by omega
              rcases hj2 with rfl | rfl
              · exact ⟨hs.map (·.e), a4, c4, (HK7.out 0 (by simp)).1, hlm, HZ1.out, HC4.out, fun W b => (HZA.out W b).1⟩
              · exact ⟨bentN (hs.map (·.e)) b0 b1 b2, zad, zc, (HK7.out 1 (by simp)).1, by rw [bent_len, hlm], HZ2.out, HZC.out, fun W b => (HZA.out W b).2⟩
            obtain ⟨zz, za, zk, hzc, hzl, hze, hzcap, hzr⟩ := hzz
            have HZE := Lib.hid (And.intro hze (And.intro hzl hzr))
            have HZK := Lib.hid hzcap
            have ixz := fun W => at_z8 Z 2 2 j hlt W
            have y0 := (show wq.cell? ⟨Z, j, none⟩ = some (.slice za hs.length zk) from (HB.out.cell (p := ⟨Z, j, none⟩) (World.block_lt_of_cell? w7 ⟨Z, j, none⟩ hzc)).trans hzc)
            obtain ⟨AG, hAG⟩ : ∃ AG, AG = agB f zz X M := ⟨_, rfl⟩
            obtain ⟨AW, hAW⟩ : ∃ AW, AW = agB f zz X (bits .or .i64 M ((2 : Int) ^ qm)) := ⟨_, rfl⟩
            have HAW := Lib.hid (show AW = true → AG = true from by rw [hAW, hAG]; exact ag_more HMB.out.1 HMB.out.2.1 HMB.out.2.2)
            have HAF := Lib.hid (show ∀ k, k < hs.length → AG = true → agB f (cutK zz k) (cutK X k) M = true from fun k hk h => by rw [hAG] at h; exact ag_fewer (by rw [hzl]; exact hk) h)
            have HCALL := Lib.hid (show ∀ (W : World) (m : Int) (xa : Option Addr) (x : List Int) (xk : Nat), Below wq.heap.size wq W → x.length = hs.length → RL KI W xa x → Calls Tryd.prog 21 #[.agg #[.slice x1 f.dr.length k1, .int .i64 f.lat, .int .i64 f.lia, .slice x2 f.sv.length k2, .slice x3 f.tm.length k3], .slice za hs.length zk, .slice xa hs.length xk, .int .i64 m] W (fun e w' => e = .returned (.bool (agB f zz x m)) ∧ Below W.heap.size W w') from fun W m xa x xk b hx hr => by
              have h := HAG _ f za xa zk xk zz x m W HFT.out (by rw [hzl]; have := HLN.out; unfold maxLen; omega) (by rw [hx]; have := HLN.out; unfold maxLen; omega) (wf_evs hze) (HRY.out _ (below_up8 HBwr.out b)) (HR.out.1.below (below_up8 HB37.out (below_up8 HB.out b))) (hzr _ (below_up8 HB.out b)) hr
              rw [hzl, hx] at h
              exact h)
            have HC1 := Lib.hid (show ∀ W, Below wq.heap.size wq W → Calls Tryd.prog 21 #[.agg #[.slice x1 f.dr.length k1, .int .i64 f.lat, .int .i64 f.lia, .slice x2 f.sv.length k2, .slice x3 f.tm.length k3], .slice za hs.length zk, .slice xad hs.length xc, .int .i64 M] W (fun e w' => e = .returned (.bool AG) ∧ Below W.heap.size W w') from fun W b => by rw [hAG]; exact HCALL.out W M xad X xc b HXL.out (HX7.out.1.below (below_up8 HB.out b)))
            have HC2 := Lib.hid (show ∀ W, Below wq.heap.size wq W → Calls Tryd.prog 21 #[.agg #[.slice x1 f.dr.length k1, .int .i64 f.lat, .int .i64 f.lia, .slice x2 f.sv.length k2, .slice x3 f.tm.length k3], .slice za hs.length zk, .slice yad hs.length yc, .int .i64 M] W (fun e w' => e = .returned (.bool AG) ∧ Below W.heap.size W w') from fun W b => by rw [hAG, ← HYA.out zz M hzl]; exact HCALL.out W M yad Y yc b HYL.out (HX7.out.2.1.below (below_up8 HB.out b)))
            have HC3 := Lib.hid (show ∀ W, Below wq.heap.size wq W → Calls Tryd.prog 21 #[.agg #[.slice x1 f.dr.length k1, .int .i64 f.lat, .int .i64 f.lia, .slice x2 f.sv.length k2, .slice x3 f.tm.length k3], .slice za hs.length zk, .slice xad hs.length xc, .int .i64 (bits .or .i64 M ((2 : Int) ^ qm))] W (fun e w' => e = .returned (.bool AW) ∧ Below W.heap.size W w') from fun W b => by rw [hAW]; exact HCALL.out W _ xad X xc b HXL.out (HX7.out.1.below (below_up8 HB.out b)))
            have HKq := Lib.hid (fun W (b : Below wq.heap.size wq W) => HX7.out.2.2.below (below_up8 HB.out b))
            clear hAG hAW hzc hzl hze hzr hzcap hlt HCALL
            have f0 := (show wq.cell? ⟨Q, 0, none⟩ = some (.slice x1 f.dr.length k1) from ((HKq.out wq (Below.refl _ _)) 0 (by simp)).1)
            have f1 := (show wq.cell? ⟨Q, 1, none⟩ = some (.int .i64 f.lat) from ((HKq.out wq (Below.refl _ _)) 1 (by simp)).1)
            have f2 := (show wq.cell? ⟨Q, 2, none⟩ = some (.int .i64 f.lia) from ((HKq.out wq (Below.refl _ _)) 2 (by simp)).1)
            have f3 := (show wq.cell? ⟨Q, 3, none⟩ = some (.slice x2 f.sv.length k2) from ((HKq.out wq (Below.refl _ _)) 3 (by simp)).1)
            have f4 := (show wq.cell? ⟨Q, 4, none⟩ = some (.slice x3 f.tm.length k3) from ((HKq.out wq (Below.refl _ _)) 4 (by simp)).1)
            go_wp2_with fail
            refine (HC1.out _ (Below.refl _ _)).mono ?_
            rintro e wa ⟨rfl, hba⟩
            have HBa := Lib.hid hba
            clear hba f0 f1 f2 f3 f4 y0 ixz
            have f0 := (show wa.cell? ⟨Q, 0, none⟩ = some (.slice x1 f.dr.length k1) from ((HKq.out wa HBa.out) 0 (by simp)).1)
            have f1 := (show wa.cell? ⟨Q, 1, none⟩ = some (.int .i64 f.lat) from ((HKq.out wa HBa.out) 1 (by simp)).1)
            have f2 := (show wa.cell? ⟨Q, 2, none⟩ = some (.int .i64 f.lia) from ((HKq.out wa HBa.out) 2 (by simp)).1)
            have f3 := (show wa.cell? ⟨Q, 3, none⟩ = some (.slice x2 f.sv.length k2) from ((HKq.out wa HBa.out) 3 (by simp)).1)
            have f4 := (show wa.cell? ⟨Q, 4, none⟩ = some (.slice x3 f.tm.length k3) from ((HKq.out wa HBa.out) 4 (by simp)).1)
            go_wp2_with fail
            refine (HC2.out _ HBa.out).mono ?_
            rintro e wb ⟨rfl, hbb⟩
            have HBb := Lib.hid (below_up8 HBa.out hbb)
            have hne : (AG != AG) = false := by cases AG <;> rfl
            clear hbb f0 f1 f2 f3 f4 HBa
            go_upto_region 17 with fail
            clear hne
            have hq6 : qm = 0 ∨ qm = 1 ∨ qm = 2 ∨ qm = 3 ∨ qm = 4 ∨ qm = 5 := by have := HMB.out.2.2; omega
            have HPR := Lib.hid (show ∀ W, Calls Tryd.prog 26 #[.int .i64 more, .int .i64 6] W (fun e w' => e = .returned (.int .i64 (qm : Int)) ∧ Below W.heap.size W w') from fun W => (HPQ.out W).mono fun e w' h => by
              obtain ⟨h1, h2⟩ := h
              subst h2
              exact ⟨h1, Below.refl _ _⟩)
            go_cut [29] from 94 to 102 (fun s29 wx => s29 = .bool AW ∧ Hid (Below wb.heap.size wb wx))
            case first =>
              have f0 := fun d os => (show (grow (redrawn wb d) os).cell? ⟨Q, 0, none⟩ = some (.slice x1 f.dr.length k1) from (HKq.out _ (below_up8 HBb.out (below_regrown wb d os)) 0 (by simp)).1)
              have f1 := fun d os => (show (grow (redrawn wb d) os).cell? ⟨Q, 1, none⟩ = some (.int .i64 f.lat) from (HKq.out _ (below_up8 HBb.out (below_regrown wb d os)) 1 (by simp)).1)
              have f2 := fun d os => (show (grow (redrawn wb d) os).cell? ⟨Q, 2, none⟩ = some (.int .i64 f.lia) from (HKq.out _ (below_up8 HBb.out (below_regrown wb d os)) 2 (by simp)).1)
              have f3 := fun d os => (show (grow (redrawn wb d) os).cell? ⟨Q, 3, none⟩ = some (.slice x2 f.sv.length k2) from (HKq.out _ (below_up8 HBb.out (below_regrown wb d os)) 3 (by simp)).1)
              have f4 := fun d os => (show (grow (redrawn wb d) os).cell? ⟨Q, 4, none⟩ = some (.slice x3 f.tm.length k3) from (HKq.out _ (below_up8 HBb.out (below_regrown wb d os)) 4 (by simp)).1)
              refine wp_region_quiet_below (by kernel_rfl) (by kernel_rfl) ?_
              rcases hq6 with rfl | rfl | rfl | rfl | rfl | rfl
              · repeat (first | go_big_quiet_step (first | fail | (go_at_call 26; exact Calls.regrown_of (HPR.out _)) | (go_at_call 21; exact Calls.regrown_of (HC3.out _ (below_up8 HBb.out (below_regrown _ _ _))))) | quiet_step (first | fail | (go_at_call 26; exact Calls.regrown_of (HPR.out _)) | (go_at_call 21; exact Calls.regrown_of (HC3.out _ (below_up8 HBb.out (below_regrown _ _ _))))))
                refine wpQuiet_nil ?_
                intro _ hw'
                obtain ⟨⟨dq, osq⟩, hw''⟩ := hw'
                subst hw''
                go_wp2_with fail
                go_meet
                exact ⟨rfl, Lib.hid (below_regrown _ _ _)⟩
              · repeat (first | go_big_quiet_step (first | fail | (go_at_call 26; exact Calls.regrown_of (HPR.out _)) | (go_at_call 21; exact Calls.regrown_of (HC3.out _ (below_up8 HBb.out (below_regrown _ _ _))))) | quiet_step (first | fail | (go_at_call 26; exact Calls.regrown_of (HPR.out _)) | (go_at_call 21; exact Calls.regrown_of (HC3.out _ (below_up8 HBb.out (below_regrown _ _ _))))))
                refine wpQuiet_nil ?_
                intro _ hw'
                obtain ⟨⟨dq, osq⟩, hw''⟩ := hw'
                subst hw''
                go_wp2_with fail
                go_meet
                exact ⟨rfl, Lib.hid (below_regrown _ _ _)⟩
              · repeat (first | go_big_quiet_step (first | fail | (go_at_call 26; exact Calls.regrown_of (HPR.out _)) | (go_at_call 21; exact Calls.regrown_of (HC3.out _ (below_up8 HBb.out (below_regrown _ _ _))))) | quiet_step (first | fail | (go_at_call 26; exact Calls.regrown_of (HPR.out _)) | (go_at_call 21; exact Calls.regrown_of (HC3.out _ (below_up8 HBb.out (below_regrown _ _ _))))))
                refine wpQuiet_nil ?_
                intro _ hw'
                obtain ⟨⟨dq, osq⟩, hw''⟩ := hw'
                subst hw''
                go_wp2_with fail
                go_meet
                exact ⟨rfl, Lib.hid (below_regrown _ _ _)⟩
              · repeat (first | go_big_quiet_step (first | fail | (go_at_call 26; exact Calls.regrown_of (HPR.out _)) | (go_at_call 21; exact Calls.regrown_of (HC3.out _ (below_up8 HBb.out (below_regrown _ _ _))))) | quiet_step (first | fail | (go_at_call 26; exact Calls.regrown_of (HPR.out _)) | (go_at_call 21; exact Calls.regrown_of (HC3.out _ (below_up8 HBb.out (below_regrown _ _ _))))))
                refine wpQuiet_nil ?_
                intro _ hw'
                obtain ⟨⟨dq, osq⟩, hw''⟩ := hw'
                subst hw''
                go_wp2_with fail
                go_meet
                exact ⟨rfl, Lib.hid (below_regrown _ _ _)⟩
              · repeat (first | go_big_quiet_step (first | fail | (go_at_call 26; exact Calls.regrown_of (HPR.out _)) | (go_at_call 21; exact Calls.regrown_of (HC3.out _ (below_up8 HBb.out (below_regrown _ _ _))))) | quiet_step (first | fail | (go_at_call 26; exact Calls.regrown_of (HPR.out _)) | (go_at_call 21; exact Calls.regrown_of (HC3.out _ (below_up8 HBb.out (below_regrown _ _ _))))))
                refine wpQuiet_nil ?_
                intro _ hw'
                obtain ⟨⟨dq, osq⟩, hw''⟩ := hw'
                subst hw''
                go_wp2_with fail
                go_meet
                exact ⟨rfl, Lib.hid (below_regrown _ _ _)⟩
              · repeat (first | go_big_quiet_step (first | fail | (go_at_call 26; exact Calls.regrown_of (HPR.out _)) | (go_at_call 21; exact Calls.regrown_of (HC3.out _ (below_up8 HBb.out (below_regrown _ _ _))))) | quiet_step (first | fail | (go_at_call 26; exact Calls.regrown_of (HPR.out _)) | (go_at_call 21; exact Calls.regrown_of (HC3.out _ (below_up8 HBb.out (below_regrown _ _ _))))))
                refine wpQuiet_nil ?_
                intro _ hw'
                obtain ⟨⟨dq, osq⟩, hw''⟩ := hw'
                subst hw''
                go_wp2_with fail
                go_meet
                exact ⟨rfl, Lib.hid (below_regrown _ _ _)⟩
            case rest =>
              obtain ⟨rfl, HBx⟩ := hcut
              generalize wc = wd at *
              have HBd := Lib.hid (below_up8 HBb.out HBx.out)
              have HB7d := Lib.hid (below_up8 HB.out HBd.out)
              clear HBx HBb hq6 HC1 HC2 HC3 HPR
              have hwa : AW = true → AG = true := HAW.out
              have HNEXT := Lib.hid (show ∀ W, Below wd.heap.size wd W → ∃ j' : Nat, Value.int .i64 ((j : Int) + 1) = .int .i64 j' ∧ j' ≤ 2 ∧ Hid (Below w7.heap.size w7 W) from fun W b => ⟨j + 1, by go_num, HLT.out, Lib.hid (below_up8 HB7d.out b)⟩)
              rcases Nat.eq_zero_or_pos hs.length with hz0 | hz0
              · have hzz : ((hs.length : Int) == 0) = true := by rw [beq_iff_eq]; omega
                have hzz' : (hs.length == 0) = true := by rw [beq_iff_eq]; omega
                cases AW with
                | false =>
                  go_wp2_with fail
                  go_roundw
                  case rel => exact ⟨j + 1, by go_num, HLT.out, HB7d⟩
                  case measure => have h9 := HLT.out; simp [RowKit.intOf]; omega
                | true =>
                  obtain rfl := hwa rfl
                  go_wp2_with fail
                  go_roundw
                  case rel => exact ⟨j + 1, by go_num, HLT.out, HB7d⟩
                  case measure => have h9 := HLT.out; simp [RowKit.intOf]; omega
              · have hzz : ((hs.length : Int) == 0) = false := by rw [beq_eq_false_iff_ne]; omega
                have hzz' : (hs.length == 0) = false := by rw [beq_eq_false_iff_ne]; omega
                have hn24 : hs.length ≤ 24 := by have := HLN.out; omega
                have op0 := pick8_lo (c := out) (n := (hs.length : Nat)) (by omega)
                have op1 := pick8_hi (c := out) (n := (hs.length : Nat)) (by omega)
                have HPO := Lib.hid (HPO.out hs.length ⟨hz0, hn24⟩)
                obtain ⟨k, hk⟩ := Int.eq_ofNat_of_zero_le op0
                rw [hk] at HPO op1
                have hkl : k < hs.length := by omega
                clear hk op0 op1
                obtain ⟨AF, hAF⟩ : ∃ AF, AF = agB f (cutK zz k) (cutK X k) M := ⟨_, rfl⟩
                have HFF := Lib.hid (show AG = true → AF = true from by rw [hAF]; exact HAF.out k hkl)
                have hzl := HZE.out.2.1
                have hxl := HXL.out
                have hrz := HZE.out.2.2 wd HB7d.out
                have hrx := HX7.out.1.below HB7d.out
                obtain ⟨zb, zo, rfl, -, -⟩ := hrz.at_ k (by rw [hzl]; exact hkl)
                obtain ⟨xb, xo, rfl, -, -⟩ := hrx.at_ k (by rw [hxl]; exact hkl)
                have hzk := HZK.out.2
                have hxk := HXC.out.2
                obtain ⟨za2, hzs, hza2, hzn⟩ := KE.from8 zb zo hs.length zk (k + 1) hkl hzk
                obtain ⟨xa2, hxs, hxa2, hxn⟩ := KI.from8 xb xo hs.length xc (k + 1) hkl hxk
                have hkc : ((k + 1 : Nat) : Int) = (k : Int) + 1 := by omega
                rw [hkc] at hzs hxs
                have sl2 := (show ∀ w, (Instr.slice 25 (.slice (some ⟨zb, zo, none⟩) hs.length zk) (some (.int .i64 ((k : Int) + 1))) none none).run Tryd.prog w = .ok (.slice za2 (hs.length - (k + 1)) (zk - (k + 1))) w from hzs)
                have sl4 := (show ∀ w, (Instr.slice 22 (.slice (some ⟨xb, xo, none⟩) hs.length xc) (some (.int .i64 ((k : Int) + 1))) none none).run Tryd.prog w = .ok (.slice xa2 (hs.length - (k + 1)) (xc - (k + 1))) w from hxs)
                have sl1 := (show ∀ w, (Instr.slice 25 (.slice (some ⟨zb, zo, none⟩) hs.length zk) none (some (.int .i64 (k : Int))) none).run Tryd.prog w = .ok (.slice (some ⟨zb, zo, none⟩) k zk) w from KE.upto8 zb zo hs.length zk k (by omega))
                have sl3 := (show ∀ w, (Instr.slice 22 (.slice (some ⟨xb, xo, none⟩) hs.length xc) none (some (.int .i64 (k : Int))) none).run Tryd.prog w = .ok (.slice (some ⟨xb, xo, none⟩) k xc) w from KI.upto8 xb xo hs.length xc k (by omega))
                have hwk : IntKind.i64.wrap ((k : Int) + 1) = (k : Int) + 1 := wrapq8 (by omega)
                have rE1 := hrz.take8 k
                have rE2 := RL.from8 hrz (k + 1) (by omega) (fun h => hza2 (by omega))
                have rI1 := hrx.take8 k
                have rI2 := RL.from8 hrx (k + 1) (by omega) (fun h => hxa2 (by omega))
                have HCUT := Lib.hid (show ∀ (W : World) (ea ia : Option Addr) (ec ic : Nat), Below wd.heap.size wd W → RL KE W ea (zz.take k ++ zz.drop (k + 1)) → RL KI W ia (X.take k ++ X.drop (k + 1)) → Calls Tryd.prog 21 #[.agg #[.slice x1 f.dr.length k1, .int .i64 f.lat, .int .i64 f.lia, .slice x2 f.sv.length k2, .slice x3 f.tm.length k3], .slice ea (zz.take k ++ zz.drop (k + 1)).length ec, .slice ia (X.take k ++ X.drop (k + 1)).length ic, .int .i64 M] W (fun e w' => e = .returned (.bool AF) ∧ Below W.heap.size W w') from fun W ea ia ec ic b h1 h2 => by
                  rw [hAF]
                  exact HAG _ f ea ia ec ic (cutK zz k) (cutK X k) M W HFT.out (by rw [cutK_len zz k (by omega)]; unfold maxLen; omega) (by rw [cutK_len X k (by omega)]; unfold maxLen; omega) (wf_evs (cut_evs HZE.out.1 (by omega))) (HRY.out _ (below_up8 HBwr.out (below_up8 HBd.out b))) (HR.out.1.below (below_up8 HB37.out (below_up8 HB7d.out b))) h1 h2)
                have le1 : k = (zz.take k).length := by rw [List.length_take]; omega
                have le2 : hs.length - (k + 1) = (zz.drop (k + 1)).length := by rw [List.length_drop]; omega
                have li1 : k = (X.take k).length := by rw [List.length_take]; omega
                have li2 : hs.length - (k + 1) = (X.drop (k + 1)).length := by rw [List.length_drop]; omega
                obtain ⟨E1, hE1⟩ : ∃ E1, E1 = zz.take k := ⟨_, rfl⟩
                obtain ⟨E2, hE2⟩ : ∃ E2, E2 = zz.drop (k + 1) := ⟨_, rfl⟩
                obtain ⟨I1, hI1⟩ : ∃ I1, I1 = X.take k := ⟨_, rfl⟩
                obtain ⟨I2, hI2⟩ : ∃ I2, I2 = X.drop (k + 1) := ⟨_, rfl⟩
                rw [← hE1] at le1 rE1 HCUT
                rw [← hE2] at le2 rE2 HCUT
                rw [← hI1] at li1 rI1 HCUT
                rw [← hI2] at li2 rI2 HCUT
                obtain ⟨EJ, hEJ⟩ : ∃ EJ, EJ = E1 ++ E2 := ⟨_, rfl⟩
                obtain ⟨IJ, hIJ⟩ : ∃ IJ, IJ = I1 ++ I2 := ⟨_, rfl⟩
                rw [← hEJ, ← hIJ] at HCUT
                have HEJ := Lib.hid hEJ.symm
                have HIJ := Lib.hid hIJ.symm
                clear hEJ hIJ
                have HLE := Lib.hid (And.intro le1 (And.intro le2 (And.intro li1 li2)))
                have HSE := Lib.hid (And.intro (show E1.length + E2.length ≤ 100000000 by omega) (show I1.length + I2.length ≤ 100000000 by omega))
                have HN2 := Lib.hid (And.intro hzn hxn)
                have HE1 := Lib.hid (fun W (b : Below wd.heap.size wd W) => rE1.below b)
                have HE2 := Lib.hid (fun W (b : Below wd.heap.size wd W) => rE2.below b)
                have HI1 := Lib.hid (fun W (b : Below wd.heap.size wd W) => rI1.below b)
                have HI2 := Lib.hid (fun W (b : Below wd.heap.size wd W) => rI2.below b)
                have HKd := Lib.hid (fun W (b : Below wd.heap.size wd W) => HKq.out W (below_up8 HBd.out b))
                have HKL := Lib.hid hkl
                clear hAF hzl hxl hrz hrx hza2 hxa2 hzn hxn hzs hxs hkc rE1 rE2 rI1 rI2 le1 le2 li1 li2 hE1 hE2 hI1 hI2 hkl hzk hxk hwa HKq
                cases AW with
                | false =>
                  go_upto_region 22 with (go_at_call 26; refine (HPO.out _).mono ?_; rintro e z ⟨rfl, rfl⟩)
                  go_cut [31] from 115 to 137 (fun s31 wx => s31 = .bool AF ∧ Hid (Below wd.heap.size wd wx))
                  case first =>
                    skip
                    refine wp_region_noPanic ?_
                    refine wp_region_Kx (C := NewB wd) [23] 23 #[false, false, false, false, false, false, false, false, false, false, false, false, false, false, false, false, false, false, false, false, false, false, false, false] (by kernel_rfl) (by kernel_rfl) (by kernel_rfl) (newB0 _) ?_
                    intro wx hwx
                    refine wpAnyK_ex (i := 0) rfl (by kernel_rfl) (listed' := #[true, false, false, false, false, false, false, false, false, false, false, false, false, false, false, false, false, false, false, false, false, false, false, false]) rfl (fun _ _ _ _ _ h => h) hwx ?_
                    apply Exists.intro
                    refine ⟨⟨by kernel_rfl, fun wy hw => ?_⟩, ?_⟩
                    · (have bw := hw.below; have f0 := (show wy.cell? ⟨Q, 0, none⟩ = some (.slice x1 f.dr.length k1) from (HKd.out wy bw 0 (by simp)).1); have f1 := (show wy.cell? ⟨Q, 1, none⟩ = some (.int .i64 f.lat) from (HKd.out wy bw 1 (by simp)).1); have f2 := (show wy.cell? ⟨Q, 2, none⟩ = some (.int .i64 f.lia) from (HKd.out wy bw 2 (by simp)).1); have f3 := (show wy.cell? ⟨Q, 3, none⟩ = some (.slice x2 f.sv.length k2) from (HKd.out wy bw 3 (by simp)).1); have f4 := (show wy.cell? ⟨Q, 4, none⟩ = some (.slice x3 f.tm.length k3) from (HKd.out wy bw 4 (by simp)).1); go_simp; try (first | (with_reducible rfl) | (with_reducible exact ⟨rfl, rfl⟩)))
                    try simp only [Act.put, List.getElem_toArray, List.getElem_cons_zero, List.setIfInBounds_toArray, List.set_cons_succ, List.set_cons_zero]
                    refine wpAnyK_ex (i := 2) rfl (by kernel_rfl) (listed' := #[true, false, true, false, false, false, false, false, false, false, false, false, false, false, false, false, false, false, false, false, false, false, false, false]) rfl (fun _ _ _ _ _ h => h) hwx ?_
                    apply Exists.intro
                    refine ⟨⟨by kernel_rfl, fun wy hw => ?_⟩, ?_⟩
                    · (have bw := hw.below; go_simp; try (first | (with_reducible rfl) | (with_reducible exact ⟨rfl, rfl⟩)))
                    try simp only [Act.put, List.getElem_toArray, List.getElem_cons_succ, List.getElem_cons_zero, List.setIfInBounds_toArray, List.set_cons_succ, List.set_cons_zero]
                    refine wpAnyK_ex (i := 3) rfl (by kernel_rfl) (listed' := #[true, false, true, true, false, false, false, false, false, false, false, false, false, false, false, false, false, false, false, false, false, false, false, false]) rfl (fun _ _ _ _ _ h => h) hwx ?_
                    apply Exists.intro
                    refine ⟨⟨by kernel_rfl, fun wy hw => ?_⟩, ?_⟩
                    · (have bw := hw.below; go_simp; try (first | (with_reducible rfl) | (with_reducible exact ⟨rfl, rfl⟩)))
                    try simp only [Act.put, List.getElem_toArray, List.getElem_cons_succ, List.getElem_cons_zero, List.setIfInBounds_toArray, List.set_cons_succ, List.set_cons_zero]
                    refine wpAnyK_ex (i := 4) rfl (by kernel_rfl) (listed' := #[true, false, true, true, true, false, false, false, false, false, false, false, false, false, false, false, false, false, false, false, false, false, false, false]) rfl (fun _ _ _ _ _ h => h) hwx ?_
                    apply Exists.intro
                    refine ⟨⟨by kernel_rfl, fun wy hw => ?_⟩, ?_⟩
                    · (have bw := hw.below; go_simp; try (first | (with_reducible rfl) | (with_reducible exact ⟨rfl, rfl⟩)))
                    try simp only [Act.put, List.getElem_toArray, List.getElem_cons_succ, List.getElem_cons_zero, List.setIfInBounds_toArray, List.set_cons_succ, List.set_cons_zero]
                    refine wpAnyK_ex (i := 6) rfl (by kernel_rfl) (listed' := #[true, false, true, true, true, false, true, false, false, false, false, false, false, false, false, false, false, false, false, false, false, false, false, false]) rfl (fun _ _ _ _ _ h => h) hwx ?_
                    apply Exists.intro
                    refine ⟨⟨by kernel_rfl, fun wy hw => ?_⟩, ?_⟩
                    · (have bw := hw.below; go_simp; try (first | (with_reducible rfl) | (with_reducible exact ⟨rfl, rfl⟩)))
                    try simp only [Act.put, List.getElem_toArray, List.getElem_cons_succ, List.getElem_cons_zero, List.setIfInBounds_toArray, List.set_cons_succ, List.set_cons_zero]
                    refine wpAnyK_ex (i := 7) rfl (by kernel_rfl) (listed' := #[true, false, true, true, true, false, true, true, false, false, false, false, false, false, false, false, false, false, false, false, false, false, false, false]) rfl (fun _ _ _ _ _ h => h) hwx ?_
                    apply Exists.intro
                    refine ⟨⟨by kernel_rfl, fun wy hw => ?_⟩, ?_⟩
                    · (have bw := hw.below; go_simp; try (first | (with_reducible rfl) | (with_reducible exact ⟨rfl, rfl⟩)))
                    try simp only [Act.put, List.getElem_toArray, List.getElem_cons_succ, List.getElem_cons_zero, List.setIfInBounds_toArray, List.set_cons_succ, List.set_cons_zero]
                    refine wpAnyK_ex (i := 8) rfl (by kernel_rfl) (listed' := #[true, false, true, true, true, false, true, true, true, false, false, false, false, false, false, false, false, false, false, false, false, false, false, false]) rfl (fun _ _ _ _ _ h => h) hwx ?_
                    apply Exists.intro
                    refine ⟨⟨by kernel_rfl, fun wy hw => ?_⟩, ?_⟩
                    · (have bw := hw.below; go_simp; try (first | (with_reducible rfl) | (with_reducible exact ⟨rfl, rfl⟩)))
                    try simp only [Act.put, List.getElem_toArray, List.getElem_cons_succ, List.getElem_cons_zero, List.setIfInBounds_toArray, List.set_cons_succ, List.set_cons_zero]
                    refine wpAnyK_ex (i := 9) rfl (by kernel_rfl) (listed' := #[true, false, true, true, true, false, true, true, true, true, false, false, false, false, false, false, false, false, false, false, false, false, false, false]) rfl (fun _ _ _ _ _ h => h) hwx ?_
                    apply Exists.intro
                    refine ⟨⟨by kernel_rfl, fun wy hw => ?_⟩, ?_⟩
                    · (have bw := hw.below; go_simp; try (first | (with_reducible rfl) | (with_reducible exact ⟨rfl, rfl⟩)))
                    try simp only [Act.put, List.getElem_toArray, List.getElem_cons_succ, List.getElem_cons_zero, List.setIfInBounds_toArray, List.set_cons_succ, List.set_cons_zero]
                    refine wpAnyK_ex (i := 12) rfl (by kernel_rfl) (listed' := #[true, false, true, true, true, false, true, true, true, true, false, false, true, false, false, false, false, false, false, false, false, false, false, false]) rfl (fun _ _ _ _ _ h => h) hwx ?_
                    apply Exists.intro
                    refine ⟨⟨by kernel_rfl, fun wy hw => ?_⟩, ?_⟩
                    · (have bw := hw.below; go_simp; try (first | (with_reducible rfl) | (with_reducible exact ⟨rfl, rfl⟩)))
                    try simp only [Act.put, List.getElem_toArray, List.getElem_cons_succ, List.getElem_cons_zero, List.setIfInBounds_toArray, List.set_cons_succ, List.set_cons_zero]
                    refine wpAnyK_ex (i := 13) rfl (by kernel_rfl) (listed' := #[true, false, true, true, true, false, true, true, true, true, false, false, true, true, false, false, false, false, false, false, false, false, false, false]) rfl (fun _ _ _ _ _ h => h) hwx ?_
                    apply Exists.intro
                    refine ⟨⟨by kernel_rfl, fun wy hw => ?_⟩, ?_⟩
                    · (have bw := hw.below; go_simp; try (first | (with_reducible rfl) | (with_reducible exact ⟨rfl, rfl⟩)))
                    try simp only [Act.put, List.getElem_toArray, List.getElem_cons_succ, List.getElem_cons_zero, List.setIfInBounds_toArray, List.set_cons_succ, List.set_cons_zero]
                    refine wpAnyK_ex (i := 14) rfl (by kernel_rfl) (listed' := #[true, false, true, true, true, false, true, true, true, true, false, false, true, true, true, false, false, false, false, false, false, false, false, false]) rfl (fun _ _ _ _ _ h => h) hwx ?_
                    apply Exists.intro
                    refine ⟨⟨by kernel_rfl, fun wy hw => ?_⟩, ?_⟩
                    · (have bw := hw.below; go_simp; try (first | (with_reducible rfl) | (with_reducible exact ⟨rfl, rfl⟩)))
                    try simp only [Act.put, List.getElem_toArray, List.getElem_cons_succ, List.getElem_cons_zero, List.setIfInBounds_toArray, List.set_cons_succ, List.set_cons_zero]
                    refine wpAnyK_ex (i := 16) rfl (by kernel_rfl) (listed' := #[true, false, true, true, true, false, true, true, true, true, false, false, true, true, true, false, true, false, false, false, false, false, false, false]) rfl (fun _ _ _ _ _ h => h) hwx ?_
                    apply Exists.intro
                    refine ⟨⟨by kernel_rfl, fun wy hw => ?_⟩, ?_⟩
                    · (have bw := hw.below; go_simp; try (first | (with_reducible rfl) | (with_reducible exact ⟨rfl, rfl⟩)))
                    try simp only [Act.put, List.getElem_toArray, List.getElem_cons_succ, List.getElem_cons_zero, List.setIfInBounds_toArray, List.set_cons_succ, List.set_cons_zero]
                    refine wpAnyK_ex (i := 17) rfl (by kernel_rfl) (listed' := #[true, false, true, true, true, false, true, true, true, true, false, false, true, true, true, false, true, true, false, false, false, false, false, false]) rfl (fun _ _ _ _ _ h => h) hwx ?_
                    apply Exists.intro
                    refine ⟨⟨by kernel_rfl, fun wy hw => ?_⟩, ?_⟩
                    · (have bw := hw.below; go_simp; try (first | (with_reducible rfl) | (with_reducible exact ⟨rfl, rfl⟩)))
                    try simp only [Act.put, List.getElem_toArray, List.getElem_cons_succ, List.getElem_cons_zero, List.setIfInBounds_toArray, List.set_cons_succ, List.set_cons_zero]
                    refine wpAnyK_ex (i := 18) rfl (by kernel_rfl) (listed' := #[true, false, true, true, true, false, true, true, true, true, false, false, true, true, true, false, true, true, true, false, false, false, false, false]) rfl (fun _ _ _ _ _ h => h) hwx ?_
                    apply Exists.intro
                    refine ⟨⟨by kernel_rfl, fun wy hw => ?_⟩, ?_⟩
                    · (have bw := hw.below; go_simp; try (first | (with_reducible rfl) | (with_reducible exact ⟨rfl, rfl⟩)))
                    try simp only [Act.put, List.getElem_toArray, List.getElem_cons_succ, List.getElem_cons_zero, List.setIfInBounds_toArray, List.set_cons_succ, List.set_cons_zero]
                    refine wpAnyK_ex (i := 19) rfl (by kernel_rfl) (listed' := #[true, false, true, true, true, false, true, true, true, true, false, false, true, true, true, false, true, true, true, true, false, false, false, false]) rfl (fun _ _ _ _ _ h => h) hwx ?_
                    apply Exists.intro
                    refine ⟨⟨by kernel_rfl, fun wy hw => ?_⟩, ?_⟩
                    · (have bw := hw.below; go_simp; try (first | (with_reducible rfl) | (with_reducible exact ⟨rfl, rfl⟩)))
                    try simp only [Act.put, List.getElem_toArray, List.getElem_cons_succ, List.getElem_cons_zero, List.setIfInBounds_toArray, List.set_cons_succ, List.set_cons_zero]
                    refine wpAnyK_ex (i := 21) rfl (by kernel_rfl) (listed' := #[true, false, true, true, true, false, true, true, true, true, false, false, true, true, true, false, true, true, true, true, false, true, false, false]) rfl (fun _ _ _ _ _ h => h) hwx ?_
                    apply Exists.intro
                    refine ⟨⟨by kernel_rfl, fun wy hw => ?_⟩, ?_⟩
                    · (have bw := hw.below; go_simp; try (first | (with_reducible rfl) | (with_reducible exact ⟨rfl, rfl⟩)))
                    try simp only [Act.put, List.getElem_toArray, List.getElem_cons_succ, List.getElem_cons_zero, List.setIfInBounds_toArray, List.set_cons_succ, List.set_cons_zero]
                    have HXs := Lib.hid hwx.below
                    refine wpAnyK_fork2 1 11 (by kernel_rfl) ?_ ?_
                    · skip
                      obtain ⟨wp1, Vp1, Zp1, _, Bp1⟩ := lay8 wx [] 46
                      have Vp1 := (show wx.alloc (.cells #[] 46) = wp1 from Vp1)
                      have HX1 := Lib.hid (show Below wd.heap.size wd wp1 from below_up8 HXs.out Bp1)
                      have HO1 := Lib.hid (show Own KE wp1 wd.heap.size (.slice (some ⟨wx.heap.size, 0, none⟩) 0 0) [] from by rw [← Vp1]; exact KE.new wx wd.heap.size [] HXs.out.size (by simp) [] rfl 46 rfl 0 rfl)
                      clear Zp1 Bp1
                      refine wpOpK_step rfl (by kernel_rfl) (listed' := #[true, true, true, true, true, false, true, true, true, true, false, false, true, true, true, false, true, true, true, true, false, true, false, false]) rfl (by kernel_rfl) (fun K hK => ?_)
                      go_simp
                      refine hK _ _ (HX1.out) ?_
                      clear hK K Vp1
                      try simp only [Act.put, List.getElem_toArray, List.getElem_cons_succ, List.getElem_cons_zero, List.setIfInBounds_toArray, List.set_cons_succ, List.set_cons_zero]
                      refine wpAnyK_fork2 5 11 (by kernel_rfl) ?_ ?_
                      · skip
                        refine wpOpK_step rfl (by kernel_rfl) (listed' := #[true, true, true, true, true, true, true, true, true, true, false, false, true, true, true, false, true, true, true, true, false, true, false, false]) rfl (by kernel_rfl) (fun K hK => ?_)
                        refine oper_append8 KE _ _ rfl wd.heap.size (Value.slice (some ⟨wx.heap.size, 0, none⟩) 0 0) ([]) E1 rfl HO1.out HX1.out.size (some ⟨zb, zo, none⟩) k zk rfl HLE.out.1 (HE1.out _ HX1.out) (fun h => by cases h) (by have h9 := HSE.out.1; simp only [List.length_nil]; omega) ?_
                        intro v2 w2 ho2 hg2 hk2
                        rw [List.nil_append] at ho2
                        have HX2 := Lib.hid (show Below wd.heap.size wd w2 from HX1.out.grown hg2 HX1.out.size (fun k hk => (HO1.out.ge k hk).1))
                        obtain ⟨av2, cv2, ev2, _⟩ := ho2.form
                        subst ev2
                        have HO2 := Lib.hid ho2
                        clear ho2 hg2 hk2
                        refine hK _ _ (HX2.out) ?_
                        clear hK K
                        try simp only [Act.put, List.getElem_toArray, List.getElem_cons_succ, List.getElem_cons_zero, List.setIfInBounds_toArray, List.set_cons_succ, List.set_cons_zero]
                        refine wpAnyK_fork2 10 11 (by kernel_rfl) ?_ ?_
                        · skip
                          refine wpOpK_step rfl (by kernel_rfl) (listed' := #[true, true, true, true, true, true, true, true, true, true, true, false, true, true, true, false, true, true, true, true, false, true, false, false]) rfl (by kernel_rfl) (fun K hK => ?_)
                          refine oper_append8 KE _ _ rfl wd.heap.size (Value.slice av2 (E1).length cv2) (E1) E2 rfl HO2.out HX2.out.size za2 (hs.length - (k + 1)) (zk - (k + 1)) rfl HLE.out.2.1 (HE2.out _ HX2.out) HN2.out.1 HSE.out.1 ?_
                          intro v3 w3 ho3 hg3 hk3
                          rw [HEJ.out] at ho3
                          have HX3 := Lib.hid (show Below wd.heap.size wd w3 from HX2.out.grown hg3 HX2.out.size (fun k hk => (HO2.out.ge k hk).1))
                          obtain ⟨av3, cv3, ev3, _⟩ := ho3.form
                          subst ev3
                          have HO3 := Lib.hid ho3
                          clear ho3 hg3 hk3
                          refine hK _ _ (HX3.out) ?_
                          clear hK K
                          try simp only [Act.put, List.getElem_toArray, List.getElem_cons_succ, List.getElem_cons_zero, List.setIfInBounds_toArray, List.set_cons_succ, List.set_cons_zero]
                          refine wpAnyK_fork1 11 (by kernel_rfl) ?_
                          obtain ⟨wp4, Vp4, Zp4, _, Bp4⟩ := lay8 w3 [] 3
                          have Vp4 := (show w3.alloc (.cells #[] 3) = wp4 from Vp4)
                          have HX4 := Lib.hid (show Below wd.heap.size wd wp4 from below_up8 HX3.out Bp4)
                          have HO4 := Lib.hid (show Own KI wp4 wd.heap.size (.slice (some ⟨w3.heap.size, 0, none⟩) 0 0) [] from by rw [← Vp4]; exact KI.new w3 wd.heap.size [] HX3.out.size (by simp) [] rfl 3 rfl 0 rfl)
                          have HP4 := Lib.hid (HO3.out.below Bp4 (Nat.le_refl _))
                          have HD4 := Lib.hid (show ∀ j, (Value.slice av3 (EJ).length cv3).ownBlock = some j → (Value.slice (some ⟨w3.heap.size, 0, none⟩) 0 0).ownBlock ≠ some j from fun j e e2 => by have h9 := (HO3.out.ge j e).2; have e3 := Option.some.inj (show some w3.heap.size = some j from e2); omega)
                          clear Zp4 Bp4
                          refine wpOpK_step rfl (by kernel_rfl) (listed' := #[true, true, true, true, true, true, true, true, true, true, true, true, true, true, true, false, true, true, true, true, false, true, false, false]) rfl (by kernel_rfl) (fun K hK => ?_)
                          go_simp
                          refine hK _ _ (HX4.out) ?_
                          clear hK K Vp4
                          try simp only [Act.put, List.getElem_toArray, List.getElem_cons_succ, List.getElem_cons_zero, List.setIfInBounds_toArray, List.set_cons_succ, List.set_cons_zero]
                          refine wpAnyK_fork1 15 (by kernel_rfl) ?_
                          refine wpOpK_step rfl (by kernel_rfl) (listed' := #[true, true, true, true, true, true, true, true, true, true, true, true, true, true, true, true, true, true, true, true, false, true, false, false]) rfl (by kernel_rfl) (fun K hK => ?_)
                          refine oper_append8 KI _ _ rfl wd.heap.size (Value.slice (some ⟨w3.heap.size, 0, none⟩) 0 0) ([]) I1 rfl HO4.out HX4.out.size (some ⟨xb, xo, none⟩) k xc rfl HLE.out.2.2.1 (HI1.out _ HX4.out) (fun h => by cases h) (by have h9 := HSE.out.2; simp only [List.length_nil]; omega) ?_
                          intro v5 w5 ho5 hg5 hk5
                          rw [List.nil_append] at ho5
                          have HX5 := Lib.hid (show Below wd.heap.size wd w5 from HX4.out.grown hg5 HX4.out.size (fun k hk => (HO4.out.ge k hk).1))
                          have HP5 := Lib.hid (own_grown8 HP4.out hg5 (fun j e e2 => HD4.out j e e2))
                          have HD5 := Lib.hid (show ∀ j, (Value.slice av3 (EJ).length cv3).ownBlock = some j → v5.ownBlock ≠ some j from fun j e e2 => by
                            rcases hk5 with h9 | h9
                            · rw [h9] at e2; exact HD4.out j e e2
                            · rw [h9] at e2; injection e2 with e2; have h8 := (HP4.out.ge j e).2; omega)
                          obtain ⟨av5, cv5, ev5, _⟩ := ho5.form
                          subst ev5
                          have HO5 := Lib.hid ho5
                          clear ho5 hg5 hk5
                          refine hK _ _ (HX5.out) ?_
                          clear hK K
                          try simp only [Act.put, List.getElem_toArray, List.getElem_cons_succ, List.getElem_cons_zero, List.setIfInBounds_toArray, List.set_cons_succ, List.set_cons_zero]
                          refine wpAnyK_fork1 20 (by kernel_rfl) ?_
                          refine wpOpK_step rfl (by kernel_rfl) (listed' := #[true, true, true, true, true, true, true, true, true, true, true, true, true, true, true, true, true, true, true, true, true, true, false, false]) rfl (by kernel_rfl) (fun K hK => ?_)
                          refine oper_append8 KI _ _ rfl wd.heap.size (Value.slice av5 (I1).length cv5) (I1) I2 rfl HO5.out HX5.out.size xa2 (hs.length - (k + 1)) (xc - (k + 1)) rfl HLE.out.2.2.2 (HI2.out _ HX5.out) HN2.out.2 HSE.out.2 ?_
                          intro v6 w6 ho6 hg6 hk6
                          rw [HIJ.out] at ho6
                          have HX6 := Lib.hid (show Below wd.heap.size wd w6 from HX5.out.grown hg6 HX5.out.size (fun k hk => (HO5.out.ge k hk).1))
                          have HP6 := Lib.hid (own_grown8 HP5.out hg6 (fun j e e2 => HD5.out j e e2))
                          have HD6 := Lib.hid (show ∀ j, (Value.slice av3 (EJ).length cv3).ownBlock = some j → v6.ownBlock ≠ some j from fun j e e2 => by
                            rcases hk6 with h9 | h9
                            · rw [h9] at e2; exact HD5.out j e e2
                            · rw [h9] at e2; injection e2 with e2; have h8 := (HP5.out.ge j e).2; omega)
                          obtain ⟨av6, cv6, ev6, _⟩ := ho6.form
                          subst ev6
                          have HO6 := Lib.hid ho6
                          clear ho6 hg6 hk6
                          refine hK _ _ (HX6.out) ?_
                          clear hK K
                          try simp only [Act.put, List.getElem_toArray, List.getElem_cons_succ, List.getElem_cons_zero, List.setIfInBounds_toArray, List.set_cons_succ, List.set_cons_zero]
                          refine wpAnyK_fork1 22 (by kernel_rfl) ?_
                          refine wpOpK_step rfl (by kernel_rfl) (listed' := #[true, true, true, true, true, true, true, true, true, true, true, true, true, true, true, true, true, true, true, true, true, true, true, false]) rfl (by kernel_rfl) (fun K hK => ?_)
                          have re7 := rl_own8 HP6.out
                          have ri7 := rl_own8 HO6.out
                          go_simp
                          refine (HCUT.out _ _ _ _ _ HX6.out re7 ri7).mono ?_
                          rintro e w7 ⟨rfl, hb7⟩
                          have HX7 := Lib.hid (below_up8 HX6.out hb7)
                          refine hK _ _ HX7.out ?_
                          clear hK K hb7 re7 ri7
                          try simp only [Act.put, List.getElem_toArray, List.getElem_cons_succ, List.getElem_cons_zero, List.setIfInBounds_toArray, List.set_cons_succ, List.set_cons_zero]
                          refine wpAnyK_end (by kernel_rfl) ?_
                          try simp only [pickOps, List.filterMap_cons, List.filterMap_nil, List.getElem?_toArray, List.getElem?_cons_succ, List.getElem?_cons_zero]
                          go_wp2_with fail
                          refine NoPanic.normal ?_
                          go_wp2_with fail
                          go_meet
                          exact ⟨rfl, HX7⟩
                        · skip
                          obtain ⟨wp8, Vp8, Zp8, _, Bp8⟩ := lay8 w2 [] 3
                          have Vp8 := (show w2.alloc (.cells #[] 3) = wp8 from Vp8)
                          have HX8 := Lib.hid (show Below wd.heap.size wd wp8 from below_up8 HX2.out Bp8)
                          have HO8 := Lib.hid (show Own KI wp8 wd.heap.size (.slice (some ⟨w2.heap.size, 0, none⟩) 0 0) [] from by rw [← Vp8]; exact KI.new w2 wd.heap.size [] HX2.out.size (by simp) [] rfl 3 rfl 0 rfl)
                          have HP8 := Lib.hid (HO2.out.below Bp8 (Nat.le_refl _))
                          have HD8 := Lib.hid (show ∀ j, (Value.slice av2 (E1).length cv2).ownBlock = some j → (Value.slice (some ⟨w2.heap.size, 0, none⟩) 0 0).ownBlock ≠ some j from fun j e e2 => by have h9 := (HO2.out.ge j e).2; have e3 := Option.some.inj (show some w2.heap.size = some j from e2); omega)
                          clear Zp8 Bp8
                          refine wpOpK_step rfl (by kernel_rfl) (listed' := #[true, true, true, true, true, true, true, true, true, true, false, true, true, true, true, false, true, true, true, true, false, true, false, false]) rfl (by kernel_rfl) (fun K hK => ?_)
                          go_simp
                          refine hK _ _ (HX8.out) ?_
                          clear hK K Vp8
                          try simp only [Act.put, List.getElem_toArray, List.getElem_cons_succ, List.getElem_cons_zero, List.setIfInBounds_toArray, List.set_cons_succ, List.set_cons_zero]
                          refine wpAnyK_fork1 10 (by kernel_rfl) ?_
                          refine wpOpK_step rfl (by kernel_rfl) (listed' := #[true, true, true, true, true, true, true, true, true, true, true, true, true, true, true, false, true, true, true, true, false, true, false, false]) rfl (by kernel_rfl) (fun K hK => ?_)
                          refine oper_append8 KE _ _ rfl wd.heap.size (Value.slice av2 (E1).length cv2) (E1) E2 rfl HP8.out HX8.out.size za2 (hs.length - (k + 1)) (zk - (k + 1)) rfl HLE.out.2.1 (HE2.out _ HX8.out) HN2.out.1 HSE.out.1 ?_
                          intro v9 w9 ho9 hg9 hk9
                          rw [HEJ.out] at ho9
                          have HX9 := Lib.hid (show Below wd.heap.size wd w9 from HX8.out.grown hg9 HX8.out.size (fun k hk => (HP8.out.ge k hk).1))
                          have HP9 := Lib.hid (own_grown8 HO8.out hg9 (fun j e e2 => HD8.out j e2 e))
                          have HD9 := Lib.hid (show ∀ j, v9.ownBlock = some j → (Value.slice (some ⟨w2.heap.size, 0, none⟩) 0 0).ownBlock ≠ some j from fun j e2 e => by
                            rcases hk9 with h9 | h9
                            · rw [h9] at e2; exact HD8.out j e2 e
                            · rw [h9] at e2; injection e2 with e2; have h8 := (HO8.out.ge j e).2; omega)
                          obtain ⟨av9, cv9, ev9, _⟩ := ho9.form
                          subst ev9
                          have HO9 := Lib.hid ho9
                          clear ho9 hg9 hk9
                          refine hK _ _ (HX9.out) ?_
                          clear hK K
                          try simp only [Act.put, List.getElem_toArray, List.getElem_cons_succ, List.getElem_cons_zero, List.setIfInBounds_toArray, List.set_cons_succ, List.set_cons_zero]
                          refine wpAnyK_fork1 15 (by kernel_rfl) ?_
                          refine wpOpK_step rfl (by kernel_rfl) (listed' := #[true, true, true, true, true, true, true, true, true, true, true, true, true, true, true, true, true, true, true, true, false, true, false, false]) rfl (by kernel_rfl) (fun K hK => ?_)
                          refine oper_append8 KI _ _ rfl wd.heap.size (Value.slice (some ⟨w2.heap.size, 0, none⟩) 0 0) ([]) I1 rfl HP9.out HX9.out.size (some ⟨xb, xo, none⟩) k xc rfl HLE.out.2.2.1 (HI1.out _ HX9.out) (fun h => by cases h) (by have h9 := HSE.out.2; simp only [List.length_nil]; omega) ?_
                          intro v10 w10 ho10 hg10 hk10
                          rw [List.nil_append] at ho10
                          have HX10 := Lib.hid (show Below wd.heap.size wd w10 from HX9.out.grown hg10 HX9.out.size (fun k hk => (HP9.out.ge k hk).1))
                          have HP10 := Lib.hid (own_grown8 HO9.out hg10 (fun j e e2 => HD9.out j e e2))
                          have HD10 := Lib.hid (show ∀ j, (Value.slice av9 (EJ).length cv9).ownBlock = some j → v10.ownBlock ≠ some j from fun j e e2 => by
                            rcases hk10 with h9 | h9
                            · rw [h9] at e2; exact HD9.out j e e2
                            · rw [h9] at e2; injection e2 with e2; have h8 := (HO9.out.ge j e).2; omega)
                          obtain ⟨av10, cv10, ev10, _⟩ := ho10.form
                          subst ev10
                          have HO10 := Lib.hid ho10
                          clear ho10 hg10 hk10
                          refine hK _ _ (HX10.out) ?_
                          clear hK K
                          try simp only [Act.put, List.getElem_toArray, List.getElem_cons_succ, List.getElem_cons_zero, List.setIfInBounds_toArray, List.set_cons_succ, List.set_cons_zero]
                          refine wpAnyK_fork1 20 (by kernel_rfl) ?_
                          refine wpOpK_step rfl (by kernel_rfl) (listed' := #[true, true, true, true, true, true, true, true, true, true, true, true, true, true, true, true, true, true, true, true, true, true, false, false]) rfl (by kernel_rfl) (fun K hK => ?_)
                          refine oper_append8 KI _ _ rfl wd.heap.size (Value.slice av10 (I1).length cv10) (I1) I2 rfl HO10.out HX10.out.size xa2 (hs.length - (k + 1)) (xc - (k + 1)) rfl HLE.out.2.2.2 (HI2.out _ HX10.out) HN2.out.2 HSE.out.2 ?_
                          intro v11 w11 ho11 hg11 hk11
                          rw [HIJ.out] at ho11
                          have HX11 := Lib.hid (show Below wd.heap.size wd w11 from HX10.out.grown hg11 HX10.out.size (fun k hk => (HO10.out.ge k hk).1))
                          have HP11 := Lib.hid (own_grown8 HP10.out hg11 (fun j e e2 => HD10.out j e e2))
                          have HD11 := Lib.hid (show ∀ j, (Value.slice av9 (EJ).length cv9).ownBlock = some j → v11.ownBlock ≠ some j from fun j e e2 => by
                            rcases hk11 with h9 | h9
                            · rw [h9] at e2; exact HD10.out j e e2
                            · rw [h9] at e2; injection e2 with e2; have h8 := (HP10.out.ge j e).2; omega)
                          obtain ⟨av11, cv11, ev11, _⟩ := ho11.form
                          subst ev11
                          have HO11 := Lib.hid ho11
                          clear ho11 hg11 hk11
                          refine hK _ _ (HX11.out) ?_
                          clear hK K
                          try simp only [Act.put, List.getElem_toArray, List.getElem_cons_succ, List.getElem_cons_zero, List.setIfInBounds_toArray, List.set_cons_succ, List.set_cons_zero]
                          refine wpAnyK_fork1 22 (by kernel_rfl) ?_
                          refine wpOpK_step rfl (by kernel_rfl) (listed' := #[true, true, true, true, true, true, true, true, true, true, true, true, true, true, true, true, true, true, true, true, true, true, true, false]) rfl (by kernel_rfl) (fun K hK => ?_)
                          have re12 := rl_own8 HP11.out
                          have ri12 := rl_own8 HO11.out
                          go_simp
                          refine (HCUT.out _ _ _ _ _ HX11.out re12 ri12).mono ?_
                          rintro e w12 ⟨rfl, hb12⟩
                          have HX12 := Lib.hid (below_up8 HX11.out hb12)
                          refine hK _ _ HX12.out ?_
                          clear hK K hb12 re12 ri12
                          try simp only [Act.put, List.getElem_toArray, List.getElem_cons_succ, List.getElem_cons_zero, List.setIfInBounds_toArray, List.set_cons_succ, List.set_cons_zero]
                          refine wpAnyK_end (by kernel_rfl) ?_
                          try simp only [pickOps, List.filterMap_cons, List.filterMap_nil, List.getElem?_toArray, List.getElem?_cons_succ, List.getElem?_cons_zero]
                          go_wp2_with fail
                          refine NoPanic.normal ?_
                          go_wp2_with fail
                          go_meet
                          exact ⟨rfl, HX12⟩
                      · skip
                        obtain ⟨wp13, Vp13, Zp13, _, Bp13⟩ := lay8 wp1 [] 3
                        have Vp13 := (show wp1.alloc (.cells #[] 3) = wp13 from Vp13)
                        have HX13 := Lib.hid (show Below wd.heap.size wd wp13 from below_up8 HX1.out Bp13)
                        have HO13 := Lib.hid (show Own KI wp13 wd.heap.size (.slice (some ⟨wp1.heap.size, 0, none⟩) 0 0) [] from by rw [← Vp13]; exact KI.new wp1 wd.heap.size [] HX1.out.size (by simp) [] rfl 3 rfl 0 rfl)
                        have HP13 := Lib.hid (HO1.out.below Bp13 (Nat.le_refl _))
                        have HD13 := Lib.hid (show ∀ j, (Value.slice (some ⟨wx.heap.size, 0, none⟩) 0 0).ownBlock = some j → (Value.slice (some ⟨wp1.heap.size, 0, none⟩) 0 0).ownBlock ≠ some j from fun j e e2 => by have h9 := (HO1.out.ge j e).2; have e3 := Option.some.inj (show some wp1.heap.size = some j from e2); omega)
                        clear Zp13 Bp13
                        refine wpOpK_step rfl (by kernel_rfl) (listed' := #[true, true, true, true, true, false, true, true, true, true, false, true, true, true, true, false, true, true, true, true, false, true, false, false]) rfl (by kernel_rfl) (fun K hK => ?_)
                        go_simp
                        refine hK _ _ (HX13.out) ?_
                        clear hK K Vp13
                        try simp only [Act.put, List.getElem_toArray, List.getElem_cons_succ, List.getElem_cons_zero, List.setIfInBounds_toArray, List.set_cons_succ, List.set_cons_zero]
                        refine wpAnyK_fork1 5 (by kernel_rfl) ?_
                        refine wpOpK_step rfl (by kernel_rfl) (listed' := #[true, true, true, true, true, true, true, true, true, true, false, true, true, true, true, false, true, true, true, true, false, true, false, false]) rfl (by kernel_rfl) (fun K hK => ?_)
                        refine oper_append8 KE _ _ rfl wd.heap.size (Value.slice (some ⟨wx.heap.size, 0, none⟩) 0 0) ([]) E1 rfl HP13.out HX13.out.size (some ⟨zb, zo, none⟩) k zk rfl HLE.out.1 (HE1.out _ HX13.out) (fun h => by cases h) (by have h9 := HSE.out.1; simp only [List.length_nil]; omega) ?_
                        intro v14 w14 ho14 hg14 hk14
                        rw [List.nil_append] at ho14
                        have HX14 := Lib.hid (show Below wd.heap.size wd w14 from HX13.out.grown hg14 HX13.out.size (fun k hk => (HP13.out.ge k hk).1))
                        have HP14 := Lib.hid (own_grown8 HO13.out hg14 (fun j e e2 => HD13.out j e2 e))
                        have HD14 := Lib.hid (show ∀ j, v14.ownBlock = some j → (Value.slice (some ⟨wp1.heap.size, 0, none⟩) 0 0).ownBlock ≠ some j from fun j e2 e => by
                          rcases hk14 with h9 | h9
                          · rw [h9] at e2; exact HD13.out j e2 e
                          · rw [h9] at e2; injection e2 with e2; have h8 := (HO13.out.ge j e).2; omega)
                        obtain ⟨av14, cv14, ev14, _⟩ := ho14.form
                        subst ev14
                        have HO14 := Lib.hid ho14
                        clear ho14 hg14 hk14
                        refine hK _ _ (HX14.out) ?_
                        clear hK K
                        try simp only [Act.put, List.getElem_toArray, List.getElem_cons_succ, List.getElem_cons_zero, List.setIfInBounds_toArray, List.set_cons_succ, List.set_cons_zero]
                        refine wpAnyK_fork1 10 (by kernel_rfl) ?_
                        refine wpOpK_step rfl (by kernel_rfl) (listed' := #[true, true, true, true, true, true, true, true, true, true, true, true, true, true, true, false, true, true, true, true, false, true, false, false]) rfl (by kernel_rfl) (fun K hK => ?_)
                        refine oper_append8 KE _ _ rfl wd.heap.size (Value.slice av14 (E1).length cv14) (E1) E2 rfl HO14.out HX14.out.size za2 (hs.length - (k + 1)) (zk - (k + 1)) rfl HLE.out.2.1 (HE2.out _ HX14.out) HN2.out.1 HSE.out.1 ?_
                        intro v15 w15 ho15 hg15 hk15
                        rw [HEJ.out] at ho15
                        have HX15 := Lib.hid (show Below wd.heap.size wd w15 from HX14.out.grown hg15 HX14.out.size (fun k hk => (HO14.out.ge k hk).1))
                        have HP15 := Lib.hid (own_grown8 HP14.out hg15 (fun j e e2 => HD14.out j e2 e))
                        have HD15 := Lib.hid (show ∀ j, v15.ownBlock = some j → (Value.slice (some ⟨wp1.heap.size, 0, none⟩) 0 0).ownBlock ≠ some j from fun j e2 e => by
                          rcases hk15 with h9 | h9
                          · rw [h9] at e2; exact HD14.out j e2 e
                          · rw [h9] at e2; injection e2 with e2; have h8 := (HP14.out.ge j e).2; omega)
                        obtain ⟨av15, cv15, ev15, _⟩ := ho15.form
                        subst ev15
                        have HO15 := Lib.hid ho15
                        clear ho15 hg15 hk15
                        refine hK _ _ (HX15.out) ?_
                        clear hK K
                        try simp only [Act.put, List.getElem_toArray, List.getElem_cons_succ, List.getElem_cons_zero, List.setIfInBounds_toArray, List.set_cons_succ, List.set_cons_zero]
                        refine wpAnyK_fork1 15 (by kernel_rfl) ?_
                        refine wpOpK_step rfl (by kernel_rfl) (listed' := #[true, true, true, true, true, true, true, true, true, true, true, true, true, true, true, true, true, true, true, true, false, true, false, false]) rfl (by kernel_rfl) (fun K hK => ?_)
                        refine oper_append8 KI _ _ rfl wd.heap.size (Value.slice (some ⟨wp1.heap.size, 0, none⟩) 0 0) ([]) I1 rfl HP15.out HX15.out.size (some ⟨xb, xo, none⟩) k xc rfl HLE.out.2.2.1 (HI1.out _ HX15.out) (fun h => by cases h) (by have h9 := HSE.out.2; simp only [List.length_nil]; omega) ?_
                        intro v16 w16 ho16 hg16 hk16
                        rw [List.nil_append] at ho16
                        have HX16 := Lib.hid (show Below wd.heap.size wd w16 from HX15.out.grown hg16 HX15.out.size (fun k hk => (HP15.out.ge k hk).1))
                        have HP16 := Lib.hid (own_grown8 HO15.out hg16 (fun j e e2 => HD15.out j e e2))
                        have HD16 := Lib.hid (show ∀ j, (Value.slice av15 (EJ).length cv15).ownBlock = some j → v16.ownBlock ≠ some j from fun j e e2 => by
                          rcases hk16 with h9 | h9
                          · rw [h9] at e2; exact HD15.out j e e2
                          · rw [h9] at e2; injection e2 with e2; have h8 := (HO15.out.ge j e).2; omega)
                        obtain ⟨av16, cv16, ev16, _⟩ := ho16.form
                        subst ev16
                        have HO16 := Lib.hid ho16
                        clear ho16 hg16 hk16
                        refine hK _ _ (HX16.out) ?_
                        clear hK K
                        try simp only [Act.put, List.getElem_toArray, List.getElem_cons_succ, List.getElem_cons_zero, List.setIfInBounds_toArray, List.set_cons_succ, List.set_cons_zero]
                        refine wpAnyK_fork1 20 (by kernel_rfl) ?_
                        refine wpOpK_step rfl (by kernel_rfl) (listed' := #[true, true, true, true, true, true, true, true, true, true, true, true, true, true, true, true, true, true, true, true, true, true, false, false]) rfl (by kernel_rfl) (fun K hK => ?_)
                        refine oper_append8 KI _ _ rfl wd.heap.size (Value.slice av16 (I1).length cv16) (I1) I2 rfl HO16.out HX16.out.size xa2 (hs.length - (k + 1)) (xc - (k + 1)) rfl HLE.out.2.2.2 (HI2.out _ HX16.out) HN2.out.2 HSE.out.2 ?_
                        intro v17 w17 ho17 hg17 hk17
                        rw [HIJ.out] at ho17
                        have HX17 := Lib.hid (show Below wd.heap.size wd w17 from HX16.out.grown hg17 HX16.out.size (fun k hk => (HO16.out.ge k hk).1))
                        have HP17 := Lib.hid (own_grown8 HP16.out hg17 (fun j e e2 => HD16.out j e e2))
                        have HD17 := Lib.hid (show ∀ j, (Value.slice av15 (EJ).length cv15).ownBlock = some j → v17.ownBlock ≠ some j from fun j e e2 => by
                          rcases hk17 with h9 | h9
                          · rw [h9] at e2; exact HD16.out j e e2
                          · rw [h9] at e2; injection e2 with e2; have h8 := (HP16.out.ge j e).2; omega)
                        obtain ⟨av17, cv17, ev17, _⟩ := ho17.form
                        subst ev17
                        have HO17 := Lib.hid ho17
                        clear ho17 hg17 hk17
                        refine hK _ _ (HX17.out) ?_
                        clear hK K
                        try simp only [Act.put, List.getElem_toArray, List.getElem_cons_succ, List.getElem_cons_zero, List.setIfInBounds_toArray, List.set_cons_succ, List.set_cons_zero]
                        refine wpAnyK_fork1 22 (by kernel_rfl) ?_
                        refine wpOpK_step rfl (by kernel_rfl) (listed' := #[true, true, true, true, true, true, true, true, true, true, true, true, true, true, true, true, true, true, true, true, true, true, true, false]) rfl (by kernel_rfl) (fun K hK => ?_)
                        have re18 := rl_own8 HP17.out
                        have ri18 := rl_own8 HO17.out
                        go_simp
                        refine (HCUT.out _ _ _ _ _ HX17.out re18 ri18).mono ?_
                        rintro e w18 ⟨rfl, hb18⟩
                        have HX18 := Lib.hid (below_up8 HX17.out hb18)
                        refine hK _ _ HX18.out ?_
                        clear hK K hb18 re18 ri18
                        try simp only [Act.put, List.getElem_toArray, List.getElem_cons_succ, List.getElem_cons_zero, List.setIfInBounds_toArray, List.set_cons_succ, List.set_cons_zero]
                        refine wpAnyK_end (by kernel_rfl) ?_
                        try simp only [pickOps, List.filterMap_cons, List.filterMap_nil, List.getElem?_toArray, List.getElem?_cons_succ, List.getElem?_cons_zero]
                        go_wp2_with fail
                        refine NoPanic.normal ?_
                        go_wp2_with fail
                        go_meet
                        exact ⟨rfl, HX18⟩
                    · skip
                      obtain ⟨wp19, Vp19, Zp19, _, Bp19⟩ := lay8 wx [] 3
                      have Vp19 := (show wx.alloc (.cells #[] 3) = wp19 from Vp19)
                      have HX19 := Lib.hid (show Below wd.heap.size wd wp19 from below_up8 HXs.out Bp19)
                      have HO19 := Lib.hid (show Own KI wp19 wd.heap.size (.slice (some ⟨wx.heap.size, 0, none⟩) 0 0) [] from by rw [← Vp19]; exact KI.new wx wd.heap.size [] HXs.out.size (by simp) [] rfl 3 rfl 0 rfl)
                      clear Zp19 Bp19
                      refine wpOpK_step rfl (by kernel_rfl) (listed' := #[true, false, true, true, true, false, true, true, true, true, false, true, true, true, true, false, true, true, true, true, false, true, false, false]) rfl (by kernel_rfl) (fun K hK => ?_)
                      go_simp
                      refine hK _ _ (HX19.out) ?_
                      clear hK K Vp19
                      try simp only [Act.put, List.getElem_toArray, List.getElem_cons_succ, List.getElem_cons_zero, List.setIfInBounds_toArray, List.set_cons_succ, List.set_cons_zero]
                      refine wpAnyK_fork1 1 (by kernel_rfl) ?_
                      obtain ⟨wp20, Vp20, Zp20, _, Bp20⟩ := lay8 wp19 [] 46
                      have Vp20 := (show wp19.alloc (.cells #[] 46) = wp20 from Vp20)
                      have HX20 := Lib.hid (show Below wd.heap.size wd wp20 from below_up8 HX19.out Bp20)
                      have HO20 := Lib.hid (show Own KE wp20 wd.heap.size (.slice (some ⟨wp19.heap.size, 0, none⟩) 0 0) [] from by rw [← Vp20]; exact KE.new wp19 wd.heap.size [] HX19.out.size (by simp) [] rfl 46 rfl 0 rfl)
                      have HP20 := Lib.hid (HO19.out.below Bp20 (Nat.le_refl _))
                      have HD20 := Lib.hid (show ∀ j, (Value.slice (some ⟨wx.heap.size, 0, none⟩) 0 0).ownBlock = some j → (Value.slice (some ⟨wp19.heap.size, 0, none⟩) 0 0).ownBlock ≠ some j from fun j e e2 => by have h9 := (HO19.out.ge j e).2; have e3 := Option.some.inj (show some wp19.heap.size = some j from e2); omega)
                      clear Zp20 Bp20
                      refine wpOpK_step rfl (by kernel_rfl) (listed' := #[true, true, true, true, true, false, true, true, true, true, false, true, true, true, true, false, true, true, true, true, false, true, false, false]) rfl (by kernel_rfl) (fun K hK => ?_)
                      go_simp
                      refine hK _ _ (HX20.out) ?_
                      clear hK K Vp20
                      try simp only [Act.put, List.getElem_toArray, List.getElem_cons_succ, List.getElem_cons_zero, List.setIfInBounds_toArray, List.set_cons_succ, List.set_cons_zero]
                      refine wpAnyK_fork1 5 (by kernel_rfl) ?_
                      refine wpOpK_step rfl (by kernel_rfl) (listed' := #[true, true, true, true, true, true, true, true, true, true, false, true, true, true, true, false, true, true, true, true, false, true, false, false]) rfl (by kernel_rfl) (fun K hK => ?_)
                      refine oper_append8 KE _ _ rfl wd.heap.size (Value.slice (some ⟨wp19.heap.size, 0, none⟩) 0 0) ([]) E1 rfl HO20.out HX20.out.size (some ⟨zb, zo, none⟩) k zk rfl HLE.out.1 (HE1.out _ HX20.out) (fun h => by cases h) (by have h9 := HSE.out.1; simp only [List.length_nil]; omega) ?_
                      intro v21 w21 ho21 hg21 hk21
                      rw [List.nil_append] at ho21
                      have HX21 := Lib.hid (show Below wd.heap.size wd w21 from HX20.out.grown hg21 HX20.out.size (fun k hk => (HO20.out.ge k hk).1))
                      have HP21 := Lib.hid (own_grown8 HP20.out hg21 (fun j e e2 => HD20.out j e e2))
                      have HD21 := Lib.hid (show ∀ j, (Value.slice (some ⟨wx.heap.size, 0, none⟩) 0 0).ownBlock = some j → v21.ownBlock ≠ some j from fun j e e2 => by
                        rcases hk21 with h9 | h9
                        · rw [h9] at e2; exact HD20.out j e e2
                        · rw [h9] at e2; injection e2 with e2; have h8 := (HP20.out.ge j e).2; omega)
                      obtain ⟨av21, cv21, ev21, _⟩ := ho21.form
                      subst ev21
                      have HO21 := Lib.hid ho21
                      clear ho21 hg21 hk21
                      refine hK _ _ (HX21.out) ?_
                      clear hK K
                      try simp only [Act.put, List.getElem_toArray, List.getElem_cons_succ, List.getElem_cons_zero, List.setIfInBounds_toArray, List.set_cons_succ, List.set_cons_zero]
                      refine wpAnyK_fork1 10 (by kernel_rfl) ?_
                      refine wpOpK_step rfl (by kernel_rfl) (listed' := #[true, true, true, true, true, true, true, true, true, true, true, true, true, true, true, false, true, true, true, true, false, true, false, false]) rfl (by kernel_rfl) (fun K hK => ?_)
                      refine oper_append8 KE _ _ rfl wd.heap.size (Value.slice av21 (E1).length cv21) (E1) E2 rfl HO21.out HX21.out.size za2 (hs.length - (k + 1)) (zk - (k + 1)) rfl HLE.out.2.1 (HE2.out _ HX21.out) HN2.out.1 HSE.out.1 ?_
                      intro v22 w22 ho22 hg22 hk22
                      rw [HEJ.out] at ho22
                      have HX22 := Lib.hid (show Below wd.heap.size wd w22 from HX21.out.grown hg22 HX21.out.size (fun k hk => (HO21.out.ge k hk).1))
                      have HP22 := Lib.hid (own_grown8 HP21.out hg22 (fun j e e2 => HD21.out j e e2))
                      have HD22 := Lib.hid (show ∀ j, (Value.slice (some ⟨wx.heap.size, 0, none⟩) 0 0).ownBlock = some j → v22.ownBlock ≠ some j from fun j e e2 => by
                        rcases hk22 with h9 | h9
                        · rw [h9] at e2; exact HD21.out j e e2
                        · rw [h9] at e2; injection e2 with e2; have h8 := (HP21.out.ge j e).2; omega)
                      obtain ⟨av22, cv22, ev22, _⟩ := ho22.form
                      subst ev22
                      have HO22 := Lib.hid ho22
                      clear ho22 hg22 hk22
                      refine hK _ _ (HX22.out) ?_
                      clear hK K
                      try simp only [Act.put, List.getElem_toArray, List.getElem_cons_succ, List.getElem_cons_zero, List.setIfInBounds_toArray, List.set_cons_succ, List.set_cons_zero]
                      refine wpAnyK_fork1 15 (by kernel_rfl) ?_
                      refine wpOpK_step rfl (by kernel_rfl) (listed' := #[true, true, true, true, true, true, true, true, true, true, true, true, true, true, true, true, true, true, true, true, false, true, false, false]) rfl (by kernel_rfl) (fun K hK => ?_)
                      refine oper_append8 KI _ _ rfl wd.heap.size (Value.slice (some ⟨wx.heap.size, 0, none⟩) 0 0) ([]) I1 rfl HP22.out HX22.out.size (some ⟨xb, xo, none⟩) k xc rfl HLE.out.2.2.1 (HI1.out _ HX22.out) (fun h => by cases h) (by have h9 := HSE.out.2; simp only [List.length_nil]; omega) ?_
                      intro v23 w23 ho23 hg23 hk23
                      rw [List.nil_append] at ho23
                      have HX23 := Lib.hid (show Below wd.heap.size wd w23 from HX22.out.grown hg23 HX22.out.size (fun k hk => (HP22.out.ge k hk).1))
                      have HP23 := Lib.hid (own_grown8 HO22.out hg23 (fun j e e2 => HD22.out j e2 e))
                      have HD23 := Lib.hid (show ∀ j, v23.ownBlock = some j → (Value.slice av22 (EJ).length cv22).ownBlock ≠ some j from fun j e2 e => by
                        rcases hk23 with h9 | h9
                        · rw [h9] at e2; exact HD22.out j e2 e
                        · rw [h9] at e2; injection e2 with e2; have h8 := (HO22.out.ge j e).2; omega)
                      obtain ⟨av23, cv23, ev23, _⟩ := ho23.form
                      subst ev23
                      have HO23 := Lib.hid ho23
                      clear ho23 hg23 hk23
                      refine hK _ _ (HX23.out) ?_
                      clear hK K
                      try simp only [Act.put, List.getElem_toArray, List.getElem_cons_succ, List.getElem_cons_zero, List.setIfInBounds_toArray, List.set_cons_succ, List.set_cons_zero]
                      refine wpAnyK_fork1 20 (by kernel_rfl) ?_
                      refine wpOpK_step rfl (by kernel_rfl) (listed' := #[true, true, true, true, true, true, true, true, true, true, true, true, true, true, true, true, true, true, true, true, true, true, false, false]) rfl (by kernel_rfl) (fun K hK => ?_)
                      refine oper_append8 KI _ _ rfl wd.heap.size (Value.slice av23 (I1).length cv23) (I1) I2 rfl HO23.out HX23.out.size xa2 (hs.length - (k + 1)) (xc - (k + 1)) rfl HLE.out.2.2.2 (HI2.out _ HX23.out) HN2.out.2 HSE.out.2 ?_
                      intro v24 w24 ho24 hg24 hk24
                      rw [HIJ.out] at ho24
                      have HX24 := Lib.hid (show Below wd.heap.size wd w24 from HX23.out.grown hg24 HX23.out.size (fun k hk => (HO23.out.ge k hk).1))
                      have HP24 := Lib.hid (own_grown8 HP23.out hg24 (fun j e e2 => HD23.out j e2 e))
                      have HD24 := Lib.hid (show ∀ j, v24.ownBlock = some j → (Value.slice av22 (EJ).length cv22).ownBlock ≠ some j from fun j e2 e => by
                        rcases hk24 with h9 | h9
                        · rw [h9] at e2; exact HD23.out j e2 e
                        · rw [h9] at e2; injection e2 with e2; have h8 := (HP23.out.ge j e).2; omega)
                      obtain ⟨av24, cv24, ev24, _⟩ := ho24.form
                      subst ev24
                      have HO24 := Lib.hid ho24
                      clear ho24 hg24 hk24
                      refine hK _ _ (HX24.out) ?_
                      clear hK K
                      try simp only [Act.put, List.getElem_toArray, List.getElem_cons_succ, List.getElem_cons_zero, List.setIfInBounds_toArray, List.set_cons_succ, List.set_cons_zero]
                      refine wpAnyK_fork1 22 (by kernel_rfl) ?_
                      refine wpOpK_step rfl (by kernel_rfl) (listed' := #[true, true, true, true, true, true, true, true, true, true, true, true, true, true, true, true, true, true, true, true, true, true, true, false]) rfl (by kernel_rfl) (fun K hK => ?_)
                      have re25 := rl_own8 HP24.out
                      have ri25 := rl_own8 HO24.out
                      go_simp
                      refine (HCUT.out _ _ _ _ _ HX24.out re25 ri25).mono ?_
                      rintro e w25 ⟨rfl, hb25⟩
                      have HX25 := Lib.hid (below_up8 HX24.out hb25)
                      refine hK _ _ HX25.out ?_
                      clear hK K hb25 re25 ri25
                      try simp only [Act.put, List.getElem_toArray, List.getElem_cons_succ, List.getElem_cons_zero, List.setIfInBounds_toArray, List.set_cons_succ, List.set_cons_zero]
                      refine wpAnyK_end (by kernel_rfl) ?_
                      try simp only [pickOps, List.filterMap_cons, List.filterMap_nil, List.getElem?_toArray, List.getElem?_cons_succ, List.getElem?_cons_zero]
                      go_wp2_with fail
                      refine NoPanic.normal ?_
                      go_wp2_with fail
                      go_meet
                      exact ⟨rfl, HX25⟩
                  case rest =>
                    obtain ⟨rfl, HBx⟩ := hcut
                    generalize wc = we at *
                    have HB7e := Lib.hid (below_up8 HB7d.out HBx.out)
                    clear HBx
                    cases AF with
                    | true =>
                      cases AG with
                      | false =>
                        go_wp2_with fail
                        go_roundw
                        case rel => exact ⟨j + 1, by go_num, HLT.out, HB7e⟩
                        case measure => have h9 := HLT.out; simp [RowKit.intOf]; omega
                      | true =>
                        go_wp2_with fail
                        go_roundw
                        case rel => exact ⟨j + 1, by go_num, HLT.out, HB7e⟩
                        case measure => have h9 := HLT.out; simp [RowKit.intOf]; omega
                    | false =>
                      have hag : AG = false := by
                        cases AG with
                        | false => rfl
                        | true => exact absurd (HFF.out rfl) (by decide)
                      subst hag
                      go_wp2_with fail
                      go_roundw
                      case rel => exact ⟨j + 1, by go_num, HLT.out, HB7e⟩
                      case measure => have h9 := HLT.out; simp [RowKit.intOf]; omega
                | true =>
                  have hag := HAW.out rfl
                  subst hag
                  go_upto_region 22 with (go_at_call 26; refine (HPO.out _).mono ?_; rintro e z ⟨rfl, rfl⟩)
                  go_cut [31] from 115 to 137 (fun s31 wx => s31 = .bool AF ∧ Hid (Below wd.heap.size wd wx))
                  case first =>
                    skip
                    refine wp_region_noPanic ?_
                    refine wp_region_Kx (C := NewB wd) [23] 23 #[false, false, false, false, false, false, false, false, false, false, false, false, false, false, false, false, false, false, false, false, false, false, false, false] (by kernel_rfl) (by kernel_rfl) (by kernel_rfl) (newB0 _) ?_
                    intro wx hwx
                    refine wpAnyK_ex (i := 0) rfl (by kernel_rfl) (listed' := #[true, false, false, false, false, false, false, false, false, false, false, false, false, false, false, false, false, false, false, false, false, false, false, false]) rfl (fun _ _ _ _ _ h => h) hwx ?_
                    apply Exists.intro
                    refine ⟨⟨by kernel_rfl, fun wy hw => ?_⟩, ?_⟩
                    · (have bw := hw.below; have f0 := (show wy.cell? ⟨Q, 0, none⟩ = some (.slice x1 f.dr.length k1) from (HKd.out wy bw 0 (by simp)).1); have f1 := (show wy.cell? ⟨Q, 1, none⟩ = some (.int .i64 f.lat) from (HKd.out wy bw 1 (by simp)).1); have f2 := (show wy.cell? ⟨Q, 2, none⟩ = some (.int .i64 f.lia) from (HKd.out wy bw 2 (by simp)).1); have f3 := (show wy.cell? ⟨Q, 3, none⟩ = some (.slice x2 f.sv.length k2) from (HKd.out wy bw 3 (by simp)).1); have f4 := (show wy.cell? ⟨Q, 4, none⟩ = some (.slice x3 f.tm.length k3) from (HKd.out wy bw 4 (by simp)).1); go_simp; try (first | (with_reducible rfl) | (with_reducible exact ⟨rfl, rfl⟩)))
                    try simp only [Act.put, List.getElem_toArray, List.getElem_cons_zero, List.setIfInBounds_toArray, List.set_cons_succ, List.set_cons_zero]
                    refine wpAnyK_ex (i := 2) rfl (by kernel_rfl) (listed' := #[true, false, true, false, false, false, false, false, false, false, false, false, false, false, false, false, false, false, false, false, false, false, false, false]) rfl (fun _ _ _ _ _ h => h) hwx ?_
                    apply Exists.intro
                    refine ⟨⟨by kernel_rfl, fun wy hw => ?_⟩, ?_⟩
                    · (have bw := hw.below; go_simp; try (first | (with_reducible rfl) | (with_reducible exact ⟨rfl, rfl⟩)))
                    try simp only [Act.put, List.getElem_toArray, List.getElem_cons_succ, List.getElem_cons_zero, List.setIfInBounds_toArray, List.set_cons_succ, List.set_cons_zero]
                    refine wpAnyK_ex (i := 3) rfl (by kernel_rfl) (listed' := #[true, false, true, true, false, false, false, false, false, false, false, false, false, false, false, false, false, false, false, false, false, false, false, false]) rfl (fun _ _ _ _ _ h => h) hwx ?_
                    apply Exists.intro
                    refine ⟨⟨by kernel_rfl, fun wy hw => ?_⟩, ?_⟩
                    · (have bw := hw.below; go_simp; try (first | (with_reducible rfl) | (with_reducible exact ⟨rfl, rfl⟩)))
                    try simp only [Act.put, List.getElem_toArray, List.getElem_cons_succ, List.getElem_cons_zero, List.setIfInBounds_toArray, List.set_cons_succ, List.set_cons_zero]
                    refine wpAnyK_ex (i := 4) rfl (by kernel_rfl) (listed' := #[true, false, true, true, true, false, false, false, false, false, false, false, false, false, false, false, false, false, false, false, false, false, false, false]) rfl (fun _ _ _ _ _ h => h) hwx ?_
                    apply Exists.intro
                    refine ⟨⟨by kernel_rfl, fun wy hw => ?_⟩, ?_⟩
                    · (have bw := hw.below; go_simp; try (first | (with_reducible rfl) | (with_reducible exact ⟨rfl, rfl⟩)))
                    try simp only [Act.put, List.getElem_toArray, List.getElem_cons_succ, List.getElem_cons_zero, List.setIfInBounds_toArray, List.set_cons_succ, List.set_cons_zero]
                    refine wpAnyK_ex (i := 6) rfl (by kernel_rfl) (listed' := #[true, false, true, true, true, false, true, false, false, false, false, false, false, false, false, false, false, false, false, false, false, false, false, false]) rfl (fun _ _ _ _ _ h => h) hwx ?_
                    apply Exists.intro
                    refine ⟨⟨by kernel_rfl, fun wy hw => ?_⟩, ?_⟩
                    · (have bw := hw.below; go_simp; try (first | (with_reducible rfl) | (with_reducible exact ⟨rfl, rfl⟩)))
                    try simp only [Act.put, List.getElem_toArray, List.getElem_cons_succ, List.getElem_cons_zero, List.setIfInBounds_toArray, List.set_cons_succ, List.set_cons_zero]
                    refine wpAnyK_ex (i := 7) rfl (by kernel_rfl) (listed' := #[true, false, true, true, true, false, true, true, false, false, false, false, false, false, false, false, false, false, false, false, false, false, false, false]) rfl (fun _ _ _ _ _ h => h) hwx ?_
                    apply Exists.intro
                    refine ⟨⟨by kernel_rfl, fun wy hw => ?_⟩, ?_⟩
                    · (have bw := hw.below; go_simp; try (first | (with_reducible rfl) | (with_reducible exact ⟨rfl, rfl⟩)))
                    try simp only [Act.put, List.getElem_toArray, List.getElem_cons_succ, List.getElem_cons_zero, List.setIfInBounds_toArray, List.set_cons_succ, List.set_cons_zero]
                    refine wpAnyK_ex (i := 8) rfl (by kernel_rfl) (listed' := #[true, false, true, true, true, false, true, true, true, false, false, false, false, false, false, false, false, false, false, false, false, false, false, false]) rfl (fun _ _ _ _ _ h => h) hwx ?_
                    apply Exists.intro
                    refine ⟨⟨by kernel_rfl, fun wy hw => ?_⟩, ?_⟩
                    · (have bw := hw.below; go_simp; try (first | (with_reducible rfl) | (with_reducible exact ⟨rfl, rfl⟩)))
                    try simp only [Act.put, List.getElem_toArray, List.getElem_cons_succ, List.getElem_cons_zero, List.setIfInBounds_toArray, List.set_cons_succ, List.set_cons_zero]
                    refine wpAnyK_ex (i := 9) rfl (by kernel_rfl) (listed' := #[true, false, true, true, true, false, true, true, true, true, false, false, false, false, false, false, false, false, false, false, false, false, false, false]) rfl (fun _ _ _ _ _ h => h) hwx ?_
                    apply Exists.intro
                    refine ⟨⟨by kernel_rfl, fun wy hw => ?_⟩, ?_⟩
                    · (have bw := hw.below; go_simp; try (first | (with_reducible rfl) | (with_reducible exact ⟨rfl, rfl⟩)))
                    try simp only [Act.put, List.getElem_toArray, List.getElem_cons_succ, List.getElem_cons_zero, List.setIfInBounds_toArray, List.set_cons_succ, List.set_cons_zero]
                    refine wpAnyK_ex (i := 12) rfl (by kernel_rfl) (listed' := #[true, false, true, true, true, false, true, true, true, true, false, false, true, false, false, false, false, false, false, false, false, false, false, false]) rfl (fun _ _ _ _ _ h => h) hwx ?_
                    apply Exists.intro
                    refine ⟨⟨by kernel_rfl, fun wy hw => ?_⟩, ?_⟩
                    · (have bw := hw.below; go_simp; try (first | (with_reducible rfl) | (with_reducible exact ⟨rfl, rfl⟩)))
                    try simp only [Act.put, List.getElem_toArray, List.getElem_cons_succ, List.getElem_cons_zero, List.setIfInBounds_toArray, List.set_cons_succ, List.set_cons_zero]
                    refine wpAnyK_ex (i := 13) rfl (by kernel_rfl) (listed' := #[true, false, true, true, true, false, true, true, true, true, false, false, true, true, false, false, false, false, false, false, false, false, false, false]) rfl (fun _ _ _ _ _ h => h) hwx ?_
                    apply Exists.intro
                    refine ⟨⟨by kernel_rfl, fun wy hw => ?_⟩, ?_⟩
                    · (have bw := hw.below; go_simp; try (first | (with_reducible rfl) | (with_reducible exact ⟨rfl, rfl⟩)))
                    try simp only [Act.put, List.getElem_toArray, List.getElem_cons_succ, List.getElem_cons_zero, List.setIfInBounds_toArray, List.set_cons_succ, List.set_cons_zero]
                    refine wpAnyK_ex (i := 14) rfl (by kernel_rfl) (listed' := #[true, false, true, true, true, false, true, true, true, true, false, false, true, true, true, false, false, false, false, false, false, false, false, false]) rfl (fun _ _ _ _ _ h => h) hwx ?_
                    apply Exists.intro
                    refine ⟨⟨by kernel_rfl, fun wy hw => ?_⟩, ?_⟩
                    · (have bw := hw.below; go_simp; try (first | (with_reducible rfl) | (with_reducible exact ⟨rfl, rfl⟩)))
                    try simp only [Act.put, List.getElem_toArray, List.getElem_cons_succ, List.getElem_cons_zero, List.setIfInBounds_toArray, List.set_cons_succ, List.set_cons_zero]
                    refine wpAnyK_ex (i := 16) rfl (by kernel_rfl) (listed' := #[true, false, true, true, true, false, true, true, true, true, false, false, true, true, true, false, true, false, false, false, false, false, false, false]) rfl (fun _ _ _ _ _ h => h) hwx ?_
                    apply Exists.intro
                    refine ⟨⟨by kernel_rfl, fun wy hw => ?_⟩, ?_⟩
                    · (have bw := hw.below; go_simp; try (first | (with_reducible rfl) | (with_reducible exact ⟨rfl, rfl⟩)))
                    try simp only [Act.put, List.getElem_toArray, List.getElem_cons_succ, List.getElem_cons_zero, List.setIfInBounds_toArray, List.set_cons_succ, List.set_cons_zero]
                    refine wpAnyK_ex (i := 17) rfl (by kernel_rfl) (listed' := #[true, false, true, true, true, false, true, true, true, true, false, false, true, true, true, false, true, true, false, false, false, false, false, false]) rfl (fun _ _ _ _ _ h => h) hwx ?_
                    apply Exists.intro
                    refine ⟨⟨by kernel_rfl, fun wy hw => ?_⟩, ?_⟩
                    · (have bw := hw.below; go_simp; try (first | (with_reducible rfl) | (with_reducible exact ⟨rfl, rfl⟩)))
                    try simp only [Act.put, List.getElem_toArray, List.getElem_cons_succ, List.getElem_cons_zero, List.setIfInBounds_toArray, List.set_cons_succ, List.set_cons_zero]
                    refine wpAnyK_ex (i := 18) rfl (by kernel_rfl) (listed' := #[true, false, true, true, true, false, true, true, true, true, false, false, true, true, true, false, true, true, true, false, false, false, false, false]) rfl (fun _ _ _ _ _ h => h) hwx ?_
                    apply Exists.intro
                    refine ⟨⟨by kernel_rfl, fun wy hw => ?_⟩, ?_⟩
                    · (have bw := hw.below; go_simp; try (first | (with_reducible rfl) | (with_reducible exact ⟨rfl, rfl⟩)))
                    try simp only [Act.put, List.getElem_toArray, List.getElem_cons_succ, List.getElem_cons_zero, List.setIfInBounds_toArray, List.set_cons_succ, List.set_cons_zero]
                    refine wpAnyK_ex (i := 19) rfl (by kernel_rfl) (listed' := #[true, false, true, true, true, false, true, true, true, true, false, false, true, true, true, false, true, true, true, true, false, false, false, false]) rfl (fun _ _ _ _ _ h => h) hwx ?_
                    apply Exists.intro
                    refine ⟨⟨by kernel_rfl, fun wy hw => ?_⟩, ?_⟩
                    · (have bw := hw.below; go_simp; try (first | (with_reducible rfl) | (with_reducible exact ⟨rfl, rfl⟩)))
                    try simp only [Act.put, List.getElem_toArray, List.getElem_cons_succ, List.getElem_cons_zero, List.setIfInBounds_toArray, List.set_cons_succ, List.set_cons_zero]
                    refine wpAnyK_ex (i := 21) rfl (by kernel_rfl) (listed' := #[true, false, true, true, true, false, true, true, true, true, false, false, true, true, true, false, true, true, true, true, false, true, false, false]) rfl (fun _ _ _ _ _ h => h) hwx ?_
                    apply Exists.intro
                    refine ⟨⟨by kernel_rfl, fun wy hw => ?_⟩, ?_⟩
                    · (have bw := hw.below; go_simp; try (first | (with_reducible rfl) | (with_reducible exact ⟨rfl, rfl⟩)))
                    try simp only [Act.put, List.getElem_toArray, List.getElem_cons_succ, List.getElem_cons_zero, List.setIfInBounds_toArray, List.set_cons_succ, List.set_cons_zero]
                    have HXs := Lib.hid hwx.below
                    refine wpAnyK_fork2 1 11 (by kernel_rfl) ?_ ?_
                    · skip
                      obtain ⟨wp1, Vp1, Zp1, _, Bp1⟩ := lay8 wx [] 46
                      have Vp1 := (show wx.alloc (.cells #[] 46) = wp1 from Vp1)
                      have HX1 := Lib.hid (show Below wd.heap.size wd wp1 from below_up8 HXs.out Bp1)
                      have HO1 := Lib.hid (show Own KE wp1 wd.heap.size (.slice (some ⟨wx.heap.size, 0, none⟩) 0 0) [] from by rw [← Vp1]; exact KE.new wx wd.heap.size [] HXs.out.size (by simp) [] rfl 46 rfl 0 rfl)
                      clear Zp1 Bp1
                      refine wpOpK_step rfl (by kernel_rfl) (listed' := #[true, true, true, true, true, false, true, true, true, true, false, false, true, true, true, false, true, true, true, true, false, true, false, false]) rfl (by kernel_rfl) (fun K hK => ?_)
                      go_simp
                      refine hK _ _ (HX1.out) ?_
                      clear hK K Vp1
                      try simp only [Act.put, List.getElem_toArray, List.getElem_cons_succ, List.getElem_cons_zero, List.setIfInBounds_toArray, List.set_cons_succ, List.set_cons_zero]
                      refine wpAnyK_fork2 5 11 (by kernel_rfl) ?_ ?_
                      · skip
                        refine wpOpK_step rfl (by kernel_rfl) (listed' := #[true, true, true, true, true, true, true, true, true, true, false, false, true, true, true, false, true, true, true, true, false, true, false, false]) rfl (by kernel_rfl) (fun K hK => ?_)
                        refine oper_append8 KE _ _ rfl wd.heap.size (Value.slice (some ⟨wx.heap.size, 0, none⟩) 0 0) ([]) E1 rfl HO1.out HX1.out.size (some ⟨zb, zo, none⟩) k zk rfl HLE.out.1 (HE1.out _ HX1.out) (fun h => by cases h) (by have h9 := HSE.out.1; simp only [List.length_nil]; omega) ?_
                        intro v2 w2 ho2 hg2 hk2
                        rw [List.nil_append] at ho2
                        have HX2 := Lib.hid (show Below wd.heap.size wd w2 from HX1.out.grown hg2 HX1.out.size (fun k hk => (HO1.out.ge k hk).1))
                        obtain ⟨av2, cv2, ev2, _⟩ := ho2.form
                        subst ev2
                        have HO2 := Lib.hid ho2
                        clear ho2 hg2 hk2
                        refine hK _ _ (HX2.out) ?_
                        clear hK K
                        try simp only [Act.put, List.getElem_toArray, List.getElem_cons_succ, List.getElem_cons_zero, List.setIfInBounds_toArray, List.set_cons_succ, List.set_cons_zero]
                        refine wpAnyK_fork2 10 11 (by kernel_rfl) ?_ ?_
                        · skip
                          refine wpOpK_step rfl (by kernel_rfl) (listed' := #[true, true, true, true, true, true, true, true, true, true, true, false, true, true, true, false, true, true, true, true, false, true, false, false]) rfl (by kernel_rfl) (fun K hK => ?_)
                          refine oper_append8 KE _ _ rfl wd.heap.size (Value.slice av2 (E1).length cv2) (E1) E2 rfl HO2.out HX2.out.size za2 (hs.length - (k + 1)) (zk - (k + 1)) rfl HLE.out.2.1 (HE2.out _ HX2.out) HN2.out.1 HSE.out.1 ?_
                          intro v3 w3 ho3 hg3 hk3
                          rw [HEJ.out] at ho3
                          have HX3 := Lib.hid (show Below wd.heap.size wd w3 from HX2.out.grown hg3 HX2.out.size (fun k hk => (HO2.out.ge k hk).1))
                          obtain ⟨av3, cv3, ev3, _⟩ := ho3.form
                          subst ev3
                          have HO3 := Lib.hid ho3
                          clear ho3 hg3 hk3
                          refine hK _ _ (HX3.out) ?_
                          clear hK K
                          try simp only [Act.put, List.getElem_toArray, List.getElem_cons_succ, List.getElem_cons_zero, List.setIfInBounds_toArray, List.set_cons_succ, List.set_cons_zero]
                          refine wpAnyK_fork1 11 (by kernel_rfl) ?_
                          obtain ⟨wp4, Vp4, Zp4, _, Bp4⟩ := lay8 w3 [] 3
                          have Vp4 := (show w3.alloc (.cells #[] 3) = wp4 from Vp4)
                          have HX4 := Lib.hid (show Below wd.heap.size wd wp4 from below_up8 HX3.out Bp4)
                          have HO4 := Lib.hid (show Own KI wp4 wd.heap.size (.slice (some ⟨w3.heap.size, 0, none⟩) 0 0) [] from by rw [← Vp4]; exact KI.new w3 wd.heap.size [] HX3.out.size (by simp) [] rfl 3 rfl 0 rfl)
                          have HP4 := Lib.hid (HO3.out.below Bp4 (Nat.le_refl _))
                          have HD4 := Lib.hid (show ∀ j, (Value.slice av3 (EJ).length cv3).ownBlock = some j → (Value.slice (some ⟨w3.heap.size, 0, none⟩) 0 0).ownBlock ≠ some j from fun j e e2 => by have h9 := (HO3.out.ge j e).2; have e3 := Option.some.inj (show some w3.heap.size = some j from e2); omega)
                          clear Zp4 Bp4
                          refine wpOpK_step rfl (by kernel_rfl) (listed' := #[true, true, true, true, true, true, true, true, true, true, true, true, true, true, true, false, true, true, true, true, false, true, false, false]) rfl (by kernel_rfl) (fun K hK => ?_)
                          go_simp
                          refine hK _ _ (HX4.out) ?_
                          clear hK K Vp4
                          try simp only [Act.put, List.getElem_toArray, List.getElem_cons_succ, List.getElem_cons_zero, List.setIfInBounds_toArray, List.set_cons_succ, List.set_cons_zero]
                          refine wpAnyK_fork1 15 (by kernel_rfl) ?_
                          refine wpOpK_step rfl (by kernel_rfl) (listed' := #[true, true, true, true, true, true, true, true, true, true, true, true, true, true, true, true, true, true, true, true, false, true, false, false]) rfl (by kernel_rfl) (fun K hK => ?_)
                          refine oper_append8 KI _ _ rfl wd.heap.size (Value.slice (some ⟨w3.heap.size, 0, none⟩) 0 0) ([]) I1 rfl HO4.out HX4.out.size (some ⟨xb, xo, none⟩) k xc rfl HLE.out.2.2.1 (HI1.out _ HX4.out) (fun h => by cases h) (by have h9 := HSE.out.2; simp only [List.length_nil]; omega) ?_
                          intro v5 w5 ho5 hg5 hk5
                          rw [List.nil_append] at ho5
                          have HX5 := Lib.hid (show Below wd.heap.size wd w5 from HX4.out.grown hg5 HX4.out.size (fun k hk => (HO4.out.ge k hk).1))
                          have HP5 := Lib.hid (own_grown8 HP4.out hg5 (fun j e e2 => HD4.out j e e2))
                          have HD5 := Lib.hid (show ∀ j, (Value.slice av3 (EJ).length cv3).ownBlock = some j → v5.ownBlock ≠ some j from fun j e e2 => by
                            rcases hk5 with h9 | h9
                            · rw [h9] at e2; exact HD4.out j e e2
                            · rw [h9] at e2; injection e2 with e2; have h8 := (HP4.out.ge j e).2; omega)
                          obtain ⟨av5, cv5, ev5, _⟩ := ho5.form
                          subst ev5
                          have HO5 := Lib.hid ho5
                          clear ho5 hg5 hk5
                          refine hK _ _ (HX5.out) ?_
                          clear hK K
                          try simp only [Act.put, List.getElem_toArray, List.getElem_cons_succ, List.getElem_cons_zero, List.setIfInBounds_toArray, List.set_cons_succ, List.set_cons_zero]
                          refine wpAnyK_fork1 20 (by kernel_rfl) ?_
                          refine wpOpK_step rfl (by kernel_rfl) (listed' := #[true, true, true, true, true, true, true, true, true, true, true, true, true, true, true, true, true, true, true, true, true, true, false, false]) rfl (by kernel_rfl) (fun K hK => ?_)
                          refine oper_append8 KI _ _ rfl wd.heap.size (Value.slice av5 (I1).length cv5) (I1) I2 rfl HO5.out HX5.out.size xa2 (hs.length - (k + 1)) (xc - (k + 1)) rfl HLE.out.2.2.2 (HI2.out _ HX5.out) HN2.out.2 HSE.out.2 ?_
                          intro v6 w6 ho6 hg6 hk6
                          rw [HIJ.out] at ho6
                          have HX6 := Lib.hid (show Below wd.heap.size wd w6 from HX5.out.grown hg6 HX5.out.size (fun k hk => (HO5.out.ge k hk).1))
                          have HP6 := Lib.hid (own_grown8 HP5.out hg6 (fun j e e2 => HD5.out j e e2))
                          have HD6 := Lib.hid (show ∀ j, (Value.slice av3 (EJ).length cv3).ownBlock = some j → v6.ownBlock ≠ some j from fun j e e2 => by
                            rcases hk6 with h9 | h9
                            · rw [h9] at e2; exact HD5.out j e e2
                            · rw [h9] at e2; injection e2 with e2; have h8 := (HP5.out.ge j e).2; omega)
                          obtain ⟨av6, cv6, ev6, _⟩ := ho6.form
                          subst ev6
                          have HO6 := Lib.hid ho6
                          clear ho6 hg6 hk6
                          refine hK _ _ (HX6.out) ?_
                          clear hK K
                          try simp only [Act.put, List.getElem_toArray, List.getElem_cons_succ, List.getElem_cons_zero, List.setIfInBounds_toArray, List.set_cons_succ, List.set_cons_zero]
                          refine wpAnyK_fork1 22 (by kernel_rfl) ?_
                          refine wpOpK_step rfl (by kernel_rfl) (listed' := #[true, true, true, true, true, true, true, true, true, true, true, true, true, true, true, true, true, true, true, true, true, true, true, false]) rfl (by kernel_rfl) (fun K hK => ?_)
                          have re7 := rl_own8 HP6.out
                          have ri7 := rl_own8 HO6.out
                          go_simp
                          refine (HCUT.out _ _ _ _ _ HX6.out re7 ri7).mono ?_
                          rintro e w7 ⟨rfl, hb7⟩
                          have HX7 := Lib.hid (below_up8 HX6.out hb7)
                          refine hK _ _ HX7.out ?_
                          clear hK K hb7 re7 ri7
                          try simp only [Act.put, List.getElem_toArray, List.getElem_cons_succ, List.getElem_cons_zero, List.setIfInBounds_toArray, List.set_cons_succ, List.set_cons_zero]
                          refine wpAnyK_end (by kernel_rfl) ?_
                          try simp only [pickOps, List.filterMap_cons, List.filterMap_nil, List.getElem?_toArray, List.getElem?_cons_succ, List.getElem?_cons_zero]
                          go_wp2_with fail
                          refine NoPanic.normal ?_
                          go_wp2_with fail
                          go_meet
                          exact ⟨rfl, HX7⟩
                        · skip
                          obtain ⟨wp8, Vp8, Zp8, _, Bp8⟩ := lay8 w2 [] 3
                          have Vp8 := (show w2.alloc (.cells #[] 3) = wp8 from Vp8)
                          have HX8 := Lib.hid (show Below wd.heap.size wd wp8 from below_up8 HX2.out Bp8)
                          have HO8 := Lib.hid (show Own KI wp8 wd.heap.size (.slice (some ⟨w2.heap.size, 0, none⟩) 0 0) [] from by rw [← Vp8]; exact KI.new w2 wd.heap.size [] HX2.out.size (by simp) [] rfl 3 rfl 0 rfl)
                          have HP8 := Lib.hid (HO2.out.below Bp8 (Nat.le_refl _))
                          have HD8 := Lib.hid (show ∀ j, (Value.slice av2 (E1).length cv2).ownBlock = some j → (Value.slice (some ⟨w2.heap.size, 0, none⟩) 0 0).ownBlock ≠ some j from fun j e e2 => by have h9 := (HO2.out.ge j e).2; have e3 := Option.some.inj (show some w2.heap.size = some j from e2); omega)
                          clear Zp8 Bp8
                          refine wpOpK_step rfl (by kernel_rfl) (listed' := #[true, true, true, true, true, true, true, true, true, true, false, true, true, true, true, false, true, true, true, true, false, true, false, false]) rfl (by kernel_rfl) (fun K hK => ?_)
                          go_simp
                          refine hK _ _ (HX8.out) ?_
                          clear hK K Vp8
                          try simp only [Act.put, List.getElem_toArray, List.getElem_cons_succ, List.getElem_cons_zero, List.setIfInBounds_toArray, List.set_cons_succ, List.set_cons_zero]
                          refine wpAnyK_fork1 10 (by kernel_rfl) ?_
                          refine wpOpK_step rfl (by kernel_rfl) (listed' := #[true, true, true, true, true, true, true, true, true, true, true, true, true, true, true, false, true, true, true, true, false, true, false, false]) rfl (by kernel_rfl) (fun K hK => ?_)
                          refine oper_append8 KE _ _ rfl wd.heap.size (Value.slice av2 (E1).length cv2) (E1) E2 rfl HP8.out HX8.out.size za2 (hs.length - (k + 1)) (zk - (k + 1)) rfl HLE.out.2.1 (HE2.out _ HX8.out) HN2.out.1 HSE.out.1 ?_
                          intro v9 w9 ho9 hg9 hk9
                          rw [HEJ.out] at ho9
                          have HX9 := Lib.hid (show Below wd.heap.size wd w9 from HX8.out.grown hg9 HX8.out.size (fun k hk => (HP8.out.ge k hk).1))
                          have HP9 := Lib.hid (own_grown8 HO8.out hg9 (fun j e e2 => HD8.out j e2 e))
                          have HD9 := Lib.hid (show ∀ j, v9.ownBlock = some j → (Value.slice (some ⟨w2.heap.size, 0, none⟩) 0 0).ownBlock ≠ some j from fun j e2 e => by
                            rcases hk9 with h9 | h9
                            · rw [h9] at e2; exact HD8.out j e2 e
                            · rw [h9] at e2; injection e2 with e2; have h8 := (HO8.out.ge j e).2; omega)
                          obtain ⟨av9, cv9, ev9, _⟩ := ho9.form
                          subst ev9
                          have HO9 := Lib.hid ho9
                          clear ho9 hg9 hk9
                          refine hK _ _ (HX9.out) ?_
                          clear hK K
                          try simp only [Act.put, List.getElem_toArray, List.getElem_cons_succ, List.getElem_cons_zero, List.setIfInBounds_toArray, List.set_cons_succ, List.set_cons_zero]
                          refine wpAnyK_fork1 15 (by kernel_rfl) ?_
                          refine wpOpK_step rfl (by kernel_rfl) (listed' := #[true, true, true, true, true, true, true, true, true, true, true, true, true, true, true, true, true, true, true, true, false, true, false, false]) rfl (by kernel_rfl) (fun K hK => ?_)
                          refine oper_append8 KI _ _ rfl wd.heap.size (Value.slice (some ⟨w2.heap.size, 0, none⟩) 0 0) ([]) I1 rfl HP9.out HX9.out.size (some ⟨xb, xo, none⟩) k xc rfl HLE.out.2.2.1 (HI1.out _ HX9.out) (fun h => by cases h) (by have h9 := HSE.out.2; simp only [List.length_nil]; omega) ?_
                          intro v10 w10 ho10 hg10 hk10
                          rw [List.nil_append] at ho10
                          have HX10 := Lib.hid (show Below wd.heap.size wd w10 from HX9.out.grown hg10 HX9.out.size (fun k hk => (HP9.out.ge k hk).1))
                          have HP10 := Lib.hid (own_grown8 HO9.out hg10 (fun j e e2 => HD9.out j e e2))
                          have HD10 := Lib.hid (show ∀ j, (Value.slice av9 (EJ).length cv9).ownBlock = some j → v10.ownBlock ≠ some j from fun j e e2 => by
                            rcases hk10 with h9 | h9
                            · rw [h9] at e2; exact HD9.out j e e2
                            · rw [h9] at e2; injection e2 with e2; have h8 := (HO9.out.ge j e).2; omega)
                          obtain ⟨av10, cv10, ev10, _⟩ := ho10.form
                          subst ev10
                          have HO10 := Lib.hid ho10
                          clear ho10 hg10 hk10
                          refine hK _ _ (HX10.out) ?_
                          clear hK K
                          try simp only [Act.put, List.getElem_toArray, List.getElem_cons_succ, List.getElem_cons_zero, List.setIfInBounds_toArray, List.set_cons_succ, List.set_cons_zero]
                          refine wpAnyK_fork1 20 (by kernel_rfl) ?_
                          refine wpOpK_step rfl (by kernel_rfl) (listed' := #[true, true, true, true, true, true, true, true, true, true, true, true, true, true, true, true, true, true, true, true, true, true, false, false]) rfl (by kernel_rfl) (fun K hK => ?_)
                          refine oper_append8 KI _ _ rfl wd.heap.size (Value.slice av10 (I1).length cv10) (I1) I2 rfl HO10.out HX10.out.size xa2 (hs.length - (k + 1)) (xc - (k + 1)) rfl HLE.out.2.2.2 (HI2.out _ HX10.out) HN2.out.2 HSE.out.2 ?_
                          intro v11 w11 ho11 hg11 hk11
                          rw [HIJ.out] at ho11
                          have HX11 := Lib.hid (show Below wd.heap.size wd w11 from HX10.out.grown hg11 HX10.out.size (fun k hk => (HO10.out.ge k hk).1))
                          have HP11 := Lib.hid (own_grown8 HP10.out hg11 (fun j e e2 => HD10.out j e e2))
                          have HD11 := Lib.hid (show ∀ j, (Value.slice av9 (EJ).length cv9).ownBlock = some j → v11.ownBlock ≠ some j from fun j e e2 => by
                            rcases hk11 with h9 | h9
                            · rw [h9] at e2; exact HD10.out j e e2
                            · rw [h9] at e2; injection e2 with e2; have h8 := (HP10.out.ge j e).2; omega)
                          obtain ⟨av11, cv11, ev11, _⟩ := ho11.form
                          subst ev11
                          have HO11 := Lib.hid ho11
                          clear ho11 hg11 hk11
                          refine hK _ _ (HX11.out) ?_
                          clear hK K
                          try simp only [Act.put, List.getElem_toArray, List.getElem_cons_succ, List.getElem_cons_zero, List.setIfInBounds_toArray, List.set_cons_succ, List.set_cons_zero]
                          refine wpAnyK_fork1 22 (by kernel_rfl) ?_
                          refine wpOpK_step rfl (by kernel_rfl) (listed' := #[true, true, true, true, true, true, true, true, true, true, true, true, true, true, true, true, true, true, true, true, true, true, true, false]) rfl (by kernel_rfl) (fun K hK => ?_)
                          have re12 := rl_own8 HP11.out
                          have ri12 := rl_own8 HO11.out
                          go_simp
                          refine (HCUT.out _ _ _ _ _ HX11.out re12 ri12).mono ?_
                          rintro e w12 ⟨rfl, hb12⟩
                          have HX12 := Lib.hid (below_up8 HX11.out hb12)
                          refine hK _ _ HX12.out ?_
                          clear hK K hb12 re12 ri12
                          try simp only [Act.put, List.getElem_toArray, List.getElem_cons_succ, List.getElem_cons_zero, List.setIfInBounds_toArray, List.set_cons_succ, List.set_cons_zero]
                          refine wpAnyK_end (by kernel_rfl) ?_
                          try simp only [pickOps, List.filterMap_cons, List.filterMap_nil, List.getElem?_toArray, List.getElem?_cons_succ, List.getElem?_cons_zero]
                          go_wp2_with fail
                          refine NoPanic.normal ?_
                          go_wp2_with fail
                          go_meet
                          exact ⟨rfl, HX12⟩
                      · skip
                        obtain ⟨wp13, Vp13, Zp13, _, Bp13⟩ := lay8 wp1 [] 3
                        have Vp13 := (show wp1.alloc (.cells #[] 3) = wp13 from Vp13)
                        have HX13 := Lib.hid (show Below wd.heap.size wd wp13 from below_up8 HX1.out Bp13)
                        have HO13 := Lib.hid (show Own KI wp13 wd.heap.size (.slice (some ⟨wp1.heap.size, 0, none⟩) 0 0) [] from by rw [← Vp13]; exact KI.new wp1 wd.heap.size [] HX1.out.size (by simp) [] rfl 3 rfl 0 rfl)
                        have HP13 := Lib.hid (HO1.out.below Bp13 (Nat.le_refl _))
                        have HD13 := Lib.hid (show ∀ j, (Value.slice (some ⟨wx.heap.size, 0, none⟩) 0 0).ownBlock = some j → (Value.slice (some ⟨wp1.heap.size, 0, none⟩) 0 0).ownBlock ≠ some j from fun j e e2 => by have h9 := (HO1.out.ge j e).2; have e3 := Option.some.inj (show some wp1.heap.size = some j from e2); omega)
                        clear Zp13 Bp13
                        refine wpOpK_step rfl (by kernel_rfl) (listed' := #[true, true, true, true, true, false, true, true, true, true, false, true, true, true, true, false, true, true, true, true, false, true, false, false]) rfl (by kernel_rfl) (fun K hK => ?_)
                        go_simp
                        refine hK _ _ (HX13.out) ?_
                        clear hK K Vp13
                        try simp only [Act.put, List.getElem_toArray, List.getElem_cons_succ, List.getElem_cons_zero, List.setIfInBounds_toArray, List.set_cons_succ, List.set_cons_zero]
                        refine wpAnyK_fork1 5 (by kernel_rfl) ?_
                        refine wpOpK_step rfl (by kernel_rfl) (listed' := #[true, true, true, true, true, true, true, true, true, true, false, true, true, true, true, false, true, true, true, true, false, true, false, false]) rfl (by kernel_rfl) (fun K hK => ?_)
                        refine oper_append8 KE _ _ rfl wd.heap.size (Value.slice (some ⟨wx.heap.size, 0, none⟩) 0 0) ([]) E1 rfl HP13.out HX13.out.size (some ⟨zb, zo, none⟩) k zk rfl HLE.out.1 (HE1.out _ HX13.out) (fun h => by cases h) (by have h9 := HSE.out.1; simp only [List.length_nil]; omega) ?_
                        intro v14 w14 ho14 hg14 hk14
                        rw [List.nil_append] at ho14
                        have HX14 := Lib.hid (show Below wd.heap.size wd w14 from HX13.out.grown hg14 HX13.out.size (fun k hk => (HP13.out.ge k hk).1))
                        have HP14 := Lib.hid (own_grown8 HO13.out hg14 (fun j e e2 => HD13.out j e2 e))
                        have HD14 := Lib.hid (show ∀ j, v14.ownBlock = some j → (Value.slice (some ⟨wp1.heap.size, 0, none⟩) 0 0).ownBlock ≠ some j from fun j e2 e => by
                          rcases hk14 with h9 | h9
                          · rw [h9] at e2; exact HD13.out j e2 e
                          · rw [h9] at e2; injection e2 with e2; have h8 := (HO13.out.ge j e).2; omega)
                        obtain ⟨av14, cv14, ev14, _⟩ := ho14.form
                        subst ev14
                        have HO14 := Lib.hid ho14
                        clear ho14 hg14 hk14
                        refine hK _ _ (HX14.out) ?_
                        clear hK K
                        try simp only [Act.put, List.getElem_toArray, List.getElem_cons_succ, List.getElem_cons_zero, List.setIfInBounds_toArray, List.set_cons_succ, List.set_cons_zero]
                        refine wpAnyK_fork1 10 (by kernel_rfl) ?_
                        refine wpOpK_step rfl (by kernel_rfl) (listed' := #[true, true, true, true, true, true, true, true, true, true, true, true, true, true, true, false, true, true, true, true, false, true, false, false]) rfl (by kernel_rfl) (fun K hK => ?_)
                        refine oper_append8 KE _ _ rfl wd.heap.size (Value.slice av14 (E1).length cv14) (E1) E2 rfl HO14.out HX14.out.size za2 (hs.length - (k + 1)) (zk - (k + 1)) rfl HLE.out.2.1 (HE2.out _ HX14.out) HN2.out.1 HSE.out.1 ?_
                        intro v15 w15 ho15 hg15 hk15
                        rw [HEJ.out] at ho15
                        have HX15 := Lib.hid (show Below wd.heap.size wd w15 from HX14.out.grown hg15 HX14.out.size (fun k hk => (HO14.out.ge k hk).1))
                        have HP15 := Lib.hid (own_grown8 HP14.out hg15 (fun j e e2 => HD14.out j e2 e))
                        have HD15 := Lib.hid (show ∀ j, v15.ownBlock = some j → (Value.slice (some ⟨wp1.heap.size, 0, none⟩) 0 0).ownBlock ≠ some j from fun j e2 e => by
                          rcases hk15 with h9 | h9
                          · rw [h9] at e2; exact HD14.out j e2 e
                          · rw [h9] at e2; injection e2 with e2; have h8 := (HP14.out.ge j e).2; omega)
                        obtain ⟨av15, cv15, ev15, _⟩ := ho15.form
                        subst ev15
                        have HO15 := Lib.hid ho15
                        clear ho15 hg15 hk15
                        refine hK _ _ (HX15.out) ?_
                        clear hK K
                        try simp only [Act.put, List.getElem_toArray, List.getElem_cons_succ, List.getElem_cons_zero, List.setIfInBounds_toArray, List.set_cons_succ, List.set_cons_zero]
                        refine wpAnyK_fork1 15 (by kernel_rfl) ?_
                        refine wpOpK_step rfl (by kernel_rfl) (listed' := #[true, true, true, true, true, true, true, true, true, true, true, true, true, true, true, true, true, true, true, true, false, true, false, false]) rfl (by kernel_rfl) (fun K hK => ?_)
                        refine oper_append8 KI _ _ rfl wd.heap.size (Value.slice (some ⟨wp1.heap.size, 0, none⟩) 0 0) ([]) I1 rfl HP15.out HX15.out.size (some ⟨xb, xo, none⟩) k xc rfl HLE.out.2.2.1 (HI1.out _ HX15.out) (fun h => by cases h) (by have h9 := HSE.out.2; simp only [List.length_nil]; omega) ?_
                        intro v16 w16 ho16 hg16 hk16
                        rw [List.nil_append] at ho16
                        have HX16 := Lib.hid (show Below wd.heap.size wd w16 from HX15.out.grown hg16 HX15.out.size (fun k hk => (HP15.out.ge k hk).1))
                        have HP16 := Lib.hid (own_grown8 HO15.out hg16 (fun j e e2 => HD15.out j e e2))
                        have HD16 := Lib.hid (show ∀ j, (Value.slice av15 (EJ).length cv15).ownBlock = some j → v16.ownBlock ≠ some j from fun j e e2 => by
                          rcases hk16 with h9 | h9
                          · rw [h9] at e2; exact HD15.out j e e2
                          · rw [h9] at e2; injection e2 with e2; have h8 := (HO15.out.ge j e).2; omega)
                        obtain ⟨av16, cv16, ev16, _⟩ := ho16.form
                        subst ev16
                        have HO16 := Lib.hid ho16
                        clear ho16 hg16 hk16
                        refine hK _ _ (HX16.out) ?_
                        clear hK K
                        try simp only [Act.put, List.getElem_toArray, List.getElem_cons_succ, List.getElem_cons_zero, List.setIfInBounds_toArray, List.set_cons_succ, List.set_cons_zero]
                        refine wpAnyK_fork1 20 (by kernel_rfl) ?_
                        refine wpOpK_step rfl (by kernel_rfl) (listed' := #[true, true, true, true, true, true, true, true, true, true, true, true, true, true, true, true, true, true, true, true, true, true, false, false]) rfl (by kernel_rfl) (fun K hK => ?_)
                        refine oper_append8 KI _ _ rfl wd.heap.size (Value.slice av16 (I1).length cv16) (I1) I2 rfl HO16.out HX16.out.size xa2 (hs.length - (k + 1)) (xc - (k + 1)) rfl HLE.out.2.2.2 (HI2.out _ HX16.out) HN2.out.2 HSE.out.2 ?_
                        intro v17 w17 ho17 hg17 hk17
                        rw [HIJ.out] at ho17
                        have HX17 := Lib.hid (show Below wd.heap.size wd w17 from HX16.out.grown hg17 HX16.out.size (fun k hk => (HO16.out.ge k hk).1))
                        have HP17 := Lib.hid (own_grown8 HP16.out hg17 (fun j e e2 => HD16.out j e e2))
                        have HD17 := Lib.hid (show ∀ j, (Value.slice av15 (EJ).length cv15).ownBlock = some j → v17.ownBlock ≠ some j from fun j e e2 => by
                          rcases hk17 with h9 | h9
                          · rw [h9] at e2; exact HD16.out j e e2
                          · rw [h9] at e2; injection e2 with e2; have h8 := (HP16.out.ge j e).2; omega)
                        obtain ⟨av17, cv17, ev17, _⟩ := ho17.form
                        subst ev17
                        have HO17 := Lib.hid ho17
                        clear ho17 hg17 hk17
                        refine hK _ _ (HX17.out) ?_
                        clear hK K
                        try simp only [Act.put, List.getElem_toArray, List.getElem_cons_succ, List.getElem_cons_zero, List.setIfInBounds_toArray, List.set_cons_succ, List.set_cons_zero]
                        refine wpAnyK_fork1 22 (by kernel_rfl) ?_
                        refine wpOpK_step rfl (by kernel_rfl) (listed' := #[true, true, true, true, true, true, true, true, true, true, true, true, true, true, true, true, true, true, true, true, true, true, true, false]) rfl (by kernel_rfl) (fun K hK => ?_)
                        have re18 := rl_own8 HP17.out
                        have ri18 := rl_own8 HO17.out
                        go_simp
                        refine (HCUT.out _ _ _ _ _ HX17.out re18 ri18).mono ?_
                        rintro e w18 ⟨rfl, hb18⟩
                        have HX18 := Lib.hid (below_up8 HX17.out hb18)
                        refine hK _ _ HX18.out ?_
                        clear hK K hb18 re18 ri18
                        try simp only [Act.put, List.getElem_toArray, List.getElem_cons_succ, List.getElem_cons_zero, List.setIfInBounds_toArray, List.set_cons_succ, List.set_cons_zero]
                        refine wpAnyK_end (by kernel_rfl) ?_
                        try simp only [pickOps, List.filterMap_cons, List.filterMap_nil, List.getElem?_toArray, List.getElem?_cons_succ, List.getElem?_cons_zero]
                        go_wp2_with fail
                        refine NoPanic.normal ?_
                        go_wp2_with fail
                        go_meet
                        exact ⟨rfl, HX18⟩
                    · skip
                      obtain ⟨wp19, Vp19, Zp19, _, Bp19⟩ := lay8 wx [] 3
                      have Vp19 := (show wx.alloc (.cells #[] 3) = wp19 from Vp19)
                      have HX19 := Lib.hid (show Below wd.heap.size wd wp19 from below_up8 HXs.out Bp19)
                      have HO19 := Lib.hid (show Own KI wp19 wd.heap.size (.slice (some ⟨wx.heap.size, 0, none⟩) 0 0) [] from by rw [← Vp19]; exact KI.new wx wd.heap.size [] HXs.out.size (by simp) [] rfl 3 rfl 0 rfl)
                      clear Zp19 Bp19
                      refine wpOpK_step rfl (by kernel_rfl) (listed' := #[true, false, true, true, true, false, true, true, true, true, false, true, true, true, true, false, true, true, true, true, false, true, false, false]) rfl (by kernel_rfl) (fun K hK => ?_)
                      go_simp
                      refine hK _ _ (HX19.out) ?_
                      clear hK K Vp19
                      try simp only [Act.put, List.getElem_toArray, List.getElem_cons_succ, List.getElem_cons_zero, List.setIfInBounds_toArray, List.set_cons_succ, List.set_cons_zero]
                      refine wpAnyK_fork1 1 (by kernel_rfl) ?_
                      obtain ⟨wp20, Vp20, Zp20, _, Bp20⟩ := lay8 wp19 [] 46
                      have Vp20 := (show wp19.alloc (.cells #[] 46) = wp20 from Vp20)
                      have HX20 := Lib.hid (show Below wd.heap.size wd wp20 from below_up8 HX19.out Bp20)
                      have HO20 := Lib.hid (show Own KE wp20 wd.heap.size (.slice (some ⟨wp19.heap.size, 0, none⟩) 0 0) [] from by rw [← Vp20]; exact KE.new wp19 wd.heap.size [] HX19.out.size (by simp) [] rfl 46 rfl 0 rfl)
                      have HP20 := Lib.hid (HO19.out.below Bp20 (Nat.le_refl _))
                      have HD20 := Lib.hid (show ∀ j, (Value.slice (some ⟨wx.heap.size, 0, none⟩) 0 0).ownBlock = some j → (Value.slice (some ⟨wp19.heap.size, 0, none⟩) 0 0).ownBlock ≠ some j from fun j e e2 => by have h9 := (HO19.out.ge j e).2; have e3 := Option.some.inj (show some wp19.heap.size = some j from e2); omega)
                      clear Zp20 Bp20
                      refine wpOpK_step rfl (by kernel_rfl) (listed' := #[true, true, true, true, true, false, true, true, true, true, false, true, true, true, true, false, true, true, true, true, false, true, false, false]) rfl (by kernel_rfl) (fun K hK => ?_)
                      go_simp
                      refine hK _ _ (HX20.out) ?_
                      clear hK K Vp20
                      try simp only [Act.put, List.getElem_toArray, List.getElem_cons_succ, List.getElem_cons_zero, List.setIfInBounds_toArray, List.set_cons_succ, List.set_cons_zero]
                      refine wpAnyK_fork1 5 (by kernel_rfl) ?_
                      refine wpOpK_step rfl (by kernel_rfl) (listed' := #[true, true, true, true, true, true, true, true, true, true, false, true, true, true, true, false, true, true, true, true, false, true, false, false]) rfl (by kernel_rfl) (fun K hK => ?_)
                      refine oper_append8 KE _ _ rfl wd.heap.size (Value.slice (some ⟨wp19.heap.size, 0, none⟩) 0 0) ([]) E1 rfl HO20.out HX20.out.size (some ⟨zb, zo, none⟩) k zk rfl HLE.out.1 (HE1.out _ HX20.out) (fun h => by cases h) (by have h9 := HSE.out.1; simp only [List.length_nil]; omega) ?_
                      intro v21 w21 ho21 hg21 hk21
                      rw [List.nil_append] at ho21
                      have HX21 := Lib.hid (show Below wd.heap.size wd w21 from HX20.out.grown hg21 HX20.out.size (fun k hk => (HO20.out.ge k hk).1))
                      have HP21 := Lib.hid (own_grown8 HP20.out hg21 (fun j e e2 => HD20.out j e e2))
                      have HD21 := Lib.hid (show ∀ j, (Value.slice (some ⟨wx.heap.size, 0, none⟩) 0 0).ownBlock = some j → v21.ownBlock ≠ some j from fun j e e2 => by
                        rcases hk21 with h9 | h9
                        · rw [h9] at e2; exact HD20.out j e e2
                        · rw [h9] at e2; injection e2 with e2; have h8 := (HP20.out.ge j e).2; omega)
                      obtain ⟨av21, cv21, ev21, _⟩ := ho21.form
                      subst ev21
                      have HO21 := Lib.hid ho21
                      clear ho21 hg21 hk21
                      refine hK _ _ (HX21.out) ?_
                      clear hK K
                      try simp only [Act.put, List.getElem_toArray, List.getElem_cons_succ, List.getElem_cons_zero, List.setIfInBounds_toArray, List.set_cons_succ, List.set_cons_zero]
                      refine wpAnyK_fork1 10 (by kernel_rfl) ?_
                      refine wpOpK_step rfl (by kernel_rfl) (listed' := #[true, true, true, true, true, true, true, true, true, true, true, true, true, true, true, false, true, true, true, true, false, true, false, false]) rfl (by kernel_rfl) (fun K hK => ?_)
                      refine oper_append8 KE _ _ rfl wd.heap.size (Value.slice av21 (E1).length cv21) (E1) E2 rfl HO21.out HX21.out.size za2 (hs.length - (k + 1)) (zk - (k + 1)) rfl HLE.out.2.1 (HE2.out _ HX21.out) HN2.out.1 HSE.out.1 ?_
                      intro v22 w22 ho22 hg22 hk22
                      rw [HEJ.out] at ho22
                      have HX22 := Lib.hid (show Below wd.heap.size wd w22 from HX21.out.grown hg22 HX21.out.size (fun k hk => (HO21.out.ge k hk).1))
                      have HP22 := Lib.hid (own_grown8 HP21.out hg22 (fun j e e2 => HD21.out j e e2))
                      have HD22 := Lib.hid (show ∀ j, (Value.slice (some ⟨wx.heap.size, 0, none⟩) 0 0).ownBlock = some j → v22.ownBlock ≠ some j from fun j e e2 => by
                        rcases hk22 with h9 | h9
                        · rw [h9] at e2; exact HD21.out j e e2
                        · rw [h9] at e2; injection e2 with e2; have h8 := (HP21.out.ge j e).2; omega)
                      obtain ⟨av22, cv22, ev22, _⟩ := ho22.form
                      subst ev22
                      have HO22 := Lib.hid ho22
                      clear ho22 hg22 hk22
                      refine hK _ _ (HX22.out) ?_
                      clear hK K
                      try simp only [Act.put, List.getElem_toArray, List.getElem_cons_succ, List.getElem_cons_zero, List.setIfInBounds_toArray, List.set_cons_succ, List.set_cons_zero]
                      refine wpAnyK_fork1 15 (by kernel_rfl) ?_
                      refine wpOpK_step rfl (by kernel_rfl) (listed' := #[true, true, true, true, true, true, true, true, true, true, true, true, true, true, true, true, true, true, true, true, false, true, false, false]) rfl (by kernel_rfl) (fun K hK => ?_)
                      refine oper_append8 KI _ _ rfl wd.heap.size (Value.slice (some ⟨wx.heap.size, 0, none⟩) 0 0) ([]) I1 rfl HP22.out HX22.out.size (some ⟨xb, xo, none⟩) k xc rfl HLE.out.2.2.1 (HI1.out _ HX22.out) (fun h => by cases h) (by have h9 := HSE.out.2; simp only [List.length_nil]; omega) ?_
                      intro v23 w23 ho23 hg23 hk23
                      rw [List.nil_append] at ho23
                      have HX23 := Lib.hid (show Below wd.heap.size wd w23 from HX22.out.grown hg23 HX22.out.size (fun k hk => (HP22.out.ge k hk).1))
                      have HP23 := Lib.hid (own_grown8 HO22.out hg23 (fun j e e2 => HD22.out j e2 e))
                      have HD23 := Lib.hid (show ∀ j, v23.ownBlock = some j → (Value.slice av22 (EJ).length cv22).ownBlock ≠ some j from fun j e2 e => by
                        rcases hk23 with h9 | h9
                        · rw [h9] at e2; exact HD22.out j e2 e
                        · rw [h9] at e2; injection e2 with e2; have h8 := (HO22.out.ge j e).2; omega)
                      obtain ⟨av23, cv23, ev23, _⟩ := ho23.form
                      subst ev23
                      have HO23 := Lib.hid ho23
                      clear ho23 hg23 hk23
                      refine hK _ _ (HX23.out) ?_
                      clear hK K
                      try simp only [Act.put, List.getElem_toArray, List.getElem_cons_succ, List.getElem_cons_zero, List.setIfInBounds_toArray, List.set_cons_succ, List.set_cons_zero]
                      refine wpAnyK_fork1 20 (by kernel_rfl) ?_
                      refine wpOpK_step rfl (by kernel_rfl) (listed' := #[true, true, true, true, true, true, true, true, true, true, true, true, true, true, true, true, true, true, true, true, true, true, false, false]) rfl (by kernel_rfl) (fun K hK => ?_)
                      refine oper_append8 KI _ _ rfl wd.heap.size (Value.slice av23 (I1).length cv23) (I1) I2 rfl HO23.out HX23.out.size xa2 (hs.length - (k + 1)) (xc - (k + 1)) rfl HLE.out.2.2.2 (HI2.out _ HX23.out) HN2.out.2 HSE.out.2 ?_
                      intro v24 w24 ho24 hg24 hk24
                      rw [HIJ.out] at ho24
                      have HX24 := Lib.hid (show Below wd.heap.size wd w24 from HX23.out.grown hg24 HX23.out.size (fun k hk => (HO23.out.ge k hk).1))
                      have HP24 := Lib.hid (own_grown8 HP23.out hg24 (fun j e e2 => HD23.out j e2 e))
                      have HD24 := Lib.hid (show ∀ j, v24.ownBlock = some j → (Value.slice av22 (EJ).length cv22).ownBlock ≠ some j from fun j e2 e => by
                        rcases hk24 with h9 | h9
                        · rw [h9] at e2; exact HD23.out j e2 e
                        · rw [h9] at e2; injection e2 with e2; have h8 := (HP23.out.ge j e).2; omega)
                      obtain ⟨av24, cv24, ev24, _⟩ := ho24.form
                      subst ev24
                      have HO24 := Lib.hid ho24
                      clear ho24 hg24 hk24
                      refine hK _ _ (HX24.out) ?_
                      clear hK K
                      try simp only [Act.put, List.getElem_toArray, List.getElem_cons_succ, List.getElem_cons_zero, List.setIfInBounds_toArray, List.set_cons_succ, List.set_cons_zero]
                      refine wpAnyK_fork1 22 (by kernel_rfl) ?_
                      refine wpOpK_step rfl (by kernel_rfl) (listed' := #[true, true, true, true, true, true, true, true, true, true, true, true, true, true, true, true, true, true, true, true, true, true, true, false]) rfl (by kernel_rfl) (fun K hK => ?_)
                      have re25 := rl_own8 HP24.out
                      have ri25 := rl_own8 HO24.out
                      go_simp
                      refine (HCUT.out _ _ _ _ _ HX24.out re25 ri25).mono ?_
                      rintro e w25 ⟨rfl, hb25⟩
                      have HX25 := Lib.hid (below_up8 HX24.out hb25)
                      refine hK _ _ HX25.out ?_
                      clear hK K hb25 re25 ri25
                      try simp only [Act.put, List.getElem_toArray, List.getElem_cons_succ, List.getElem_cons_zero, List.setIfInBounds_toArray, List.set_cons_succ, List.set_cons_zero]
                      refine wpAnyK_end (by kernel_rfl) ?_
                      try simp only [pickOps, List.filterMap_cons, List.filterMap_nil, List.getElem?_toArray, List.getElem?_cons_succ, List.getElem?_cons_zero]
                      go_wp2_with fail
                      refine NoPanic.normal ?_
                      go_wp2_with fail
                      go_meet
                      exact ⟨rfl, HX25⟩
                  case rest =>
                    obtain ⟨rfl, HBx⟩ := hcut
                    generalize wc = we at *
                    have HB7e := Lib.hid (below_up8 HB7d.out HBx.out)
                    clear HBx
                    cases AF with
                    | true =>
                      go_wp2_with fail
                      go_roundw
                      case rel => exact ⟨j + 1, by go_num, HLT.out, HB7e⟩
                      case measure => have h9 := HLT.out; simp [RowKit.intOf]; omega
                    | false => cases HFF.out (by first | trivial | rfl)
          · have hji : ¬ (j : Int) < 2 := by omega
            have hje : j = 2 := by omega
            clear hlt
            subst hje
            go_wp2_with fail
            go_ret
            exact ⟨rfl, HBwr.out⟩
end Go.Proofs.YtamefmojocegkaaDoor
