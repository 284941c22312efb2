/-
  Layer 9: the law BatchHead: lists of events with one chain are the same, or two different strings have one digest.
-/
import Derived.Test.YtnpfhcnjkekhbaaGreatDoorK29
import Derived.Defers
import Derived.Recover
import Derived.Sort.CutIn
import Derived.Shelf.Strings.BuilderK
import Derived.Shelf.Strings.Repeat
import Derived.Maps.Own
import Derived.Maps.OwnOps
import Derived.Laws.Rows
import Derived.Laws.OwnMore
import Derived.OwnWalk
import Derived.WalkKit
import Derived.WalkLawsBesides
import Derived.Outline
import Derived.Lib.Hide
import Derived.Below
import Derived.BigQuiet
import Derived.Deep.QuietTactic
import Derived.Deep.RegionHeld3
import Derived.Lib.QuietBelow
import Derived.Deep.DeepCutAuto
import Derived.StillTail
import Derived.Lib.Varint
import Derived.Lib.SlBytesRow
import Derived.Shelf.Abstract
import Derived.OwnWalkIn
import Derived.TacticsInMore
import Derived.LoopNIn
import Derived.LoopIn
import Derived.RangeFuncNested
import Derived.RangeFuncBound
import Derived.RangeFuncCalls
import Derived.RangeFuncLeaves
import Derived.RangeFuncBox
import Derived.Lib.ConvBytes
import Derived.DefersIn
import Derived.Laws.CopyOwn
import Derived.RegionTactic
import Derived.ChangeAlike
import Derived.Deep.RegionWith
import Derived.Deep.CutRange
import Derived.IntWalk
import Derived.Lib.EndianBits
import Derived.Lib.Strings
import Derived.ControlIn
import Derived.WalkMore
import Derived.Lib.SliceRun
import Derived.RangeFuncRecord
import Derived.Shelf.LaysM
import Derived.Shelf.Strconv.Clone
import Derived.RangeFuncFrom
import Derived.TacticsIn
import Derived.OrdersIn
import Derived.Laws.MakeOwn
import Derived.Laws.StructEq
import Derived.Maps.AppendAt
import Derived.Deep.RegionLaw
import Derived.Laws.AppendOwn
namespace Go.Proofs.YtnpfhcnjkekhbaaGreatDoor
open Go Go.Proofs Go.RowKit Go.Lib
set_option maxRecDepth 100000 in
set_option maxHeartbeats 16000000 in
theorem batchHead_u (ag : Int) (lad : Option Addr) (lc : Nat) (l : List S6) (mad : Option Addr) (mc : Nat) (m : List S6) (wh : Int) (x : S6)
    (g0 : -9223372036854775808 ≤ ag) (g1 : ag ≤ 9223372036854775807) (h0 : -9223372036854775808 ≤ wh) (h1 : wh ≤ 9223372036854775807)
    (hl : l.length ≤ maxLen) (hx : ∀ y ∈ l, y.fit) (hm : m.length ≤ maxLen) (hmx : ∀ y ∈ m, y.fit) (hX : x.fit)
    (w : World) (hR : Rdy w) (hD : Ready w) (hI : RL K6 w lad l) (hJ : RL K6 w mad m) :
    Calls Tryz.prog 6 #[.int .i64 ag, .slice lad l.length lc, .slice mad m.length mc, .int .i64 wh, .agg #[.int .i64 x.a, .int .i64 x.b, .int .i64 x.c, .int .i64 x.d, .int .i64 x.e, .int .i64 x.f]] w fun e w' => e = .returned (.bool true) ∧ Below w.heap.size w w' := by
  obtain ⟨w0, V0, Z0w, K0, B0⟩ := lay8 w [.int .i64 x.a, .int .i64 x.b, .int .i64 x.c, .int .i64 x.d, .int .i64 x.e, .int .i64 x.f] 61
  have V0 := (show w.alloc (.cells #[.int .i64 x.a, .int .i64 x.b, .int .i64 x.c, .int .i64 x.d, .int .i64 x.e, .int .i64 x.f] 61) = w0 from V0)
  have HX0 := Lib.hid (fun W (b : Below w0.heap.size w0 W) => (show (W.cell? ⟨w.heap.size, 0, none⟩ = some (.int .i64 x.a) ∧ W.cell? ⟨w.heap.size, 1, none⟩ = some (.int .i64 x.b) ∧ W.cell? ⟨w.heap.size, 2, none⟩ = some (.int .i64 x.c) ∧ W.cell? ⟨w.heap.size, 3, none⟩ = some (.int .i64 x.d) ∧ W.cell? ⟨w.heap.size, 4, none⟩ = some (.int .i64 x.e) ∧ W.cell? ⟨w.heap.size, 5, none⟩ = some (.int .i64 x.f)) from ⟨(K0.below b 0 (by simp)).1, (K0.below b 1 (by simp)).1, (K0.below b 2 (by simp)).1, (K0.below b 3 (by simp)).1, (K0.below b 4 (by simp)).1, (K0.below b 5 (by simp)).1⟩))
  have HSN := Lib.hid (sane9_any w0 (hR.below B0) (hD.below B0))
  have HST := Lib.hid (fun W (b : Below w.heap.size w W) => streamR9_any ag lad lc l g0 g1 hl hx W (hI.below b))
  have HTT := Lib.hid (fun W (b : Below w.heap.size w W) => streamR9_any ag mad mc m g0 g1 hm hmx W (hJ.below b))
  have HMD := Lib.hid (fun a b c W => madeR9_any a b c x hX W)
  have HPA := Lib.hid (fun W => pickL9_any ag 6 g0 g1 (by decide) (by decide) W)
  have HPW := Lib.hid (fun n (hn : 1 ≤ n) (hn2 : n ≤ 9223372036854775807) W => pickL9_any wh n h0 h1 hn hn2 W)
  have HZZ := Lib.hid (fun W => zeroR9_any W)
  have HRD := Lib.hid (fun W (b : Below w.heap.size w W) => hR.below b)
  have HDD := Lib.hid (fun W (b : Below w.heap.size w W) => hD.below b)
  have HOK := Lib.hid (fun N (h1 : N ≤ (strL ag l).length) (h2 : N ≤ (strL ag m).length) => hd9 ag l m N (by rw [strL_len] at h1; exact h1) (by rw [strL_len] at h2; exact h2))
  have HSL := Lib.hid (show (strL ag l).length ≤ 20 from by rw [strL_len]; exact strN_le l)
  have HTL := Lib.hid (show (strL ag m).length ≤ 20 from by rw [strL_len]; exact strN_le m)
  have HEV := Lib.hid (show ∀ e ∈ strL ag l, e.wf from fun e he => evB_wf9 (numB_ev (strL_num ag l) e he))
  have HET := Lib.hid (show ∀ e ∈ strL ag m, e.wf from fun e he => evB_wf9 (numB_ev (strL_num ag m) e he))
  generalize strL ag l = S at *
  generalize strL ag m = T at *
  generalize pick8 ag 6 = PA at *
  have HB := Lib.hid B0
  clear g0 g1 h0 h1 hl hx hm hmx hX hR hD hI hJ K0 Z0w B0
  obtain ⟨Z0, hZ0⟩ : ∃ Z0, zz32 = Z0 := ⟨_, rfl⟩
  have HZ0 := Lib.hid hZ0
  rw [hZ0] at HZZ
  clear hZ0
  go_enter Tryz.func6, Tryz.ntmps6
  go_wp2_with fail
  refine HSN.out.mono ?_
  rintro e w1 ⟨rfl, hb⟩
  replace HB := Lib.hid (HB.out.trans (hb.mono HB.out.size))
  have HB0 := Lib.hid hb
  clear hb HSN V0
  go_wp2_with fail
  refine (HST.out _ HB.out).mono ?_
  rintro e w2 ⟨ad1, c1, rfl, hc1, hn1, hr1, hb⟩
  replace HB := Lib.hid (HB.out.trans (hb.mono HB.out.size))
  replace HB0 := Lib.hid (HB0.out.trans (hb.mono HB0.out.size))
  have HS := Lib.hid (fun W (b : Below w2.heap.size w2 W) => hr1.rl.below b)
  have HCA := Lib.hid (And.intro hc1 hn1)
  clear hb hr1 hc1 hn1 HST
  go_wp2_with fail
  refine (HTT.out _ HB.out).mono ?_
  rintro e w3 ⟨ad2, c2, rfl, hc2, hn2, hr2, hb⟩
  replace HB := Lib.hid (HB.out.trans (hb.mono HB.out.size))
  replace HB0 := Lib.hid (HB0.out.trans (hb.mono HB0.out.size))
  have HB2 := Lib.hid hb
  have HT := Lib.hid (fun W (b : Below w3.heap.size w3 W) => hr2.rl.below b)
  have HCB := Lib.hid (And.intro hc2 hn2)
  clear hb hr2 hc2 hn2 HTT
  obtain ⟨N, hN⟩ : ∃ N, N = min S.length T.length := ⟨_, rfl⟩
  have HN := Lib.hid hN
  clear hN
  go_upto_region 4 with fail
  go_cut [14] from 31 to 35 (fun s wx => s = .int .i64 (N : Int) ∧ Hid (Below w3.heap.size w3 wx))
  case first =>
    have h9 := Lib.hid (show min (S.length : Int) (T.length : Int) = (N : Int) from by have := HN.out; omega)
    go_wp2_with fail
    go_meet
    exact ⟨by rw [← h9.out], Lib.hid (Below.refl _ _)⟩
  case rest =>
    obtain ⟨rfl, HBx⟩ := hcut
    generalize wc = w4 at *
    replace HB := Lib.hid (below_up8 HB.out HBx.out)
    replace HB0 := Lib.hid (below_up8 HB0.out HBx.out)
    replace HB2 := Lib.hid (below_up8 HB2.out HBx.out)
    have HB3 := Lib.hid HBx.out
    clear HBx
    have hNS : N ≤ S.length := by have := HN.out; omega
    have hNT : N ≤ T.length := by have := HN.out; omega
    have HH := Lib.hid (HOK.out N hNS hNT)
    have HNL := Lib.hid (show N ≤ 20 from Nat.le_trans hNS HSL.out)
    have HAL := Lib.hid (show (S.take N).length = N from by rw [List.length_take]; omega)
    have HBL := Lib.hid (show (T.take N).length = N from by rw [List.length_take]; omega)
    have HSA := Lib.hid (fun W (b : Below w2.heap.size w2 W) => (HS.out W b).take8 N)
    have HTB := Lib.hid (fun W (b : Below w3.heap.size w3 W) => (HT.out W b).take8 N)
    have HEA := Lib.hid (show evsW (S.take N) from fun e he => HEV.out e (List.mem_of_mem_take he))
    have HEB := Lib.hid (show evsW (T.take N) from fun e he => HET.out e (List.mem_of_mem_take he))
    have hsa := fun W => (show (Instr.slice 24 (.slice ad1 S.length c1) none (some (.int .i64 (N : Int))) none).run Tryz.prog W = .ok (.slice ad1 N c1) W from KE.to8 ad1 S.length c1 N (Nat.le_trans hNS HCA.out.1) W)
    have hsb := fun W => (show (Instr.slice 24 (.slice ad2 T.length c2) none (some (.int .i64 (N : Int))) none).run Tryz.prog W = .ok (.slice ad2 N c2) W from KE.to8 ad2 T.length c2 N (Nat.le_trans hNT HCB.out.1) W)
    have HNC := Lib.hid (And.intro (show N ≤ c1 from Nat.le_trans hNS HCA.out.1) (show N ≤ c2 from Nat.le_trans hNT HCB.out.1))
    have HKS := Lib.hid (show ∀ k, k < N → ∃ b o, ad1 = some ⟨b, o, none⟩ ∧ ∀ W, Below w2.heap.size w2 W → EvCells W b (o + 12 * k) (evD (S.take N) k) from fun k hk => by
      obtain ⟨b, o, h1, _, h3⟩ := (HSA.out w2 (Below.refl _ _)).ev k (by rw [HAL.out]; exact hk)
      refine ⟨b, o, h1, fun W hb => ?_⟩
      have := h3 W hb
      rw [evD_of (by rw [HAL.out]; exact hk)]
      exact this)
    have HSN := Lib.hid hNS
    generalize S.take N = LA at *
    generalize T.take N = LB at *
    obtain ⟨P, hP⟩ : ∃ P, chH chainF zz32 LA = P := ⟨_, rfl⟩
    obtain ⟨Q, hQ⟩ : ∃ Q, chH chainF zz32 LB = Q := ⟨_, rfl⟩
    have HPP := Lib.hid hP
    have HQQ := Lib.hid hQ
    clear hP hQ hNS hNT
    have HC1 := Lib.hid (fun W (b2 : Below w2.heap.size w2 W) (b : Below w.heap.size w W) => show Calls Tryz.prog 17 #[.string Z0, .slice ad1 N c1] W (fun e w' => e = .returned (.tuple #[.string P, .int .i64 0]) ∧ Below W.heap.size W w') from by
      have h := chainB_u zz32 ad1 c1 LA (by rw [HAL.out]; exact Nat.le_trans HNL.out (by decide)) HEA.out W (HRD.out _ b) (HDD.out _ b) (HSA.out _ b2)
      obtain ⟨e1, e2⟩ := chainV_yes (h := zz32) (l := LA) zz32_size HH.out.ea
      rw [e1, e2, HAL.out, HZ0.out] at h
      rw [← HZ0.out] at h
      rw [← HZ0.out, ← HPP.out]
      exact h)
    have HC2 := Lib.hid (fun W (b2 : Below w3.heap.size w3 W) (b : Below w.heap.size w W) => show Calls Tryz.prog 17 #[.string Z0, .slice ad2 N c2] W (fun e w' => e = .returned (.tuple #[.string Q, .int .i64 0]) ∧ Below W.heap.size W w') from by
      have h := chainB_u zz32 ad2 c2 LB (by rw [HBL.out]; exact Nat.le_trans HNL.out (by decide)) HEB.out W (HRD.out _ b) (HDD.out _ b) (HTB.out _ b2)
      obtain ⟨e1, e2⟩ := chainV_yes (h := zz32) (l := LB) zz32_size HH.out.eb
      rw [e1, e2, HBL.out] at h
      rw [← HZ0.out, ← HQQ.out]
      exact h)
    go_wp2_with fail
    refine (HZZ.out _).mono ?_
    rintro e w5 ⟨rfl, hb⟩
    replace HB := Lib.hid (below_up8 HB.out hb)
    replace HB0 := Lib.hid (below_up8 HB0.out hb)
    replace HB2 := Lib.hid (below_up8 HB2.out hb)
    replace HB3 := Lib.hid (below_up8 HB3.out hb)
    clear hb
    go_wp2_with fail
    refine (HC1.out _ HB2.out HB.out).mono ?_
    rintro e w6 ⟨rfl, hb⟩
    replace HB := Lib.hid (below_up8 HB.out hb)
    replace HB0 := Lib.hid (below_up8 HB0.out hb)
    replace HB2 := Lib.hid (below_up8 HB2.out hb)
    replace HB3 := Lib.hid (below_up8 HB3.out hb)
    clear hb HC1
    go_wp2_with fail
    refine (HC2.out _ HB3.out HB.out).mono ?_
    rintro e w7 ⟨rfl, hb⟩
    replace HB := Lib.hid (below_up8 HB.out hb)
    replace HB0 := Lib.hid (below_up8 HB0.out hb)
    replace HB2 := Lib.hid (below_up8 HB2.out hb)
    replace HB3 := Lib.hid (below_up8 HB3.out hb)
    clear hb HC2
    go_upto_region 10 with fail
    have HSE := Lib.hid (fun W (b : Below w7.heap.size w7 W) => show Calls Tryz.prog 34 #[.slice ad1 N c1, .slice ad2 N c2] W (fun e w' => e = .returned (.bool (decide (LA = LB))) ∧ Below W.heap.size W w') from by
      have := sameEvR9_any ad1 ad2 c1 c2 LA LB (by rw [HAL.out]; exact Nat.le_trans HNL.out (by decide)) W (HSA.out _ (below_up8 HB2.out b)) (HTB.out _ (below_up8 HB3.out b))
      rw [HAL.out, HBL.out] at this
      exact this)
    have HK1 := Lib.hid (fun W (b : Below w7.heap.size w7 W) => show Calls Tryz.prog 36 #[.string Z0, .slice ad1 N c1] W (TsPost W (chsL zz32 LA)) from by
      have := chainedR9_any zz32 zz32_size ad1 c1 LA (by rw [HAL.out]; exact Nat.le_trans HNL.out (by decide)) (by rw [HAL.out]; exact HNC.out.1) HH.out.ea W (HSA.out _ (below_up8 HB2.out b))
      rw [HAL.out] at this
      rw [← HZ0.out]
      exact this)
    have HK2 := Lib.hid (fun W (b : Below w7.heap.size w7 W) => show Calls Tryz.prog 36 #[.string Z0, .slice ad2 N c2] W (TsPost W (chsL zz32 LB)) from by
      have := chainedR9_any zz32 zz32_size ad2 c2 LB (by rw [HBL.out]; exact Nat.le_trans HNL.out (by decide)) (by rw [HBL.out]; exact HNC.out.2) HH.out.eb W (HTB.out _ (below_up8 HB3.out b))
      rw [HBL.out] at this
      rw [← HZ0.out]
      exact this)
    have HCS := Lib.hid (fun a1 k1 a2 k2 W (r1 : RL KT9 W a1 (chsL zz32 LA)) (r2 : RL KT9 W a2 (chsL zz32 LB)) => collidedR9_any (chsL zz32 LA) (chsL zz32 LB) a1 a2 k1 k2 (by rw [chsL_len, HAL.out]; have := HNL.out; omega) (by rw [chsL_len, HBL.out]; have := HNL.out; omega) (chs_small zz32_size HH.out.ea) (chs_small zz32_size HH.out.eb) W r1 r2)
    have HCC := Lib.hid HH.out.cases
    rw [HPP.out, HQQ.out] at HCC
    go_cut [83] from 59 to 83 (fun s83 wx => s83 = .bool false ∧ Hid (Below w7.heap.size w7 wx))
    case first =>
      rcases HCC.out with ⟨e1, e2⟩ | ⟨e1, e2⟩ | ⟨e1, e2, e3⟩
      · skip
        have hpq : (P.toList == Q.toList) = true := by rw [str_eq_iff]; exact decide_eq_true e2
        rw [decide_eq_true e1] at HSE
        clear e1 e2
        refine wp_region_quiet_below (by kernel_rfl) (by kernel_rfl) ?_
        repeat (first | go_big_quiet_step ((first | fail | (go_at_call 34; exact Calls.regrown_of (HSE.out _ (below_regrown _ _ _))))) | quiet_step ((first | fail | (go_at_call 34; exact Calls.regrown_of (HSE.out _ (below_regrown _ _ _))))))
        refine wpQuiet_nil ?_
        intro _ hw'
        obtain ⟨⟨dq, osq⟩, hw''⟩ := hw'
        subst hw''
        go_wp2_with fail
        go_meet
        exact ⟨by first | rfl | simp, Lib.hid (below_regrown _ _ _)⟩
      · skip
        have hpq : (P.toList == Q.toList) = false := by rw [str_eq_iff]; exact decide_eq_false e2
        rw [decide_eq_false e1] at HSE
        clear e1 e2
        refine wp_region_quiet_below (by kernel_rfl) (by kernel_rfl) ?_
        repeat (first | go_big_quiet_step ((first | fail | (go_at_call 34; exact Calls.regrown_of (HSE.out _ (below_regrown _ _ _))))) | quiet_step ((first | fail | (go_at_call 34; exact Calls.regrown_of (HSE.out _ (below_regrown _ _ _))))))
        refine wpQuiet_nil ?_
        intro _ hw'
        obtain ⟨⟨dq, osq⟩, hw''⟩ := hw'
        subst hw''
        go_wp2_with fail
        go_meet
        exact ⟨by first | rfl | simp, Lib.hid (below_regrown _ _ _)⟩
      · skip
        have hpq : (P.toList == Q.toList) = true := by rw [str_eq_iff]; exact decide_eq_true e2
        rw [decide_eq_false e1] at HSE
        clear e1 e2
        have HCS := Lib.hid (fun a1 k1 a2 k2 W r1 r2 => (HCS.out a1 k1 a2 k2 W r1 r2).mono (R' := fun e w' => e = .returned (.bool true) ∧ Below W.heap.size W w') (fun e w' h => ⟨by rw [h.1, e3], h.2⟩))
        clear e3
        refine wp_region_noPanic ?_
        refine wp_region_Kx (C := NewB w7) [24] 24 #[false, false, false, false, false, false, false, false, false, false, false, false, false, false, false, false, false, false, false, false, false, false, false, false, false] (by kernel_rfl) (by kernel_rfl) (by kernel_rfl) (newB0 _) ?_
        intro wx hwx
        refine wpAnyK_ex (i := 0) rfl (by kernel_rfl) (listed' := #[true, false, false, false, false, false, false, false, false, false, false, false, false, false, false, false, false, false, false, false, false, false, false, false, false]) rfl (fun _ _ _ _ _ h => h) hwx ?_
        apply Exists.intro
        refine ⟨⟨by kernel_rfl, fun wy hw => ?_⟩, ?_⟩
        · (have bw := hw.below; go_simp; try (first | (with_reducible rfl) | (with_reducible exact ⟨rfl, rfl⟩)))
        try simp only [Act.put, List.getElem_toArray, List.getElem_cons_zero, List.setIfInBounds_toArray, List.set_cons_succ, List.set_cons_zero]
        refine wpAnyK_ex (i := 1) rfl (by kernel_rfl) (listed' := #[true, true, false, false, false, false, false, false, false, false, false, false, false, false, false, false, false, false, false, false, false, false, false, false, false]) rfl (fun _ _ _ _ _ h => h) hwx ?_
        apply Exists.intro
        refine ⟨⟨by kernel_rfl, fun wy hw => ?_⟩, ?_⟩
        · (have bw := hw.below; go_simp; try (first | (with_reducible rfl) | (with_reducible exact ⟨rfl, rfl⟩)))
        try simp only [Act.put, List.getElem_toArray, List.getElem_cons_succ, List.getElem_cons_zero, List.setIfInBounds_toArray, List.set_cons_succ, List.set_cons_zero]
        refine wpAnyK_ex (i := 2) rfl (by kernel_rfl) (listed' := #[true, true, true, false, false, false, false, false, false, false, false, false, false, false, false, false, false, false, false, false, false, false, false, false, false]) rfl (fun _ _ _ _ _ h => h) hwx ?_
        apply Exists.intro
        refine ⟨⟨by kernel_rfl, fun wy hw => ?_⟩, ?_⟩
        · (have bw := hw.below; go_simp; try (first | (with_reducible rfl) | (with_reducible exact ⟨rfl, rfl⟩)))
        try simp only [Act.put, List.getElem_toArray, List.getElem_cons_succ, List.getElem_cons_zero, List.setIfInBounds_toArray, List.set_cons_succ, List.set_cons_zero]
        refine wpAnyK_ex (i := 3) rfl (by kernel_rfl) (listed' := #[true, true, true, true, false, false, false, false, false, false, false, false, false, false, false, false, false, false, false, false, false, false, false, false, false]) rfl (fun _ _ _ _ _ h => h) hwx ?_
        apply Exists.intro
        refine ⟨⟨by kernel_rfl, fun wy hw => ?_⟩, ?_⟩
        · (have bw := hw.below; go_simp; try (first | (with_reducible rfl) | (with_reducible exact ⟨rfl, rfl⟩)))
        try simp only [Act.put, List.getElem_toArray, List.getElem_cons_succ, List.getElem_cons_zero, List.setIfInBounds_toArray, List.set_cons_succ, List.set_cons_zero]
        refine wpAnyK_ex (i := 4) rfl (by kernel_rfl) (listed' := #[true, true, true, true, true, false, false, false, false, false, false, false, false, false, false, false, false, false, false, false, false, false, false, false, false]) rfl (fun _ _ _ _ _ h => h) hwx ?_
        apply Exists.intro
        refine ⟨⟨by kernel_rfl, fun wy hw => ?_⟩, ?_⟩
        · (have bw := hw.below; go_simp; try (first | (with_reducible rfl) | (with_reducible exact ⟨rfl, rfl⟩)))
        try simp only [Act.put, List.getElem_toArray, List.getElem_cons_succ, List.getElem_cons_zero, List.setIfInBounds_toArray, List.set_cons_succ, List.set_cons_zero]
        refine wpAnyK_ex (i := 5) rfl (by kernel_rfl) (listed' := #[true, true, true, true, true, true, false, false, false, false, false, false, false, false, false, false, false, false, false, false, false, false, false, false, false]) rfl (fun _ _ _ _ _ h => h) hwx ?_
        apply Exists.intro
        refine ⟨⟨by kernel_rfl, fun wy hw => ?_⟩, ?_⟩
        · (have bw := hw.below; go_simp; try (first | (with_reducible rfl) | (with_reducible exact ⟨rfl, rfl⟩)))
        try simp only [Act.put, List.getElem_toArray, List.getElem_cons_succ, List.getElem_cons_zero, List.setIfInBounds_toArray, List.set_cons_succ, List.set_cons_zero]
        refine wpAnyK_ex (i := 6) rfl (by kernel_rfl) (listed' := #[true, true, true, true, true, true, true, false, false, false, false, false, false, false, false, false, false, false, false, false, false, false, false, false, false]) rfl (fun _ _ _ _ _ h => h) hwx ?_
        apply Exists.intro
        refine ⟨⟨by kernel_rfl, fun wy hw => ?_⟩, ?_⟩
        · (have bw := hw.below; go_simp; try (first | (with_reducible rfl) | (with_reducible exact ⟨rfl, rfl⟩)))
        try simp only [Act.put, List.getElem_toArray, List.getElem_cons_succ, List.getElem_cons_zero, List.setIfInBounds_toArray, List.set_cons_succ, List.set_cons_zero]
        refine wpAnyK_ex (i := 7) rfl (by kernel_rfl) (listed' := #[true, true, true, true, true, true, true, true, false, false, false, false, false, false, false, false, false, false, false, false, false, false, false, false, false]) rfl (fun _ _ _ _ _ h => h) hwx ?_
        apply Exists.intro
        refine ⟨⟨by kernel_rfl, fun wy hw => ?_⟩, ?_⟩
        · (have bw := hw.below; go_simp; try (first | (with_reducible rfl) | (with_reducible exact ⟨rfl, rfl⟩)))
        try simp only [Act.put, List.getElem_toArray, List.getElem_cons_succ, List.getElem_cons_zero, List.setIfInBounds_toArray, List.set_cons_succ, List.set_cons_zero]
        refine wpAnyK_ex (i := 8) rfl (by kernel_rfl) (listed' := #[true, true, true, true, true, true, true, true, true, false, false, false, false, false, false, false, false, false, false, false, false, false, false, false, false]) rfl (fun _ _ _ _ _ h => h) hwx ?_
        apply Exists.intro
        refine ⟨⟨by kernel_rfl, fun wy hw => ?_⟩, ?_⟩
        · (have bw := hw.below; go_simp; try (first | (with_reducible rfl) | (with_reducible exact ⟨rfl, rfl⟩)))
        try simp only [Act.put, List.getElem_toArray, List.getElem_cons_succ, List.getElem_cons_zero, List.setIfInBounds_toArray, List.set_cons_succ, List.set_cons_zero]
        refine wpAnyK_fork1 9 (by kernel_rfl) ?_
        refine wpOpK_step rfl (by kernel_rfl) (listed' := #[true, true, true, true, true, true, true, true, true, true, false, false, false, false, false, false, false, false, false, false, false, false, false, false, false]) rfl (by kernel_rfl) (fun K hK => ?_)
        go_simp
        refine (HSE.out _ hwx.below).mono ?_
        rintro e wa ⟨rfl, hb⟩
        have Ha := Lib.hid (below_up8 hwx.below hb)
        refine hK _ _ Ha.out ?_
        clear hK K hb
        try simp only [Act.put, List.getElem_toArray, List.getElem_cons_succ, List.getElem_cons_zero, List.setIfInBounds_toArray, List.set_cons_succ, List.set_cons_zero]
        refine wpAnyK_ex (i := 10) rfl (by kernel_rfl) (listed' := #[true, true, true, true, true, true, true, true, true, true, true, false, false, false, false, false, false, false, false, false, false, false, false, false, false]) rfl (fun _ _ _ _ _ h => h) Ha.out ?_
        apply Exists.intro
        refine ⟨⟨by kernel_rfl, fun wy hw => ?_⟩, ?_⟩
        · (have bw := hw.below; go_simp; try (first | (with_reducible rfl) | (with_reducible exact ⟨rfl, rfl⟩)))
        try simp only [Act.put, List.getElem_toArray, List.getElem_cons_succ, List.getElem_cons_zero, List.setIfInBounds_toArray, List.set_cons_succ, List.set_cons_zero]
        refine wpAnyK_ex (i := 11) rfl (by kernel_rfl) (listed' := #[true, true, true, true, true, true, true, true, true, true, true, true, false, false, false, false, false, false, false, false, false, false, false, false, false]) rfl (fun _ _ _ _ _ h => h) Ha.out ?_
        apply Exists.intro
        refine ⟨⟨by kernel_rfl, fun wy hw => ?_⟩, ?_⟩
        · (have bw := hw.below; go_simp; try (first | (with_reducible rfl) | (with_reducible exact ⟨rfl, rfl⟩)))
        try simp only [Act.put, List.getElem_toArray, List.getElem_cons_succ, List.getElem_cons_zero, List.setIfInBounds_toArray, List.set_cons_succ, List.set_cons_zero]
        refine wpAnyK_ex (i := 12) rfl (by kernel_rfl) (listed' := #[true, true, true, true, true, true, true, true, true, true, true, true, true, false, false, false, false, false, false, false, false, false, false, false, false]) rfl (fun _ _ _ _ _ h => h) Ha.out ?_
        apply Exists.intro
        refine ⟨⟨by kernel_rfl, fun wy hw => ?_⟩, ?_⟩
        · (have bw := hw.below; go_simp; try (first | (with_reducible rfl) | (with_reducible exact ⟨rfl, rfl⟩)))
        try simp only [Act.put, List.getElem_toArray, List.getElem_cons_succ, List.getElem_cons_zero, List.setIfInBounds_toArray, List.set_cons_succ, List.set_cons_zero]
        refine wpAnyK_ex (i := 13) rfl (by kernel_rfl) (listed' := #[true, true, true, true, true, true, true, true, true, true, true, true, true, true, false, false, false, false, false, false, false, false, false, false, false]) rfl (fun _ _ _ _ _ h => h) Ha.out ?_
        apply Exists.intro
        refine ⟨⟨by kernel_rfl, fun wy hw => ?_⟩, ?_⟩
        · (have bw := hw.below; go_simp; try (first | (with_reducible rfl) | (with_reducible exact ⟨rfl, rfl⟩)))
        try simp only [Act.put, List.getElem_toArray, List.getElem_cons_succ, List.getElem_cons_zero, List.setIfInBounds_toArray, List.set_cons_succ, List.set_cons_zero]
        refine wpAnyK_ex (i := 14) rfl (by kernel_rfl) (listed' := #[true, true, true, true, true, true, true, true, true, true, true, true, true, true, true, false, false, false, false, false, false, false, false, false, false]) rfl (fun _ _ _ _ _ h => h) Ha.out ?_
        apply Exists.intro
        refine ⟨⟨by kernel_rfl, fun wy hw => ?_⟩, ?_⟩
        · (have bw := hw.below; go_simp; try (first | (with_reducible rfl) | (with_reducible exact ⟨rfl, rfl⟩)))
        try simp only [Act.put, List.getElem_toArray, List.getElem_cons_succ, List.getElem_cons_zero, List.setIfInBounds_toArray, List.set_cons_succ, List.set_cons_zero]
        refine wpAnyK_ex (i := 15) rfl (by kernel_rfl) (listed' := #[true, true, true, true, true, true, true, true, true, true, true, true, true, true, true, true, false, false, false, false, false, false, false, false, false]) rfl (fun _ _ _ _ _ h => h) Ha.out ?_
        apply Exists.intro
        refine ⟨⟨by kernel_rfl, fun wy hw => ?_⟩, ?_⟩
        · (have bw := hw.below; go_simp; try (first | (with_reducible rfl) | (with_reducible exact ⟨rfl, rfl⟩)))
        try simp only [Act.put, List.getElem_toArray, List.getElem_cons_succ, List.getElem_cons_zero, List.setIfInBounds_toArray, List.set_cons_succ, List.set_cons_zero]
        refine wpAnyK_ex (i := 17) rfl (by kernel_rfl) (listed' := #[true, true, true, true, true, true, true, true, true, true, true, true, true, true, true, true, false, true, false, false, false, false, false, false, false]) rfl (fun _ _ _ _ _ h => h) Ha.out ?_
        apply Exists.intro
        refine ⟨⟨by kernel_rfl, fun wy hw => ?_⟩, ?_⟩
        · (have bw := hw.below; go_simp; try (first | (with_reducible rfl) | (with_reducible exact ⟨rfl, rfl⟩)))
        try simp only [Act.put, List.getElem_toArray, List.getElem_cons_succ, List.getElem_cons_zero, List.setIfInBounds_toArray, List.set_cons_succ, List.set_cons_zero]
        refine wpAnyK_ex (i := 18) rfl (by kernel_rfl) (listed' := #[true, true, true, true, true, true, true, true, true, true, true, true, true, true, true, true, false, true, true, false, false, false, false, false, false]) rfl (fun _ _ _ _ _ h => h) Ha.out ?_
        apply Exists.intro
        refine ⟨⟨by kernel_rfl, fun wy hw => ?_⟩, ?_⟩
        · (have bw := hw.below; go_simp; try (first | (with_reducible rfl) | (with_reducible exact ⟨rfl, rfl⟩)))
        try simp only [Act.put, List.getElem_toArray, List.getElem_cons_succ, List.getElem_cons_zero, List.setIfInBounds_toArray, List.set_cons_succ, List.set_cons_zero]
        refine wpAnyK_ex (i := 19) rfl (by kernel_rfl) (listed' := #[true, true, true, true, true, true, true, true, true, true, true, true, true, true, true, true, false, true, true, true, false, false, false, false, false]) rfl (fun _ _ _ _ _ h => h) Ha.out ?_
        apply Exists.intro
        refine ⟨⟨by kernel_rfl, fun wy hw => ?_⟩, ?_⟩
        · (have bw := hw.below; go_simp; try (first | (with_reducible rfl) | (with_reducible exact ⟨rfl, rfl⟩)))
        try simp only [Act.put, List.getElem_toArray, List.getElem_cons_succ, List.getElem_cons_zero, List.setIfInBounds_toArray, List.set_cons_succ, List.set_cons_zero]
        refine wpAnyK_ex (i := 20) rfl (by kernel_rfl) (listed' := #[true, true, true, true, true, true, true, true, true, true, true, true, true, true, true, true, false, true, true, true, true, false, false, false, false]) rfl (fun _ _ _ _ _ h => h) Ha.out ?_
        apply Exists.intro
        refine ⟨⟨by kernel_rfl, fun wy hw => ?_⟩, ?_⟩
        · (have bw := hw.below; go_simp; try (first | (with_reducible rfl) | (with_reducible exact ⟨rfl, rfl⟩)))
        try simp only [Act.put, List.getElem_toArray, List.getElem_cons_succ, List.getElem_cons_zero, List.setIfInBounds_toArray, List.set_cons_succ, List.set_cons_zero]
        refine wpAnyK_fork1 16 (by kernel_rfl) ?_
        refine wpOpK_step rfl (by kernel_rfl) (listed' := #[true, true, true, true, true, true, true, true, true, true, true, true, true, true, true, true, true, true, true, true, true, false, false, false, false]) rfl (by kernel_rfl) (fun K hK => ?_)
        go_simp
        refine (HK1.out _ Ha.out).mono ?_
        rintro e wb ⟨ka, kc, rfl, _, _, hr, hb⟩
        have Hb := Lib.hid (below_up8 Ha.out hb)
        have Hb1 := Lib.hid (fun W (b : Below wb.heap.size wb W) => hr.rl.below b)
        refine hK _ _ Hb.out ?_
        clear hK K hb hr
        try simp only [Act.put, List.getElem_toArray, List.getElem_cons_succ, List.getElem_cons_zero, List.setIfInBounds_toArray, List.set_cons_succ, List.set_cons_zero]
        refine wpAnyK_fork1 21 (by kernel_rfl) ?_
        refine wpOpK_step rfl (by kernel_rfl) (listed' := #[true, true, true, true, true, true, true, true, true, true, true, true, true, true, true, true, true, true, true, true, true, true, false, false, false]) rfl (by kernel_rfl) (fun K hK => ?_)
        go_simp
        refine (HK2.out _ Hb.out).mono ?_
        rintro e wd ⟨kb, kd, rfl, _, _, hr, hb⟩
        have Hd := Lib.hid (below_up8 Hb.out hb)
        have Hd1 := Lib.hid (Hb1.out _ hb)
        have Hd2 := Lib.hid hr.rl
        refine hK _ _ Hd.out ?_
        clear hK K hb hr
        try simp only [Act.put, List.getElem_toArray, List.getElem_cons_succ, List.getElem_cons_zero, List.setIfInBounds_toArray, List.set_cons_succ, List.set_cons_zero]
        refine wpAnyK_fork1 22 (by kernel_rfl) ?_
        refine wpOpK_step rfl (by kernel_rfl) (listed' := #[true, true, true, true, true, true, true, true, true, true, true, true, true, true, true, true, true, true, true, true, true, true, true, false, false]) rfl (by kernel_rfl) (fun K hK => ?_)
        go_simp
        refine (HCS.out _ _ _ _ _ Hd1.out Hd2.out).mono ?_
        rintro e wz ⟨rfl, hb⟩
        have Hz := Lib.hid (below_up8 Hd.out hb)
        refine hK _ _ Hz.out ?_
        clear hK K hb
        try simp only [Act.put, List.getElem_toArray, List.getElem_cons_succ, List.getElem_cons_zero, List.setIfInBounds_toArray, List.set_cons_succ, List.set_cons_zero]
        refine wpAnyK_ex (i := 23) rfl (by kernel_rfl) (listed' := #[true, true, true, true, true, true, true, true, true, true, true, true, true, true, true, true, true, true, true, true, true, true, true, true, false]) rfl (fun _ _ _ _ _ h => h) Hz.out ?_
        apply Exists.intro
        refine ⟨⟨by kernel_rfl, fun wy hw => ?_⟩, ?_⟩
        · (have bw := hw.below; go_simp; try (first | (with_reducible rfl) | (with_reducible exact ⟨rfl, rfl⟩)))
        try simp only [Act.put, List.getElem_toArray, List.getElem_cons_succ, List.getElem_cons_zero, List.setIfInBounds_toArray, List.set_cons_succ, List.set_cons_zero]
        refine wpAnyK_end (by kernel_rfl) ?_
        try simp only [pickOps, List.filterMap_cons, List.filterMap_nil, List.getElem?_toArray, List.getElem?_cons_succ, List.getElem?_cons_zero]
        go_wp2_with fail
        refine NoPanic.normal ?_
        go_wp2_with fail
        go_meet
        exact ⟨rfl, Hz⟩
    case rest =>
      obtain ⟨rfl, HBx⟩ := hcut
      generalize wc = w8 at *
      replace HB := Lib.hid (below_up8 HB.out HBx.out)
      replace HB0 := Lib.hid (below_up8 HB0.out HBx.out)
      replace HB2 := Lib.hid (below_up8 HB2.out HBx.out)
      clear HBx HB3 HSE HK1 HK2 HCS HCC HT HTB HEB hsb HQQ
      by_cases hn0 : N = 0
      · have e0 : ((N : Int) == 0) = true := by rw [hn0]; rfl
        have e1 : (N : Int) = 0 := by omega
        clear hn0
        go_wp2_with fail
        go_ret
        exact ⟨rfl, HB.out⟩
      have HNP := Lib.hid (show 0 < N by omega)
      have e0 : ((N : Int) == 0) = false := by rw [beq_eq_false_iff_ne]; omega
      have e1 : ¬ (N : Int) = 0 := by omega
      clear hn0
      go_upto_region 14 with fail
      clear e0 e1
      go_cut [20] from 87 to 93 (fun s20 wx => ∃ B1, s20 = .pointer (some ⟨B1, 0, none⟩) ∧ Hid (w8.heap.size ≤ B1 ∧ B1 < wx.heap.size) ∧ Hid (CellsAt wx B1 [.int .i64 PA, .int .i64 0, .slice ad1 N c1, .int .i64 0, .string P]) ∧ Hid (Below w8.heap.size w8 wx))
      case first =>
        skip
        refine wp_region_noPanic ?_
        refine wp_region_Kx (C := NewB w8) [8] 8 #[false, false, false, false, false, false, false, false, false] (by kernel_rfl) (by kernel_rfl) (by kernel_rfl) (newB0 _) ?_
        intro wx hwx
        obtain ⟨w9, V9, Z9, K9, B9⟩ := lay8 wx [.int .i64 0, .int .i64 0, .slice none 0 0, .int .i64 0, .string ⟨#[]⟩] 26
        obtain ⟨wt, VT, KT, BT⟩ : ∃ wt, ((((w9.setCell ⟨wx.heap.size, 0, none⟩ (.int .i64 PA)).setCell ⟨wx.heap.size, 1, none⟩ (.int .i64 0)).setCell ⟨wx.heap.size, 2, none⟩ (.slice ad1 N c1)).setCell ⟨wx.heap.size, 3, none⟩ (.int .i64 0)).setCell ⟨wx.heap.size, 4, none⟩ (.string P) = wt ∧ CellsAt wt wx.heap.size [.int .i64 PA, .int .i64 0, .slice ad1 N c1, .int .i64 0, .string P] ∧ Below wx.heap.size wx wt :=
          ⟨_, rfl, ((((K9.put 0 _).put 1 _).put 2 _).put 3 _).put 4 _, ((((B9.setCell (Nat.le_refl _) _).setCell (Nat.le_refl _) _).setCell (Nat.le_refl _) _).setCell (Nat.le_refl _) _).setCell (Nat.le_refl _) _⟩
        have ZT := Lib.hid (show w8.heap.size ≤ wx.heap.size ∧ wx.heap.size < wt.heap.size from ⟨hwx.below.size, by rw [← VT]; simp [Z9]⟩)
        have H9 := Lib.hid (below_up8 hwx.below B9)
        have HT9 := Lib.hid (below_up8 hwx.below BT)
        have KT := Lib.hid KT
        obtain ⟨m0, m0'⟩ := K9 0 (by simp); obtain ⟨m1, m1'⟩ := K9 1 (by simp); obtain ⟨m2, m2'⟩ := K9 2 (by simp); obtain ⟨m3, m3'⟩ := K9 3 (by simp); obtain ⟨m4, m4'⟩ := K9 4 (by simp)
        simp only [List.getElem_cons_zero, List.getElem_cons_succ] at m0 m1 m2 m3 m4
        clear K9 B9 BT Z9
        refine wpAnyK_ex (i := 0) rfl (by kernel_rfl) (listed' := #[true, false, false, false, false, false, false, false, false]) rfl (fun _ _ _ _ _ h => h) hwx ?_
        apply Exists.intro
        refine ⟨⟨by kernel_rfl, fun wy hw => ?_⟩, ?_⟩
        · (have bw := hw.below; go_simp; try (first | (with_reducible rfl) | (with_reducible exact ⟨rfl, rfl⟩)))
        try simp only [Act.put, List.getElem_toArray, List.getElem_cons_zero, List.setIfInBounds_toArray, List.set_cons_succ, List.set_cons_zero]
        refine wpAnyK_callx (i := 1) rfl (by kernel_rfl) (listed' := #[true, true, false, false, false, false, false, false, false]) rfl (fun _ _ _ _ _ h => h) hwx ?_
        apply Exists.intro
        apply Exists.intro
        apply Exists.intro
        refine ⟨⟨by kernel_rfl, fun wy hw => ?_, fun wy hw => ?_⟩, ?_⟩
        · (have bw := hw.below; go_simp; try (first | (with_reducible rfl) | (with_reducible exact ⟨rfl, rfl⟩)))
        · (exact (HPA.out wy).mono fun e z h => ⟨h.1, h.2.symm⟩)
        try simp only [Act.put, List.getElem_toArray, List.getElem_cons_succ, List.getElem_cons_zero, List.setIfInBounds_toArray, List.set_cons_succ, List.set_cons_zero]
        refine wpAnyK_ex (i := 2) rfl (by kernel_rfl) (listed' := #[true, true, true, false, false, false, false, false, false]) rfl (fun _ _ _ _ _ h => h) hwx ?_
        apply Exists.intro
        refine ⟨⟨by kernel_rfl, fun wy hw => ?_⟩, ?_⟩
        · (have bw := hw.below; go_simp; try (first | (with_reducible rfl) | (with_reducible exact ⟨rfl, rfl⟩)))
        try simp only [Act.put, List.getElem_toArray, List.getElem_cons_succ, List.getElem_cons_zero, List.setIfInBounds_toArray, List.set_cons_succ, List.set_cons_zero]
        refine wpAnyK_ex (i := 3) rfl (by kernel_rfl) (listed' := #[true, true, true, true, false, false, false, false, false]) rfl (fun _ _ _ _ _ h => h) hwx ?_
        apply Exists.intro
        refine ⟨⟨by kernel_rfl, fun wy hw => ?_⟩, ?_⟩
        · (have bw := hw.below; go_simp; try (first | (with_reducible rfl) | (with_reducible exact ⟨rfl, rfl⟩)))
        try simp only [Act.put, List.getElem_toArray, List.getElem_cons_succ, List.getElem_cons_zero, List.setIfInBounds_toArray, List.set_cons_succ, List.set_cons_zero]
        refine wpAnyK_ex (i := 4) rfl (by kernel_rfl) (listed' := #[true, true, true, true, true, false, false, false, false]) rfl (fun _ _ _ _ _ h => h) hwx ?_
        apply Exists.intro
        refine ⟨⟨by kernel_rfl, fun wy hw => ?_⟩, ?_⟩
        · (have bw := hw.below; go_simp; try (first | (with_reducible rfl) | (with_reducible exact ⟨rfl, rfl⟩)))
        try simp only [Act.put, List.getElem_toArray, List.getElem_cons_succ, List.getElem_cons_zero, List.setIfInBounds_toArray, List.set_cons_succ, List.set_cons_zero]
        refine wpAnyK_ex (i := 5) rfl (by kernel_rfl) (listed' := #[true, true, true, true, true, true, false, false, false]) rfl (fun _ _ _ _ _ h => h) hwx ?_
        apply Exists.intro
        refine ⟨⟨by kernel_rfl, fun wy hw => ?_⟩, ?_⟩
        · (have bw := hw.below; go_simp; try (first | (with_reducible rfl) | (with_reducible exact ⟨rfl, rfl⟩)))
        try simp only [Act.put, List.getElem_toArray, List.getElem_cons_succ, List.getElem_cons_zero, List.setIfInBounds_toArray, List.set_cons_succ, List.set_cons_zero]
        refine wpAnyK_ex (i := 6) rfl (by kernel_rfl) (listed' := #[true, true, true, true, true, true, true, false, false]) rfl (fun _ _ _ _ _ h => h) hwx ?_
        apply Exists.intro
        refine ⟨⟨by kernel_rfl, fun wy hw => ?_⟩, ?_⟩
        · (have bw := hw.below; go_simp; try (first | (with_reducible rfl) | (with_reducible exact ⟨rfl, rfl⟩)))
        try simp only [Act.put, List.getElem_toArray, List.getElem_cons_succ, List.getElem_cons_zero, List.setIfInBounds_toArray, List.set_cons_succ, List.set_cons_zero]
        refine wpAnyK_fork1 7 (by kernel_rfl) ?_
        refine wpOpK_step rfl (by kernel_rfl) (listed' := #[true, true, true, true, true, true, true, true, false]) rfl (by kernel_rfl) (fun K hK => ?_)
        go_simp
        refine hK _ _ (H9.out) ?_
        clear hK K
        try simp only [Act.put, List.getElem_toArray, List.getElem_cons_succ, List.getElem_cons_zero, List.setIfInBounds_toArray, List.set_cons_succ, List.set_cons_zero]
        refine wpAnyK_end (by kernel_rfl) ?_
        try simp only [pickOps, List.filterMap_cons, List.filterMap_nil, List.getElem?_toArray, List.getElem?_cons_succ, List.getElem?_cons_zero]
        go_wp2_with fail
        refine NoPanic.normal ?_
        go_wp2_with fail
        go_meet
        exact ⟨_, rfl, ZT, KT, HT9⟩
      case rest =>
        obtain ⟨B1, rfl, HB1, HK1, HBx⟩ := hcut
        generalize wc = wA at *
        replace HB := Lib.hid (below_up8 HB.out HBx.out)
        replace HB0 := Lib.hid (below_up8 HB0.out HBx.out)
        replace HB2 := Lib.hid (below_up8 HB2.out HBx.out)
        have HL1 := Lib.hid HB1.out.2
        have HSZ := Lib.hid (show w.heap.size ≤ wA.heap.size + 1 ∧ w2.heap.size ≤ wA.heap.size + 1 from ⟨Nat.le_succ_of_le HB.out.size, Nat.le_succ_of_le HB2.out.size⟩)
        clear HBx HB1 HPA
        obtain ⟨k0, k1, k2, k3, k4⟩ := (show wA.cell? ⟨B1, 0, none⟩ = some (.int .i64 PA) ∧ wA.cell? ⟨B1, 1, none⟩ = some (.int .i64 0) ∧ wA.cell? ⟨B1, 2, none⟩ = some (.slice ad1 N c1) ∧ wA.cell? ⟨B1, 3, none⟩ = some (.int .i64 0) ∧ wA.cell? ⟨B1, 4, none⟩ = some (.string P) from ⟨(HK1.out 0 (by simp)).1, (HK1.out 1 (by simp)).1, (HK1.out 2 (by simp)).1, (HK1.out 3 (by simp)).1, (HK1.out 4 (by simp)).1⟩)
        obtain ⟨wB, wC, VB, ZB, ⟨⟨q0, q0'⟩, ⟨q1, q1'⟩, ⟨q2, q2'⟩, ⟨q3, q3'⟩, ⟨q4, q4'⟩⟩, VC, KC, BC, ZC⟩ := btcopy9 wA ⟨PA, 0, ad1, N, c1, 0, P⟩
        dsimp only at VC
        have KC := Lib.hid (show CellsAt wC wA.heap.size [.int .i64 PA, .int .i64 0, .slice ad1 N c1, .int .i64 0, .string P] from KC)
        have HBC := Lib.hid BC
        have ZC := Lib.hid ZC
        clear BC ZB
        go_upto_region 16 with fail
        clear VB VC q0 q0' q1 q1' q2 q2' q3 q3' q4 q4' k0 k1 k2 k3 k4
        obtain ⟨wD, VD, ZD, KD, BD⟩ := lay8 wC [] 23
        have HO1 := Lib.hid (show Own KE wD wC.heap.size (.slice (some ⟨wA.heap.size + 1, 0, none⟩) 0 0) [] by rw [← VD, ← ZC.out]; exact new9z KE wC wC.heap.size [] (Nat.le_refl _) (by simp) [] rfl 23 rfl 0 rfl)
        have VD := (show wC.alloc (.cells #[] 23) = wD from VD)
        have HWD := Lib.hid BD
        have HRA := Lib.hid (HSA.out _ (below_up8 HB2.out (below_up8 HBC.out BD)))
        have hza : wC.heap.size ≤ wD.heap.size := by omega
        have hll : LA.length ≤ 100000000 := by rw [HAL.out]; have := HNL.out; omega
        have hLN := HAL.out
        clear KD ZD BD
        go_upto_region 17 with (at_builtin; refine walk_arg8 KE rfl _ _ rfl wC.heap.size (.slice (some ⟨wA.heap.size + 1, 0, none⟩) 0 0) LA rfl HO1.out hza ad1 c1 (by rw [hLN]; rfl) HRA.out HCA.out.2 hll ?_; intro v2 wE ho2 hb2; obtain ⟨g, cg, eg, _, hgb, hgl⟩ := ho2.block (by rw [hLN]; exact HNP.out); have hbE := Lib.hid (HWD.out.trans hb2); have s2 := (show wE.cell? ⟨wA.heap.size, 2, none⟩ = some (.slice ad1 N c1) from (KC.out.below hbE.out 2 (by simp)).1); have s2' := (show wE.frozen? ⟨wA.heap.size, 2, none⟩ = false from (KC.out.below hbE.out 2 (by simp)).2); rw [hLN] at eg; subst eg)
        clear VD s2 s2'
        obtain ⟨wF, VF⟩ : ∃ wF, wE.setCell ⟨wA.heap.size, 2, none⟩ (.slice (some ⟨g, 0, none⟩) N cg) = wF := ⟨_, rfl⟩
        have HKF := Lib.hid (show CellsAt wF wA.heap.size [.int .i64 PA, .int .i64 0, .slice (some ⟨g, 0, none⟩) N cg, .int .i64 0, .string P] from by rw [← VF]; exact (KC.out.below hbE.out).put 2 _)
        have HBF := Lib.hid (show Below wA.heap.size wA wF from by rw [← VF]; exact (below_up8 HBC.out hbE.out).setCell (Nat.le_refl _) _)
        have HOF := Lib.hid (show Own KE wF wC.heap.size (.slice (some ⟨g, 0, none⟩) N cg) LA from by rw [← VF]; exact ho2.far (by show some g ≠ some wA.heap.size; intro e; injection e with e; have := ZC.out; omega))
        have HGG := Lib.hid (show wA.heap.size + 1 ≤ g from by have := ZC.out; omega)
        have HGL := Lib.hid (show g < wF.heap.size from by rw [← VF]; simpa using hgl)
        have HK1 := Lib.hid (HK1.out.below HBF.out)
        rw [VF]
        replace HB := Lib.hid (below_up8 HB.out HBF.out)
        replace HB0 := Lib.hid (below_up8 HB0.out HBF.out)
        replace HB2 := Lib.hid (below_up8 HB2.out HBF.out)
        clear VF ho2 hb2 hgb hgl hbE HBF HBC KC HO1 HWD HRA hza hll ZC
        go_wp2_with fail
        have hnb := Lib.hid (show (1 : Int) ≤ (N : Int) ∧ (N : Int) ≤ 9223372036854775807 from ⟨by have := HNP.out; omega, by have := HNL.out; omega⟩)
        refine (HPW.out _ hnb.out.1 hnb.out.2 _).mono ?_
        rintro e z ⟨rfl, hz⟩
        subst z
        have p0 := pick8_lo (c := wh) (n := (N : Int)) hnb.out.1
        have p1 := pick8_hi (c := wh) (n := (N : Int)) hnb.out.1
        obtain ⟨K, hK⟩ : ∃ K : Nat, pick8 wh (N : Int) = (K : Int) := ⟨(pick8 wh (N : Int)).toNat, by omega⟩
        rw [hK] at p0 p1 ⊢
        have HKN := Lib.hid (show K < N by omega)
        have HKL := Lib.hid (show K < LA.length by rw [HAL.out]; exact HKN.out)
        clear hK p0 p1 HPW hnb
        go_upto_region 18 with fail
        obtain ⟨eb, eo, rfl, hec⟩ := HKS.out K HKN.out
        have HEC := Lib.hid hec
        have hED : evD LA K = LA[K]'HKL.out := evD_of HKL.out
        obtain ⟨y, hy⟩ : ∃ y, y = evD LA K := ⟨_, rfl⟩
        rw [← hy] at HEC
        have HY := Lib.hid hy
        have HYL := Lib.hid (show y = LA[K]'HKL.out from by rw [hy]; exact hED)
        obtain ⟨E, hE⟩ : ∃ E, E = mdE PA (K : Int) y.tm x := ⟨_, rfl⟩
        have HE := Lib.hid (show E = chE9 PA LA K x from by rw [hE, hy]; rfl)
        have HMK := Lib.hid (fun W => HMD.out PA (K : Int) y.tm W)
        rw [← hE] at HMK
        have ixa := fun W => at_ev8 eb eo S.length c1 K (Nat.lt_of_lt_of_le HKN.out HSN.out) W
        have ixg := fun W => at_ev8 g 0 N cg K HKN.out W
        simp only [Nat.zero_add] at ixg
        clear hec hED hy hE HKS HMD
        go_cut [] from 104 to 117 (fun wx => Hid (∃ wm, Below wF.heap.size wF wm ∧ wx = ((((((((((((wm.setCell ⟨g, 12 * K, none⟩ (.int .i64 E.ag)).setCell ⟨g, 12 * K + 1, none⟩ (.int .i64 E.sq)).setCell ⟨g, 12 * K + 2, none⟩ (.int .i64 E.tm)).setCell ⟨g, 12 * K + 3, none⟩ (.int .i64 E.kd)).setCell ⟨g, 12 * K + 4, none⟩ (.int .i64 E.tr)).setCell ⟨g, 12 * K + 5, none⟩ (.int .i64 E.sp)).setCell ⟨g, 12 * K + 6, none⟩ (.int .i64 E.lk)).setCell ⟨g, 12 * K + 7, none⟩ (.int .i64 E.gn)).setCell ⟨g, 12 * K + 8, none⟩ (.int .i64 E.op)).setCell ⟨g, 12 * K + 9, none⟩ (.int .i64 E.vr)).setCell ⟨g, 12 * K + 10, none⟩ (.int .i64 E.pe)).setCell ⟨g, 12 * K + 11, none⟩ (.int .i64 E.bt))))
        case first =>
          skip
          refine wp_region_noPanic ?_
          refine wp_region_Kx (C := NewB wF) [14] 14 #[false, false, false, false, false, false, false, false, false, false, false, false, false, false, false] (by kernel_rfl) (by kernel_rfl) (by kernel_rfl) (newB0 _) ?_
          intro wx hwx
          refine wpAnyK_ex (i := 0) rfl (by kernel_rfl) (listed' := #[true, false, false, false, false, false, false, false, false, false, false, false, false, false, false]) rfl (fun _ _ _ _ _ h => h) hwx ?_
          apply Exists.intro
          refine ⟨⟨by kernel_rfl, fun wy hw => ?_⟩, ?_⟩
          · (have bw := hw.below; have f0 := (show wy.cell? ⟨wA.heap.size, 2, none⟩ = some (.slice (some ⟨g, 0, none⟩) N cg) from (HKF.out.below bw 2 (by simp)).1); have f1 := (show wy.cell? ⟨B1, 0, none⟩ = some (.int .i64 PA) from (HK1.out.below bw 0 (by simp)).1); have f2 := (HEC.out _ (below_up8 HB2.out bw)).2.2.1; have x0 := (HX0.out wy (below_up8 HB0.out bw)).1; have x1 := (HX0.out wy (below_up8 HB0.out bw)).2.1; have x2 := (HX0.out wy (below_up8 HB0.out bw)).2.2.1; have x3 := (HX0.out wy (below_up8 HB0.out bw)).2.2.2.1; have x4 := (HX0.out wy (below_up8 HB0.out bw)).2.2.2.2.1; have x5 := (HX0.out wy (below_up8 HB0.out bw)).2.2.2.2.2; go_simp; try (first | (with_reducible rfl) | (with_reducible exact ⟨rfl, rfl⟩)))
          try simp only [Act.put, List.getElem_toArray, List.getElem_cons_zero, List.setIfInBounds_toArray, List.set_cons_succ, List.set_cons_zero]
          refine wpAnyK_ex (i := 1) rfl (by kernel_rfl) (listed' := #[true, true, false, false, false, false, false, false, false, false, false, false, false, false, false]) rfl (fun _ _ _ _ _ h => h) hwx ?_
          apply Exists.intro
          refine ⟨⟨by kernel_rfl, fun wy hw => ?_⟩, ?_⟩
          · (have bw := hw.below; have f0 := (show wy.cell? ⟨wA.heap.size, 2, none⟩ = some (.slice (some ⟨g, 0, none⟩) N cg) from (HKF.out.below bw 2 (by simp)).1); have f1 := (show wy.cell? ⟨B1, 0, none⟩ = some (.int .i64 PA) from (HK1.out.below bw 0 (by simp)).1); have f2 := (HEC.out _ (below_up8 HB2.out bw)).2.2.1; have x0 := (HX0.out wy (below_up8 HB0.out bw)).1; have x1 := (HX0.out wy (below_up8 HB0.out bw)).2.1; have x2 := (HX0.out wy (below_up8 HB0.out bw)).2.2.1; have x3 := (HX0.out wy (below_up8 HB0.out bw)).2.2.2.1; have x4 := (HX0.out wy (below_up8 HB0.out bw)).2.2.2.2.1; have x5 := (HX0.out wy (below_up8 HB0.out bw)).2.2.2.2.2; go_simp; try (first | (with_reducible rfl) | (with_reducible exact ⟨rfl, rfl⟩)))
          try simp only [Act.put, List.getElem_toArray, List.getElem_cons_succ, List.getElem_cons_zero, List.setIfInBounds_toArray, List.set_cons_succ, List.set_cons_zero]
          refine wpAnyK_ex (i := 2) rfl (by kernel_rfl) (listed' := #[true, true, true, false, false, false, false, false, false, false, false, false, false, false, false]) rfl (fun _ _ _ _ _ h => h) hwx ?_
          apply Exists.intro
          refine ⟨⟨by kernel_rfl, fun wy hw => ?_⟩, ?_⟩
          · (have bw := hw.below; have f0 := (show wy.cell? ⟨wA.heap.size, 2, none⟩ = some (.slice (some ⟨g, 0, none⟩) N cg) from (HKF.out.below bw 2 (by simp)).1); have f1 := (show wy.cell? ⟨B1, 0, none⟩ = some (.int .i64 PA) from (HK1.out.below bw 0 (by simp)).1); have f2 := (HEC.out _ (below_up8 HB2.out bw)).2.2.1; have x0 := (HX0.out wy (below_up8 HB0.out bw)).1; have x1 := (HX0.out wy (below_up8 HB0.out bw)).2.1; have x2 := (HX0.out wy (below_up8 HB0.out bw)).2.2.1; have x3 := (HX0.out wy (below_up8 HB0.out bw)).2.2.2.1; have x4 := (HX0.out wy (below_up8 HB0.out bw)).2.2.2.2.1; have x5 := (HX0.out wy (below_up8 HB0.out bw)).2.2.2.2.2; go_simp; try (first | (with_reducible rfl) | (with_reducible exact ⟨rfl, rfl⟩)))
          try simp only [Act.put, List.getElem_toArray, List.getElem_cons_succ, List.getElem_cons_zero, List.setIfInBounds_toArray, List.set_cons_succ, List.set_cons_zero]
          refine wpAnyK_ex (i := 3) rfl (by kernel_rfl) (listed' := #[true, true, true, true, false, false, false, false, false, false, false, false, false, false, false]) rfl (fun _ _ _ _ _ h => h) hwx ?_
          apply Exists.intro
          refine ⟨⟨by kernel_rfl, fun wy hw => ?_⟩, ?_⟩
          · (have bw := hw.below; have f0 := (show wy.cell? ⟨wA.heap.size, 2, none⟩ = some (.slice (some ⟨g, 0, none⟩) N cg) from (HKF.out.below bw 2 (by simp)).1); have f1 := (show wy.cell? ⟨B1, 0, none⟩ = some (.int .i64 PA) from (HK1.out.below bw 0 (by simp)).1); have f2 := (HEC.out _ (below_up8 HB2.out bw)).2.2.1; have x0 := (HX0.out wy (below_up8 HB0.out bw)).1; have x1 := (HX0.out wy (below_up8 HB0.out bw)).2.1; have x2 := (HX0.out wy (below_up8 HB0.out bw)).2.2.1; have x3 := (HX0.out wy (below_up8 HB0.out bw)).2.2.2.1; have x4 := (HX0.out wy (below_up8 HB0.out bw)).2.2.2.2.1; have x5 := (HX0.out wy (below_up8 HB0.out bw)).2.2.2.2.2; go_simp; try (first | (with_reducible rfl) | (with_reducible exact ⟨rfl, rfl⟩)))
          try simp only [Act.put, List.getElem_toArray, List.getElem_cons_succ, List.getElem_cons_zero, List.setIfInBounds_toArray, List.set_cons_succ, List.set_cons_zero]
          refine wpAnyK_ex (i := 4) rfl (by kernel_rfl) (listed' := #[true, true, true, true, true, false, false, false, false, false, false, false, false, false, false]) rfl (fun _ _ _ _ _ h => h) hwx ?_
          apply Exists.intro
          refine ⟨⟨by kernel_rfl, fun wy hw => ?_⟩, ?_⟩
          · (have bw := hw.below; have f0 := (show wy.cell? ⟨wA.heap.size, 2, none⟩ = some (.slice (some ⟨g, 0, none⟩) N cg) from (HKF.out.below bw 2 (by simp)).1); have f1 := (show wy.cell? ⟨B1, 0, none⟩ = some (.int .i64 PA) from (HK1.out.below bw 0 (by simp)).1); have f2 := (HEC.out _ (below_up8 HB2.out bw)).2.2.1; have x0 := (HX0.out wy (below_up8 HB0.out bw)).1; have x1 := (HX0.out wy (below_up8 HB0.out bw)).2.1; have x2 := (HX0.out wy (below_up8 HB0.out bw)).2.2.1; have x3 := (HX0.out wy (below_up8 HB0.out bw)).2.2.2.1; have x4 := (HX0.out wy (below_up8 HB0.out bw)).2.2.2.2.1; have x5 := (HX0.out wy (below_up8 HB0.out bw)).2.2.2.2.2; go_simp; try (first | (with_reducible rfl) | (with_reducible exact ⟨rfl, rfl⟩)))
          try simp only [Act.put, List.getElem_toArray, List.getElem_cons_succ, List.getElem_cons_zero, List.setIfInBounds_toArray, List.set_cons_succ, List.set_cons_zero]
          refine wpAnyK_ex (i := 5) rfl (by kernel_rfl) (listed' := #[true, true, true, true, true, true, false, false, false, false, false, false, false, false, false]) rfl (fun _ _ _ _ _ h => h) hwx ?_
          apply Exists.intro
          refine ⟨⟨by kernel_rfl, fun wy hw => ?_⟩, ?_⟩
          · (have bw := hw.below; have f0 := (show wy.cell? ⟨wA.heap.size, 2, none⟩ = some (.slice (some ⟨g, 0, none⟩) N cg) from (HKF.out.below bw 2 (by simp)).1); have f1 := (show wy.cell? ⟨B1, 0, none⟩ = some (.int .i64 PA) from (HK1.out.below bw 0 (by simp)).1); have f2 := (HEC.out _ (below_up8 HB2.out bw)).2.2.1; have x0 := (HX0.out wy (below_up8 HB0.out bw)).1; have x1 := (HX0.out wy (below_up8 HB0.out bw)).2.1; have x2 := (HX0.out wy (below_up8 HB0.out bw)).2.2.1; have x3 := (HX0.out wy (below_up8 HB0.out bw)).2.2.2.1; have x4 := (HX0.out wy (below_up8 HB0.out bw)).2.2.2.2.1; have x5 := (HX0.out wy (below_up8 HB0.out bw)).2.2.2.2.2; go_simp; try (first | (with_reducible rfl) | (with_reducible exact ⟨rfl, rfl⟩)))
          try simp only [Act.put, List.getElem_toArray, List.getElem_cons_succ, List.getElem_cons_zero, List.setIfInBounds_toArray, List.set_cons_succ, List.set_cons_zero]
          refine wpAnyK_ex (i := 6) rfl (by kernel_rfl) (listed' := #[true, true, true, true, true, true, true, false, false, false, false, false, false, false, false]) rfl (fun _ _ _ _ _ h => h) hwx ?_
          apply Exists.intro
          refine ⟨⟨by kernel_rfl, fun wy hw => ?_⟩, ?_⟩
          · (have bw := hw.below; have f0 := (show wy.cell? ⟨wA.heap.size, 2, none⟩ = some (.slice (some ⟨g, 0, none⟩) N cg) from (HKF.out.below bw 2 (by simp)).1); have f1 := (show wy.cell? ⟨B1, 0, none⟩ = some (.int .i64 PA) from (HK1.out.below bw 0 (by simp)).1); have f2 := (HEC.out _ (below_up8 HB2.out bw)).2.2.1; have x0 := (HX0.out wy (below_up8 HB0.out bw)).1; have x1 := (HX0.out wy (below_up8 HB0.out bw)).2.1; have x2 := (HX0.out wy (below_up8 HB0.out bw)).2.2.1; have x3 := (HX0.out wy (below_up8 HB0.out bw)).2.2.2.1; have x4 := (HX0.out wy (below_up8 HB0.out bw)).2.2.2.2.1; have x5 := (HX0.out wy (below_up8 HB0.out bw)).2.2.2.2.2; go_simp; try (first | (with_reducible rfl) | (with_reducible exact ⟨rfl, rfl⟩)))
          try simp only [Act.put, List.getElem_toArray, List.getElem_cons_succ, List.getElem_cons_zero, List.setIfInBounds_toArray, List.set_cons_succ, List.set_cons_zero]
          refine wpAnyK_ex (i := 7) rfl (by kernel_rfl) (listed' := #[true, true, true, true, true, true, true, true, false, false, false, false, false, false, false]) rfl (fun _ _ _ _ _ h => h) hwx ?_
          apply Exists.intro
          refine ⟨⟨by kernel_rfl, fun wy hw => ?_⟩, ?_⟩
          · (have bw := hw.below; have f0 := (show wy.cell? ⟨wA.heap.size, 2, none⟩ = some (.slice (some ⟨g, 0, none⟩) N cg) from (HKF.out.below bw 2 (by simp)).1); have f1 := (show wy.cell? ⟨B1, 0, none⟩ = some (.int .i64 PA) from (HK1.out.below bw 0 (by simp)).1); have f2 := (HEC.out _ (below_up8 HB2.out bw)).2.2.1; have x0 := (HX0.out wy (below_up8 HB0.out bw)).1; have x1 := (HX0.out wy (below_up8 HB0.out bw)).2.1; have x2 := (HX0.out wy (below_up8 HB0.out bw)).2.2.1; have x3 := (HX0.out wy (below_up8 HB0.out bw)).2.2.2.1; have x4 := (HX0.out wy (below_up8 HB0.out bw)).2.2.2.2.1; have x5 := (HX0.out wy (below_up8 HB0.out bw)).2.2.2.2.2; go_simp; try (first | (with_reducible rfl) | (with_reducible exact ⟨rfl, rfl⟩)))
          try simp only [Act.put, List.getElem_toArray, List.getElem_cons_succ, List.getElem_cons_zero, List.setIfInBounds_toArray, List.set_cons_succ, List.set_cons_zero]
          refine wpAnyK_ex (i := 8) rfl (by kernel_rfl) (listed' := #[true, true, true, true, true, true, true, true, true, false, false, false, false, false, false]) rfl (fun _ _ _ _ _ h => h) hwx ?_
          apply Exists.intro
          refine ⟨⟨by kernel_rfl, fun wy hw => ?_⟩, ?_⟩
          · (have bw := hw.below; have f0 := (show wy.cell? ⟨wA.heap.size, 2, none⟩ = some (.slice (some ⟨g, 0, none⟩) N cg) from (HKF.out.below bw 2 (by simp)).1); have f1 := (show wy.cell? ⟨B1, 0, none⟩ = some (.int .i64 PA) from (HK1.out.below bw 0 (by simp)).1); have f2 := (HEC.out _ (below_up8 HB2.out bw)).2.2.1; have x0 := (HX0.out wy (below_up8 HB0.out bw)).1; have x1 := (HX0.out wy (below_up8 HB0.out bw)).2.1; have x2 := (HX0.out wy (below_up8 HB0.out bw)).2.2.1; have x3 := (HX0.out wy (below_up8 HB0.out bw)).2.2.2.1; have x4 := (HX0.out wy (below_up8 HB0.out bw)).2.2.2.2.1; have x5 := (HX0.out wy (below_up8 HB0.out bw)).2.2.2.2.2; go_simp; try (first | (with_reducible rfl) | (with_reducible exact ⟨rfl, rfl⟩)))
          try simp only [Act.put, List.getElem_toArray, List.getElem_cons_succ, List.getElem_cons_zero, List.setIfInBounds_toArray, List.set_cons_succ, List.set_cons_zero]
          refine wpAnyK_ex (i := 9) rfl (by kernel_rfl) (listed' := #[true, true, true, true, true, true, true, true, true, true, false, false, false, false, false]) rfl (fun _ _ _ _ _ h => h) hwx ?_
          apply Exists.intro
          refine ⟨⟨by kernel_rfl, fun wy hw => ?_⟩, ?_⟩
          · (have bw := hw.below; have f0 := (show wy.cell? ⟨wA.heap.size, 2, none⟩ = some (.slice (some ⟨g, 0, none⟩) N cg) from (HKF.out.below bw 2 (by simp)).1); have f1 := (show wy.cell? ⟨B1, 0, none⟩ = some (.int .i64 PA) from (HK1.out.below bw 0 (by simp)).1); have f2 := (HEC.out _ (below_up8 HB2.out bw)).2.2.1; have x0 := (HX0.out wy (below_up8 HB0.out bw)).1; have x1 := (HX0.out wy (below_up8 HB0.out bw)).2.1; have x2 := (HX0.out wy (below_up8 HB0.out bw)).2.2.1; have x3 := (HX0.out wy (below_up8 HB0.out bw)).2.2.2.1; have x4 := (HX0.out wy (below_up8 HB0.out bw)).2.2.2.2.1; have x5 := (HX0.out wy (below_up8 HB0.out bw)).2.2.2.2.2; go_simp; try (first | (with_reducible rfl) | (with_reducible exact ⟨rfl, rfl⟩)))
          try simp only [Act.put, List.getElem_toArray, List.getElem_cons_succ, List.getElem_cons_zero, List.setIfInBounds_toArray, List.set_cons_succ, List.set_cons_zero]
          refine wpAnyK_ex (i := 10) rfl (by kernel_rfl) (listed' := #[true, true, true, true, true, true, true, true, true, true, true, false, false, false, false]) rfl (fun _ _ _ _ _ h => h) hwx ?_
          apply Exists.intro
          refine ⟨⟨by kernel_rfl, fun wy hw => ?_⟩, ?_⟩
          · (have bw := hw.below; have f0 := (show wy.cell? ⟨wA.heap.size, 2, none⟩ = some (.slice (some ⟨g, 0, none⟩) N cg) from (HKF.out.below bw 2 (by simp)).1); have f1 := (show wy.cell? ⟨B1, 0, none⟩ = some (.int .i64 PA) from (HK1.out.below bw 0 (by simp)).1); have f2 := (HEC.out _ (below_up8 HB2.out bw)).2.2.1; have x0 := (HX0.out wy (below_up8 HB0.out bw)).1; have x1 := (HX0.out wy (below_up8 HB0.out bw)).2.1; have x2 := (HX0.out wy (below_up8 HB0.out bw)).2.2.1; have x3 := (HX0.out wy (below_up8 HB0.out bw)).2.2.2.1; have x4 := (HX0.out wy (below_up8 HB0.out bw)).2.2.2.2.1; have x5 := (HX0.out wy (below_up8 HB0.out bw)).2.2.2.2.2; go_simp; try (first | (with_reducible rfl) | (with_reducible exact ⟨rfl, rfl⟩)))
          try simp only [Act.put, List.getElem_toArray, List.getElem_cons_succ, List.getElem_cons_zero, List.setIfInBounds_toArray, List.set_cons_succ, List.set_cons_zero]
          refine wpAnyK_ex (i := 11) rfl (by kernel_rfl) (listed' := #[true, true, true, true, true, true, true, true, true, true, true, true, false, false, false]) rfl (fun _ _ _ _ _ h => h) hwx ?_
          apply Exists.intro
          refine ⟨⟨by kernel_rfl, fun wy hw => ?_⟩, ?_⟩
          · (have bw := hw.below; have f0 := (show wy.cell? ⟨wA.heap.size, 2, none⟩ = some (.slice (some ⟨g, 0, none⟩) N cg) from (HKF.out.below bw 2 (by simp)).1); have f1 := (show wy.cell? ⟨B1, 0, none⟩ = some (.int .i64 PA) from (HK1.out.below bw 0 (by simp)).1); have f2 := (HEC.out _ (below_up8 HB2.out bw)).2.2.1; have x0 := (HX0.out wy (below_up8 HB0.out bw)).1; have x1 := (HX0.out wy (below_up8 HB0.out bw)).2.1; have x2 := (HX0.out wy (below_up8 HB0.out bw)).2.2.1; have x3 := (HX0.out wy (below_up8 HB0.out bw)).2.2.2.1; have x4 := (HX0.out wy (below_up8 HB0.out bw)).2.2.2.2.1; have x5 := (HX0.out wy (below_up8 HB0.out bw)).2.2.2.2.2; go_simp; try (first | (with_reducible rfl) | (with_reducible exact ⟨rfl, rfl⟩)))
          try simp only [Act.put, List.getElem_toArray, List.getElem_cons_succ, List.getElem_cons_zero, List.setIfInBounds_toArray, List.set_cons_succ, List.set_cons_zero]
          refine wpAnyK_fork1 12 (by kernel_rfl) ?_
          refine wpOpK_step rfl (by kernel_rfl) (listed' := #[true, true, true, true, true, true, true, true, true, true, true, true, true, false, false]) rfl (by kernel_rfl) (fun K hK => ?_)
          go_simp
          refine (HMK.out wx).mono ?_
          rintro e wm ⟨rfl, hb⟩
          have Hm := Lib.hid (below_up8 hwx.below hb)
          rw [Ev.val_mk]
          refine hK _ _ Hm.out ?_
          clear hK K hb
          try simp only [Act.put, List.getElem_toArray, List.getElem_cons_succ, List.getElem_cons_zero, List.setIfInBounds_toArray, List.set_cons_succ, List.set_cons_zero]
          refine wpAnyK_ex (i := 13) rfl (by kernel_rfl) (listed' := #[true, true, true, true, true, true, true, true, true, true, true, true, true, true, false]) rfl (fun _ _ _ _ _ h => h) Hm.out ?_
          apply Exists.intro
          refine ⟨⟨by kernel_rfl, fun wy hw => ?_⟩, ?_⟩
          · (have bw := hw.below; have f0 := (show wy.cell? ⟨wA.heap.size, 2, none⟩ = some (.slice (some ⟨g, 0, none⟩) N cg) from (HKF.out.below bw 2 (by simp)).1); have f1 := (show wy.cell? ⟨B1, 0, none⟩ = some (.int .i64 PA) from (HK1.out.below bw 0 (by simp)).1); have f2 := (HEC.out _ (below_up8 HB2.out bw)).2.2.1; have x0 := (HX0.out wy (below_up8 HB0.out bw)).1; have x1 := (HX0.out wy (below_up8 HB0.out bw)).2.1; have x2 := (HX0.out wy (below_up8 HB0.out bw)).2.2.1; have x3 := (HX0.out wy (below_up8 HB0.out bw)).2.2.2.1; have x4 := (HX0.out wy (below_up8 HB0.out bw)).2.2.2.2.1; have x5 := (HX0.out wy (below_up8 HB0.out bw)).2.2.2.2.2; go_simp; try (first | (with_reducible rfl) | (with_reducible exact ⟨rfl, rfl⟩)))
          try simp only [Act.put, List.getElem_toArray, List.getElem_cons_succ, List.getElem_cons_zero, List.setIfInBounds_toArray, List.set_cons_succ, List.set_cons_zero]
          refine wpAnyK_end (by kernel_rfl) ?_
          try simp only [pickOps, List.filterMap_cons, List.filterMap_nil, List.getElem?_toArray, List.getElem?_cons_succ, List.getElem?_cons_zero]
          have HOm := Lib.hid (HOF.out.below Hm.out (Nat.le_refl _))
          have c0 : wm.cell? ⟨g, 12 * K, none⟩ = some (.int .i64 y.ag) := by
            have h := (HOm.out.cell K HKL.out 0 (by decide)).1
            rw [← HYL.out] at h
            exact h
          have c0' : wm.frozen? ⟨g, 12 * K, none⟩ = false := (HOm.out.cell K HKL.out 0 (by decide)).2
          have c1 : wm.cell? ⟨g, 12 * K + 1, none⟩ = some (.int .i64 y.sq) := by
            have h := (HOm.out.cell K HKL.out 1 (by decide)).1
            rw [← HYL.out] at h
            exact h
          have c1' : wm.frozen? ⟨g, 12 * K + 1, none⟩ = false := (HOm.out.cell K HKL.out 1 (by decide)).2
          have c2 : wm.cell? ⟨g, 12 * K + 2, none⟩ = some (.int .i64 y.tm) := by
            have h := (HOm.out.cell K HKL.out 2 (by decide)).1
            rw [← HYL.out] at h
            exact h
          have c2' : wm.frozen? ⟨g, 12 * K + 2, none⟩ = false := (HOm.out.cell K HKL.out 2 (by decide)).2
          have c3 : wm.cell? ⟨g, 12 * K + 3, none⟩ = some (.int .i64 y.kd) := by
            have h := (HOm.out.cell K HKL.out 3 (by decide)).1
            rw [← HYL.out] at h
            exact h
          have c3' : wm.frozen? ⟨g, 12 * K + 3, none⟩ = false := (HOm.out.cell K HKL.out 3 (by decide)).2
          have c4 : wm.cell? ⟨g, 12 * K + 4, none⟩ = some (.int .i64 y.tr) := by
            have h := (HOm.out.cell K HKL.out 4 (by decide)).1
            rw [← HYL.out] at h
            exact h
          have c4' : wm.frozen? ⟨g, 12 * K + 4, none⟩ = false := (HOm.out.cell K HKL.out 4 (by decide)).2
          have c5 : wm.cell? ⟨g, 12 * K + 5, none⟩ = some (.int .i64 y.sp) := by
            have h := (HOm.out.cell K HKL.out 5 (by decide)).1
            rw [← HYL.out] at h
            exact h
          have c5' : wm.frozen? ⟨g, 12 * K + 5, none⟩ = false := (HOm.out.cell K HKL.out 5 (by decide)).2
          have c6 : wm.cell? ⟨g, 12 * K + 6, none⟩ = some (.int .i64 y.lk) := by
            have h := (HOm.out.cell K HKL.out 6 (by decide)).1
            rw [← HYL.out] at h
            exact h
          have c6' : wm.frozen? ⟨g, 12 * K + 6, none⟩ = false := (HOm.out.cell K HKL.out 6 (by decide)).2
          have c7 : wm.cell? ⟨g, 12 * K + 7, none⟩ = some (.int .i64 y.gn) := by
            have h := (HOm.out.cell K HKL.out 7 (by decide)).1
            rw [← HYL.out] at h
            exact h
          have c7' : wm.frozen? ⟨g, 12 * K + 7, none⟩ = false := (HOm.out.cell K HKL.out 7 (by decide)).2
          have c8 : wm.cell? ⟨g, 12 * K + 8, none⟩ = some (.int .i64 y.op) := by
            have h := (HOm.out.cell K HKL.out 8 (by decide)).1
            rw [← HYL.out] at h
            exact h
          have c8' : wm.frozen? ⟨g, 12 * K + 8, none⟩ = false := (HOm.out.cell K HKL.out 8 (by decide)).2
          have c9 : wm.cell? ⟨g, 12 * K + 9, none⟩ = some (.int .i64 y.vr) := by
            have h := (HOm.out.cell K HKL.out 9 (by decide)).1
            rw [← HYL.out] at h
            exact h
          have c9' : wm.frozen? ⟨g, 12 * K + 9, none⟩ = false := (HOm.out.cell K HKL.out 9 (by decide)).2
          have c10 : wm.cell? ⟨g, 12 * K + 10, none⟩ = some (.int .i64 y.pe) := by
            have h := (HOm.out.cell K HKL.out 10 (by decide)).1
            rw [← HYL.out] at h
            exact h
          have c10' : wm.frozen? ⟨g, 12 * K + 10, none⟩ = false := (HOm.out.cell K HKL.out 10 (by decide)).2
          have c11 : wm.cell? ⟨g, 12 * K + 11, none⟩ = some (.int .i64 y.bt) := by
            have h := (HOm.out.cell K HKL.out 11 (by decide)).1
            rw [← HYL.out] at h
            exact h
          have c11' : wm.frozen? ⟨g, 12 * K + 11, none⟩ = false := (HOm.out.cell K HKL.out 11 (by decide)).2
          go_wp2_with fail
          refine NoPanic.normal ?_
          go_wp2_with fail
          go_meet
          exact Lib.hid ⟨wm, Hm.out, rfl⟩
        case rest =>
          obtain ⟨wm, hbm, hwm⟩ := hcut.out
          generalize wc = wG at *
          have HOG := Lib.hid (show Own KE wG wC.heap.size (.slice (some ⟨g, 0, none⟩) N cg) (LA.set K E) from by rw [hwm]; exact own_put12 (HOF.out.below hbm (Nat.le_refl _)) K HKL.out E)
          have HBA := Lib.hid (show Below (wA.heap.size + 1) wF wG from by rw [hwm]; exact below_put12 (hbm.mono (by have := HGL.out; have := HGG.out; omega)) HGG.out)
          have HKG := Lib.hid (show CellsAt wG wA.heap.size [.int .i64 PA, .int .i64 0, .slice (some ⟨g, 0, none⟩) N cg, .int .i64 0, .string P] from fun i hi => ⟨(HBA.out.cell (p := ⟨wA.heap.size, i, none⟩) (Nat.lt_succ_self _)).trans (HKF.out i hi).1, (HBA.out.frozen (p := ⟨wA.heap.size, i, none⟩) (Nat.lt_succ_self _)).trans (HKF.out i hi).2⟩)
          have HL2 := Lib.hid (show B1 < wA.heap.size + 1 from Nat.lt_succ_of_lt HL1.out)
          have HKH := Lib.hid (show CellsAt wG B1 [.int .i64 PA, .int .i64 0, .slice (some ⟨eb, eo, none⟩) N c1, .int .i64 0, .string P] from fun i hi => ⟨(HBA.out.cell (p := ⟨B1, i, none⟩) HL2.out).trans (HK1.out i hi).1, (HBA.out.frozen (p := ⟨B1, i, none⟩) HL2.out).trans (HK1.out i hi).2⟩)
          have HBG := Lib.hid (HB.out.trans (HBA.out.mono HSZ.out.1))
          have HBG2 := Lib.hid (HB2.out.trans (HBA.out.mono HSZ.out.2))
          have HEC2 := Lib.hid (fun W (b : Below wG.heap.size wG W) => HEC.out W (below_up8 HBG2.out b))
          have HRG := Lib.hid (fun W (b : Below wG.heap.size wG W) => (rl_own8 HOG.out).below b)
          have HGC := Lib.hid (show ∀ W, Below wG.heap.size wG W → EvCells W g (12 * K) E from fun W hb => by
            obtain ⟨b, o, h1, _, h3⟩ := (rl_own8 HOG.out).ev K (by rw [List.length_set]; exact HKL.out)
            injection h1 with h1
            injection h1 with e1 e2
            subst e1 e2
            have := h3 W hb
            rw [Nat.zero_add, List.getElem_set_self] at this
            exact this)
          have HSA2 := Lib.hid (fun W (b : Below wG.heap.size wG W) => HSA.out W (below_up8 HBG2.out b))
          have HT3 := Lib.hid (HH.out.three K HKL.out x)
          rw [← HE.out, ← HYL.out, HPP.out] at HT3
          have HF2 := Lib.hid (HH.out.two K HKL.out x)
          rw [← HE.out, HPP.out] at HF2
          have HF1 := Lib.hid HH.out.one
          rw [HPP.out] at HF1
          have HCG := Lib.hid (HH.out.chg K HKL.out x)
          rw [← HE.out] at HCG
          have heq := fun W => (show (Op.equalIn 10000 23 (.agg #[.int .i64 E.ag, .int .i64 E.sq, .int .i64 E.tm, .int .i64 E.kd, .int .i64 E.tr, .int .i64 E.sp, .int .i64 E.lk, .int .i64 E.gn, .int .i64 E.op, .int .i64 E.vr, .int .i64 E.pe, .int .i64 E.bt]) (.agg #[.int .i64 y.ag, .int .i64 y.sq, .int .i64 y.tm, .int .i64 y.kd, .int .i64 y.tr, .int .i64 y.sp, .int .i64 y.lk, .int .i64 y.gn, .int .i64 y.op, .int .i64 y.vr, .int .i64 y.pe, .int .i64 y.bt])).run Tryz.prog W = .ok (E.eqB y) W from eq_ev9 E y W)
          obtain ⟨SM, hSM⟩ : ∃ SM, E.eqB y = SM := ⟨_, rfl⟩
          rw [hSM] at heq
          have HSM := Lib.hid hSM
          clear hSM hbm hwm hcut HOF HBA HKF HK1 HX0 HB0 HB HB2 HMK HY
          skip
          go_upto_region 19 with fail
          go_cut [23] from 118 to 127 (fun s23 wx => s23 = .bool SM ∧ Hid (Below wG.heap.size wG wx))
          case first =>
            have HUU := fun d os => HGC.out _ (below_regrown wG d os)
            have HVV := fun d os => HEC2.out _ (below_regrown wG d os)
            have u0 := fun d os => (HUU d os).1
            have y0 := fun d os => (HVV d os).1
            have u1 := fun d os => (HUU d os).2.1
            have y1 := fun d os => (HVV d os).2.1
            have u2 := fun d os => (HUU d os).2.2.1
            have y2 := fun d os => (HVV d os).2.2.1
            have u3 := fun d os => (HUU d os).2.2.2.1
            have y3 := fun d os => (HVV d os).2.2.2.1
            have u4 := fun d os => (HUU d os).2.2.2.2.1
            have y4 := fun d os => (HVV d os).2.2.2.2.1
            have u5 := fun d os => (HUU d os).2.2.2.2.2.1
            have y5 := fun d os => (HVV d os).2.2.2.2.2.1
            have u6 := fun d os => (HUU d os).2.2.2.2.2.2.1
            have y6 := fun d os => (HVV d os).2.2.2.2.2.2.1
            have u7 := fun d os => (HUU d os).2.2.2.2.2.2.2.1
            have y7 := fun d os => (HVV d os).2.2.2.2.2.2.2.1
            have u8 := fun d os => (HUU d os).2.2.2.2.2.2.2.2.1
            have y8 := fun d os => (HVV d os).2.2.2.2.2.2.2.2.1
            have u9 := fun d os => (HUU d os).2.2.2.2.2.2.2.2.2.1
            have y9 := fun d os => (HVV d os).2.2.2.2.2.2.2.2.2.1
            have u10 := fun d os => (HUU d os).2.2.2.2.2.2.2.2.2.2.1
            have y10 := fun d os => (HVV d os).2.2.2.2.2.2.2.2.2.2.1
            have u11 := fun d os => (HUU d os).2.2.2.2.2.2.2.2.2.2.2
            have y11 := fun d os => (HVV d os).2.2.2.2.2.2.2.2.2.2.2
            have t2 := fun d os => (show _ = some (Value.slice (some ⟨g, 0, none⟩) N cg) from (HKG.out.below (below_regrown wG d os) 2 (by simp)).1)
            clear HUU HVV
            refine wp_region_quiet_below (by kernel_rfl) (by kernel_rfl) ?_
            repeat (first | go_big_quiet_step (fail) | quiet_step (fail))
            refine wpQuiet_nil ?_
            intro _ hw'
            obtain ⟨⟨dq, osq⟩, hw''⟩ := hw'
            subst hw''
            go_wp2_with fail
            go_meet
            exact ⟨by first | rfl | simp, Lib.hid (below_regrown _ _ _)⟩
          case rest =>
            obtain ⟨rfl, HBx⟩ := hcut
            generalize wc = wH at *
            have HGH := Lib.hid HBx.out
            clear heq ixa ixg
            have HBH := Lib.hid (below_up8 HBG.out HBx.out)
            have HFO := Lib.hid (fun W (b : Below wH.heap.size wH W) => show Calls Tryz.prog 19 #[.string Z0, .agg #[.int .i64 PA, .int .i64 0, .slice (some ⟨eb, eo, none⟩) N c1, .int .i64 0, .string P]] W (fun e w' => e = .returned (.bool true) ∧ Below W.heap.size W w') from by
              have h := follows9_u zz32 ⟨PA, 0, 0, LA, P⟩ (some ⟨eb, eo, none⟩) c1 (by show LA.length ≤ _; rw [HAL.out]; exact Nat.le_trans HNL.out (by decide)) HEA.out W (HRD.out _ (below_up8 HBH.out b)) (HDD.out _ (below_up8 HBH.out b)) (HSA2.out _ (below_up8 HGH.out b))
              rw [HF1.out] at h
              dsimp only at h
              rw [HAL.out, HZ0.out] at h
              exact h)
            have HFT := Lib.hid (fun W (b : Below wH.heap.size wH W) => show Calls Tryz.prog 19 #[.string Z0, .agg #[.int .i64 PA, .int .i64 0, .slice (some ⟨g, 0, none⟩) N cg, .int .i64 0, .string P]] W (fun e w' => e = .returned (.bool (decide (chH chainF zz32 (LA.set K E) = P))) ∧ Below W.heap.size W w') from by
              have h := follows9_u zz32 ⟨PA, 0, 0, LA.set K E, P⟩ (some ⟨g, 0, none⟩) cg (by show (LA.set K E).length ≤ _; rw [List.length_set, HAL.out]; exact Nat.le_trans HNL.out (by decide)) (fun e he => evB_wf9 (numB_ev HCG.out.2 e he)) W (HRD.out _ (below_up8 HBH.out b)) (HDD.out _ (below_up8 HBH.out b)) (HRG.out _ (below_up8 HGH.out b))
              rw [HF2.out] at h
              dsimp only at h
              rw [List.length_set, HAL.out] at h
              rw [← HZ0.out]
              exact h)
            have HKP := Lib.hid (fun W (b : Below wH.heap.size wH W) => HKG.out.below (below_up8 HGH.out b))
            have HKQ := Lib.hid (fun W (b : Below wH.heap.size wH W) => HKH.out.below (below_up8 HGH.out b))
            go_upto_region 20 with fail
            go_cut [10] from 128 to 151 (fun s10 wx => s10 = .bool true ∧ Hid (Below wH.heap.size wH wx))
            case first =>
              rcases HT3.out with ⟨e1, e2⟩ | ⟨e1, e2⟩ | ⟨e1, e2, e3⟩
              · skip
                have hsm : SM = true := by rw [← HSM.out]; exact Ev.eqB_iff.2 e1
                subst hsm
                rw [decide_eq_true e2] at HFT
                clear e1 e2
                have p0 := fun d os => (show _ = some (Value.int .i64 PA) from (HKP.out _ (below_regrown wH d os) 0 (by simp)).1)
                have p1 := fun d os => (show _ = some (Value.int .i64 0) from (HKP.out _ (below_regrown wH d os) 1 (by simp)).1)
                have p2 := fun d os => (show _ = some (Value.slice (some ⟨g, 0, none⟩) N cg) from (HKP.out _ (below_regrown wH d os) 2 (by simp)).1)
                have p3 := fun d os => (show _ = some (Value.int .i64 0) from (HKP.out _ (below_regrown wH d os) 3 (by simp)).1)
                have p4 := fun d os => (show _ = some (Value.string P) from (HKP.out _ (below_regrown wH d os) 4 (by simp)).1)
                have q0 := fun d os => (show _ = some (Value.int .i64 PA) from (HKQ.out _ (below_regrown wH d os) 0 (by simp)).1)
                have q1 := fun d os => (show _ = some (Value.int .i64 0) from (HKQ.out _ (below_regrown wH d os) 1 (by simp)).1)
                have q2 := fun d os => (show _ = some (Value.slice (some ⟨eb, eo, none⟩) N c1) from (HKQ.out _ (below_regrown wH d os) 2 (by simp)).1)
                have q3 := fun d os => (show _ = some (Value.int .i64 0) from (HKQ.out _ (below_regrown wH d os) 3 (by simp)).1)
                have q4 := fun d os => (show _ = some (Value.string P) from (HKQ.out _ (below_regrown wH d os) 4 (by simp)).1)
                refine wp_region_quiet_below (by kernel_rfl) (by kernel_rfl) ?_
                repeat (first | go_big_quiet_step ((first | fail | (go_at_call 19; with_reducible exact Calls.regrown_of (HFO.out _ (below_regrown _ _ _))) | (go_at_call 19; with_reducible exact Calls.regrown_of (HFT.out _ (below_regrown _ _ _))))) | quiet_step ((first | fail | (go_at_call 19; with_reducible exact Calls.regrown_of (HFO.out _ (below_regrown _ _ _))) | (go_at_call 19; with_reducible exact Calls.regrown_of (HFT.out _ (below_regrown _ _ _))))))
                refine wpQuiet_nil ?_
                intro _ hw'
                obtain ⟨⟨dq, osq⟩, hw''⟩ := hw'
                subst hw''
                go_wp2_with fail
                go_meet
                exact ⟨by first | rfl | simp, Lib.hid (below_regrown _ _ _)⟩
              · skip
                have hsm : SM = false := by rw [← HSM.out]; exact (by cases hb : E.eqB y with | true => exact absurd (Ev.eqB_iff.1 hb) e1 | false => rfl)
                subst hsm
                rw [decide_eq_false e2] at HFT
                clear e1 e2
                have p0 := fun d os => (show _ = some (Value.int .i64 PA) from (HKP.out _ (below_regrown wH d os) 0 (by simp)).1)
                have p1 := fun d os => (show _ = some (Value.int .i64 0) from (HKP.out _ (below_regrown wH d os) 1 (by simp)).1)
                have p2 := fun d os => (show _ = some (Value.slice (some ⟨g, 0, none⟩) N cg) from (HKP.out _ (below_regrown wH d os) 2 (by simp)).1)
                have p3 := fun d os => (show _ = some (Value.int .i64 0) from (HKP.out _ (below_regrown wH d os) 3 (by simp)).1)
                have p4 := fun d os => (show _ = some (Value.string P) from (HKP.out _ (below_regrown wH d os) 4 (by simp)).1)
                have q0 := fun d os => (show _ = some (Value.int .i64 PA) from (HKQ.out _ (below_regrown wH d os) 0 (by simp)).1)
                have q1 := fun d os => (show _ = some (Value.int .i64 0) from (HKQ.out _ (below_regrown wH d os) 1 (by simp)).1)
                have q2 := fun d os => (show _ = some (Value.slice (some ⟨eb, eo, none⟩) N c1) from (HKQ.out _ (below_regrown wH d os) 2 (by simp)).1)
                have q3 := fun d os => (show _ = some (Value.int .i64 0) from (HKQ.out _ (below_regrown wH d os) 3 (by simp)).1)
                have q4 := fun d os => (show _ = some (Value.string P) from (HKQ.out _ (below_regrown wH d os) 4 (by simp)).1)
                refine wp_region_quiet_below (by kernel_rfl) (by kernel_rfl) ?_
                repeat (first | go_big_quiet_step ((first | fail | (go_at_call 19; with_reducible exact Calls.regrown_of (HFO.out _ (below_regrown _ _ _))) | (go_at_call 19; with_reducible exact Calls.regrown_of (HFT.out _ (below_regrown _ _ _))))) | quiet_step ((first | fail | (go_at_call 19; with_reducible exact Calls.regrown_of (HFO.out _ (below_regrown _ _ _))) | (go_at_call 19; with_reducible exact Calls.regrown_of (HFT.out _ (below_regrown _ _ _))))))
                refine wpQuiet_nil ?_
                intro _ hw'
                obtain ⟨⟨dq, osq⟩, hw''⟩ := hw'
                subst hw''
                go_wp2_with fail
                go_meet
                exact ⟨by first | rfl | simp, Lib.hid (below_regrown _ _ _)⟩
              · skip
                have hsm : SM = false := by rw [← HSM.out]; exact (by cases hb : E.eqB y with | true => exact absurd (Ev.eqB_iff.1 hb) e1 | false => rfl)
                subst hsm
                rw [decide_eq_true e2] at HFT
                have HK1 := Lib.hid (fun W (b : Below wH.heap.size wH W) => show Calls Tryz.prog 36 #[.string Z0, .slice (some ⟨eb, eo, none⟩) N c1] W (TsPost W (chsL zz32 LA)) from by
                  have := chainedR9_any zz32 zz32_size (some ⟨eb, eo, none⟩) c1 LA (by rw [HAL.out]; exact Nat.le_trans HNL.out (by decide)) (by rw [HAL.out]; exact HNC.out.1) HH.out.ea W (HSA2.out _ (below_up8 HGH.out b))
                  rw [HAL.out] at this
                  rw [← HZ0.out]
                  exact this)
                have HGC9 := Lib.hid (show N ≤ cg from by obtain ⟨_, _, e, hc⟩ := HOG.out.form; injection e with _ e3 e4; rw [List.length_set, HAL.out] at hc; omega)
                have HK2 := Lib.hid (fun W (b : Below wH.heap.size wH W) => show Calls Tryz.prog 36 #[.string Z0, .slice (some ⟨g, 0, none⟩) N cg] W (TsPost W (chsL zz32 (LA.set K E))) from by
                  have := chainedR9_any zz32 zz32_size (some ⟨g, 0, none⟩) cg (LA.set K E) (by rw [List.length_set, HAL.out]; exact Nat.le_trans HNL.out (by decide)) (by rw [List.length_set, HAL.out]; exact HGC9.out) (numB_ev HCG.out.2) W (HRG.out _ (below_up8 HGH.out b))
                  rw [List.length_set, HAL.out] at this
                  rw [← HZ0.out]
                  exact this)
                have HCS := Lib.hid (fun a1 k1 a2 k2 W (r1 : RL KT9 W a1 (chsL zz32 LA)) (r2 : RL KT9 W a2 (chsL zz32 (LA.set K E))) => (collidedR9_any (chsL zz32 LA) (chsL zz32 (LA.set K E)) a1 a2 k1 k2 (by rw [chsL_len, HAL.out]; have := HNL.out; omega) (by rw [chsL_len, List.length_set, HAL.out]; have := HNL.out; omega) (chs_small zz32_size HH.out.ea) (chs_small zz32_size (numB_ev HCG.out.2)) W r1 r2).mono (R' := fun e w' => e = .returned (.bool true) ∧ Below W.heap.size W w') (fun e w' h => ⟨by rw [h.1, e3], h.2⟩))
                clear e1 e2 e3
                refine wp_region_noPanic ?_
                refine wp_region_Kx (C := NewB wH) [24] 24 #[false, false, false, false, false, false, false, false, false, false, false, false, false, false, false, false, false, false, false, false, false, false, false, false, false] (by kernel_rfl) (by kernel_rfl) (by kernel_rfl) (newB0 _) ?_
                intro wx hwx
                refine wpAnyK_ex (i := 0) rfl (by kernel_rfl) (listed' := #[true, false, false, false, false, false, false, false, false, false, false, false, false, false, false, false, false, false, false, false, false, false, false, false, false]) rfl (fun _ _ _ _ _ h => h) hwx ?_
                apply Exists.intro
                refine ⟨⟨by kernel_rfl, fun wy hw => ?_⟩, ?_⟩
                · (have bw := hw.below; have p0 := (show _ = some (Value.int .i64 PA) from (HKP.out wy bw 0 (by simp)).1); have p1 := (show _ = some (Value.int .i64 0) from (HKP.out wy bw 1 (by simp)).1); have p2 := (show _ = some (Value.slice (some ⟨g, 0, none⟩) N cg) from (HKP.out wy bw 2 (by simp)).1); have p3 := (show _ = some (Value.int .i64 0) from (HKP.out wy bw 3 (by simp)).1); have p4 := (show _ = some (Value.string P) from (HKP.out wy bw 4 (by simp)).1); have q0 := (show _ = some (Value.int .i64 PA) from (HKQ.out wy bw 0 (by simp)).1); have q1 := (show _ = some (Value.int .i64 0) from (HKQ.out wy bw 1 (by simp)).1); have q2 := (show _ = some (Value.slice (some ⟨eb, eo, none⟩) N c1) from (HKQ.out wy bw 2 (by simp)).1); have q3 := (show _ = some (Value.int .i64 0) from (HKQ.out wy bw 3 (by simp)).1); have q4 := (show _ = some (Value.string P) from (HKQ.out wy bw 4 (by simp)).1); go_simp; try (first | (with_reducible rfl) | (with_reducible exact ⟨rfl, rfl⟩)))
                try simp only [Act.put, List.getElem_toArray, List.getElem_cons_zero, List.setIfInBounds_toArray, List.set_cons_succ, List.set_cons_zero]
                refine wpAnyK_ex (i := 1) rfl (by kernel_rfl) (listed' := #[true, true, false, false, false, false, false, false, false, false, false, false, false, false, false, false, false, false, false, false, false, false, false, false, false]) rfl (fun _ _ _ _ _ h => h) hwx ?_
                apply Exists.intro
                refine ⟨⟨by kernel_rfl, fun wy hw => ?_⟩, ?_⟩
                · (have bw := hw.below; have p0 := (show _ = some (Value.int .i64 PA) from (HKP.out wy bw 0 (by simp)).1); have p1 := (show _ = some (Value.int .i64 0) from (HKP.out wy bw 1 (by simp)).1); have p2 := (show _ = some (Value.slice (some ⟨g, 0, none⟩) N cg) from (HKP.out wy bw 2 (by simp)).1); have p3 := (show _ = some (Value.int .i64 0) from (HKP.out wy bw 3 (by simp)).1); have p4 := (show _ = some (Value.string P) from (HKP.out wy bw 4 (by simp)).1); have q0 := (show _ = some (Value.int .i64 PA) from (HKQ.out wy bw 0 (by simp)).1); have q1 := (show _ = some (Value.int .i64 0) from (HKQ.out wy bw 1 (by simp)).1); have q2 := (show _ = some (Value.slice (some ⟨eb, eo, none⟩) N c1) from (HKQ.out wy bw 2 (by simp)).1); have q3 := (show _ = some (Value.int .i64 0) from (HKQ.out wy bw 3 (by simp)).1); have q4 := (show _ = some (Value.string P) from (HKQ.out wy bw 4 (by simp)).1); go_simp; try (first | (with_reducible rfl) | (with_reducible exact ⟨rfl, rfl⟩)))
                try simp only [Act.put, List.getElem_toArray, List.getElem_cons_succ, List.getElem_cons_zero, List.setIfInBounds_toArray, List.set_cons_succ, List.set_cons_zero]
                refine wpAnyK_ex (i := 2) rfl (by kernel_rfl) (listed' := #[true, true, true, false, false, false, false, false, false, false, false, false, false, false, false, false, false, false, false, false, false, false, false, false, false]) rfl (fun _ _ _ _ _ h => h) hwx ?_
                apply Exists.intro
                refine ⟨⟨by kernel_rfl, fun wy hw => ?_⟩, ?_⟩
                · (have bw := hw.below; have p0 := (show _ = some (Value.int .i64 PA) from (HKP.out wy bw 0 (by simp)).1); have p1 := (show _ = some (Value.int .i64 0) from (HKP.out wy bw 1 (by simp)).1); have p2 := (show _ = some (Value.slice (some ⟨g, 0, none⟩) N cg) from (HKP.out wy bw 2 (by simp)).1); have p3 := (show _ = some (Value.int .i64 0) from (HKP.out wy bw 3 (by simp)).1); have p4 := (show _ = some (Value.string P) from (HKP.out wy bw 4 (by simp)).1); have q0 := (show _ = some (Value.int .i64 PA) from (HKQ.out wy bw 0 (by simp)).1); have q1 := (show _ = some (Value.int .i64 0) from (HKQ.out wy bw 1 (by simp)).1); have q2 := (show _ = some (Value.slice (some ⟨eb, eo, none⟩) N c1) from (HKQ.out wy bw 2 (by simp)).1); have q3 := (show _ = some (Value.int .i64 0) from (HKQ.out wy bw 3 (by simp)).1); have q4 := (show _ = some (Value.string P) from (HKQ.out wy bw 4 (by simp)).1); go_simp; try (first | (with_reducible rfl) | (with_reducible exact ⟨rfl, rfl⟩)))
                try simp only [Act.put, List.getElem_toArray, List.getElem_cons_succ, List.getElem_cons_zero, List.setIfInBounds_toArray, List.set_cons_succ, List.set_cons_zero]
                refine wpAnyK_ex (i := 3) rfl (by kernel_rfl) (listed' := #[true, true, true, true, false, false, false, false, false, false, false, false, false, false, false, false, false, false, false, false, false, false, false, false, false]) rfl (fun _ _ _ _ _ h => h) hwx ?_
                apply Exists.intro
                refine ⟨⟨by kernel_rfl, fun wy hw => ?_⟩, ?_⟩
                · (have bw := hw.below; have p0 := (show _ = some (Value.int .i64 PA) from (HKP.out wy bw 0 (by simp)).1); have p1 := (show _ = some (Value.int .i64 0) from (HKP.out wy bw 1 (by simp)).1); have p2 := (show _ = some (Value.slice (some ⟨g, 0, none⟩) N cg) from (HKP.out wy bw 2 (by simp)).1); have p3 := (show _ = some (Value.int .i64 0) from (HKP.out wy bw 3 (by simp)).1); have p4 := (show _ = some (Value.string P) from (HKP.out wy bw 4 (by simp)).1); have q0 := (show _ = some (Value.int .i64 PA) from (HKQ.out wy bw 0 (by simp)).1); have q1 := (show _ = some (Value.int .i64 0) from (HKQ.out wy bw 1 (by simp)).1); have q2 := (show _ = some (Value.slice (some ⟨eb, eo, none⟩) N c1) from (HKQ.out wy bw 2 (by simp)).1); have q3 := (show _ = some (Value.int .i64 0) from (HKQ.out wy bw 3 (by simp)).1); have q4 := (show _ = some (Value.string P) from (HKQ.out wy bw 4 (by simp)).1); go_simp; try (first | (with_reducible rfl) | (with_reducible exact ⟨rfl, rfl⟩)))
                try simp only [Act.put, List.getElem_toArray, List.getElem_cons_succ, List.getElem_cons_zero, List.setIfInBounds_toArray, List.set_cons_succ, List.set_cons_zero]
                refine wpAnyK_fork1 4 (by kernel_rfl) ?_
                refine wpOpK_step rfl (by kernel_rfl) (listed' := #[true, true, true, true, true, false, false, false, false, false, false, false, false, false, false, false, false, false, false, false, false, false, false, false, false]) rfl (by kernel_rfl) (fun K hK => ?_)
                go_simp
                refine (HFO.out _ hwx.below).mono ?_
                rintro e wa ⟨rfl, hb⟩
                have Ha := Lib.hid (below_up8 hwx.below hb)
                refine hK _ _ Ha.out ?_
                clear hK K hb
                try simp only [Act.put, List.getElem_toArray, List.getElem_cons_succ, List.getElem_cons_zero, List.setIfInBounds_toArray, List.set_cons_succ, List.set_cons_zero]
                refine wpAnyK_ex (i := 5) rfl (by kernel_rfl) (listed' := #[true, true, true, true, true, true, false, false, false, false, false, false, false, false, false, false, false, false, false, false, false, false, false, false, false]) rfl (fun _ _ _ _ _ h => h) Ha.out ?_
                apply Exists.intro
                refine ⟨⟨by kernel_rfl, fun wy hw => ?_⟩, ?_⟩
                · (have bw := hw.below; have p0 := (show _ = some (Value.int .i64 PA) from (HKP.out wy bw 0 (by simp)).1); have p1 := (show _ = some (Value.int .i64 0) from (HKP.out wy bw 1 (by simp)).1); have p2 := (show _ = some (Value.slice (some ⟨g, 0, none⟩) N cg) from (HKP.out wy bw 2 (by simp)).1); have p3 := (show _ = some (Value.int .i64 0) from (HKP.out wy bw 3 (by simp)).1); have p4 := (show _ = some (Value.string P) from (HKP.out wy bw 4 (by simp)).1); have q0 := (show _ = some (Value.int .i64 PA) from (HKQ.out wy bw 0 (by simp)).1); have q1 := (show _ = some (Value.int .i64 0) from (HKQ.out wy bw 1 (by simp)).1); have q2 := (show _ = some (Value.slice (some ⟨eb, eo, none⟩) N c1) from (HKQ.out wy bw 2 (by simp)).1); have q3 := (show _ = some (Value.int .i64 0) from (HKQ.out wy bw 3 (by simp)).1); have q4 := (show _ = some (Value.string P) from (HKQ.out wy bw 4 (by simp)).1); go_simp; try (first | (with_reducible rfl) | (with_reducible exact ⟨rfl, rfl⟩)))
                try simp only [Act.put, List.getElem_toArray, List.getElem_cons_succ, List.getElem_cons_zero, List.setIfInBounds_toArray, List.set_cons_succ, List.set_cons_zero]
                refine wpAnyK_ex (i := 6) rfl (by kernel_rfl) (listed' := #[true, true, true, true, true, true, true, false, false, false, false, false, false, false, false, false, false, false, false, false, false, false, false, false, false]) rfl (fun _ _ _ _ _ h => h) Ha.out ?_
                apply Exists.intro
                refine ⟨⟨by kernel_rfl, fun wy hw => ?_⟩, ?_⟩
                · (have bw := hw.below; have p0 := (show _ = some (Value.int .i64 PA) from (HKP.out wy bw 0 (by simp)).1); have p1 := (show _ = some (Value.int .i64 0) from (HKP.out wy bw 1 (by simp)).1); have p2 := (show _ = some (Value.slice (some ⟨g, 0, none⟩) N cg) from (HKP.out wy bw 2 (by simp)).1); have p3 := (show _ = some (Value.int .i64 0) from (HKP.out wy bw 3 (by simp)).1); have p4 := (show _ = some (Value.string P) from (HKP.out wy bw 4 (by simp)).1); have q0 := (show _ = some (Value.int .i64 PA) from (HKQ.out wy bw 0 (by simp)).1); have q1 := (show _ = some (Value.int .i64 0) from (HKQ.out wy bw 1 (by simp)).1); have q2 := (show _ = some (Value.slice (some ⟨eb, eo, none⟩) N c1) from (HKQ.out wy bw 2 (by simp)).1); have q3 := (show _ = some (Value.int .i64 0) from (HKQ.out wy bw 3 (by simp)).1); have q4 := (show _ = some (Value.string P) from (HKQ.out wy bw 4 (by simp)).1); go_simp; try (first | (with_reducible rfl) | (with_reducible exact ⟨rfl, rfl⟩)))
                try simp only [Act.put, List.getElem_toArray, List.getElem_cons_succ, List.getElem_cons_zero, List.setIfInBounds_toArray, List.set_cons_succ, List.set_cons_zero]
                refine wpAnyK_ex (i := 7) rfl (by kernel_rfl) (listed' := #[true, true, true, true, true, true, true, true, false, false, false, false, false, false, false, false, false, false, false, false, false, false, false, false, false]) rfl (fun _ _ _ _ _ h => h) Ha.out ?_
                apply Exists.intro
                refine ⟨⟨by kernel_rfl, fun wy hw => ?_⟩, ?_⟩
                · (have bw := hw.below; have p0 := (show _ = some (Value.int .i64 PA) from (HKP.out wy bw 0 (by simp)).1); have p1 := (show _ = some (Value.int .i64 0) from (HKP.out wy bw 1 (by simp)).1); have p2 := (show _ = some (Value.slice (some ⟨g, 0, none⟩) N cg) from (HKP.out wy bw 2 (by simp)).1); have p3 := (show _ = some (Value.int .i64 0) from (HKP.out wy bw 3 (by simp)).1); have p4 := (show _ = some (Value.string P) from (HKP.out wy bw 4 (by simp)).1); have q0 := (show _ = some (Value.int .i64 PA) from (HKQ.out wy bw 0 (by simp)).1); have q1 := (show _ = some (Value.int .i64 0) from (HKQ.out wy bw 1 (by simp)).1); have q2 := (show _ = some (Value.slice (some ⟨eb, eo, none⟩) N c1) from (HKQ.out wy bw 2 (by simp)).1); have q3 := (show _ = some (Value.int .i64 0) from (HKQ.out wy bw 3 (by simp)).1); have q4 := (show _ = some (Value.string P) from (HKQ.out wy bw 4 (by simp)).1); go_simp; try (first | (with_reducible rfl) | (with_reducible exact ⟨rfl, rfl⟩)))
                try simp only [Act.put, List.getElem_toArray, List.getElem_cons_succ, List.getElem_cons_zero, List.setIfInBounds_toArray, List.set_cons_succ, List.set_cons_zero]
                refine wpAnyK_ex (i := 8) rfl (by kernel_rfl) (listed' := #[true, true, true, true, true, true, true, true, true, false, false, false, false, false, false, false, false, false, false, false, false, false, false, false, false]) rfl (fun _ _ _ _ _ h => h) Ha.out ?_
                apply Exists.intro
                refine ⟨⟨by kernel_rfl, fun wy hw => ?_⟩, ?_⟩
                · (have bw := hw.below; have p0 := (show _ = some (Value.int .i64 PA) from (HKP.out wy bw 0 (by simp)).1); have p1 := (show _ = some (Value.int .i64 0) from (HKP.out wy bw 1 (by simp)).1); have p2 := (show _ = some (Value.slice (some ⟨g, 0, none⟩) N cg) from (HKP.out wy bw 2 (by simp)).1); have p3 := (show _ = some (Value.int .i64 0) from (HKP.out wy bw 3 (by simp)).1); have p4 := (show _ = some (Value.string P) from (HKP.out wy bw 4 (by simp)).1); have q0 := (show _ = some (Value.int .i64 PA) from (HKQ.out wy bw 0 (by simp)).1); have q1 := (show _ = some (Value.int .i64 0) from (HKQ.out wy bw 1 (by simp)).1); have q2 := (show _ = some (Value.slice (some ⟨eb, eo, none⟩) N c1) from (HKQ.out wy bw 2 (by simp)).1); have q3 := (show _ = some (Value.int .i64 0) from (HKQ.out wy bw 3 (by simp)).1); have q4 := (show _ = some (Value.string P) from (HKQ.out wy bw 4 (by simp)).1); go_simp; try (first | (with_reducible rfl) | (with_reducible exact ⟨rfl, rfl⟩)))
                try simp only [Act.put, List.getElem_toArray, List.getElem_cons_succ, List.getElem_cons_zero, List.setIfInBounds_toArray, List.set_cons_succ, List.set_cons_zero]
                refine wpAnyK_ex (i := 10) rfl (by kernel_rfl) (listed' := #[true, true, true, true, true, true, true, true, true, false, true, false, false, false, false, false, false, false, false, false, false, false, false, false, false]) rfl (fun _ _ _ _ _ h => h) Ha.out ?_
                apply Exists.intro
                refine ⟨⟨by kernel_rfl, fun wy hw => ?_⟩, ?_⟩
                · (have bw := hw.below; have p0 := (show _ = some (Value.int .i64 PA) from (HKP.out wy bw 0 (by simp)).1); have p1 := (show _ = some (Value.int .i64 0) from (HKP.out wy bw 1 (by simp)).1); have p2 := (show _ = some (Value.slice (some ⟨g, 0, none⟩) N cg) from (HKP.out wy bw 2 (by simp)).1); have p3 := (show _ = some (Value.int .i64 0) from (HKP.out wy bw 3 (by simp)).1); have p4 := (show _ = some (Value.string P) from (HKP.out wy bw 4 (by simp)).1); have q0 := (show _ = some (Value.int .i64 PA) from (HKQ.out wy bw 0 (by simp)).1); have q1 := (show _ = some (Value.int .i64 0) from (HKQ.out wy bw 1 (by simp)).1); have q2 := (show _ = some (Value.slice (some ⟨eb, eo, none⟩) N c1) from (HKQ.out wy bw 2 (by simp)).1); have q3 := (show _ = some (Value.int .i64 0) from (HKQ.out wy bw 3 (by simp)).1); have q4 := (show _ = some (Value.string P) from (HKQ.out wy bw 4 (by simp)).1); go_simp; try (first | (with_reducible rfl) | (with_reducible exact ⟨rfl, rfl⟩)))
                try simp only [Act.put, List.getElem_toArray, List.getElem_cons_succ, List.getElem_cons_zero, List.setIfInBounds_toArray, List.set_cons_succ, List.set_cons_zero]
                refine wpAnyK_fork1 9 (by kernel_rfl) ?_
                refine wpOpK_step rfl (by kernel_rfl) (listed' := #[true, true, true, true, true, true, true, true, true, true, true, false, false, false, false, false, false, false, false, false, false, false, false, false, false]) rfl (by kernel_rfl) (fun K hK => ?_)
                go_simp
                refine (HFT.out _ Ha.out).mono ?_
                rintro e wb ⟨rfl, hb⟩
                have Hb := Lib.hid (below_up8 Ha.out hb)
                refine hK _ _ Hb.out ?_
                clear hK K hb
                try simp only [Act.put, List.getElem_toArray, List.getElem_cons_succ, List.getElem_cons_zero, List.setIfInBounds_toArray, List.set_cons_succ, List.set_cons_zero]
                refine wpAnyK_ex (i := 11) rfl (by kernel_rfl) (listed' := #[true, true, true, true, true, true, true, true, true, true, true, true, false, false, false, false, false, false, false, false, false, false, false, false, false]) rfl (fun _ _ _ _ _ h => h) Hb.out ?_
                apply Exists.intro
                refine ⟨⟨by kernel_rfl, fun wy hw => ?_⟩, ?_⟩
                · (have bw := hw.below; have p0 := (show _ = some (Value.int .i64 PA) from (HKP.out wy bw 0 (by simp)).1); have p1 := (show _ = some (Value.int .i64 0) from (HKP.out wy bw 1 (by simp)).1); have p2 := (show _ = some (Value.slice (some ⟨g, 0, none⟩) N cg) from (HKP.out wy bw 2 (by simp)).1); have p3 := (show _ = some (Value.int .i64 0) from (HKP.out wy bw 3 (by simp)).1); have p4 := (show _ = some (Value.string P) from (HKP.out wy bw 4 (by simp)).1); have q0 := (show _ = some (Value.int .i64 PA) from (HKQ.out wy bw 0 (by simp)).1); have q1 := (show _ = some (Value.int .i64 0) from (HKQ.out wy bw 1 (by simp)).1); have q2 := (show _ = some (Value.slice (some ⟨eb, eo, none⟩) N c1) from (HKQ.out wy bw 2 (by simp)).1); have q3 := (show _ = some (Value.int .i64 0) from (HKQ.out wy bw 3 (by simp)).1); have q4 := (show _ = some (Value.string P) from (HKQ.out wy bw 4 (by simp)).1); go_simp; try (first | (with_reducible rfl) | (with_reducible exact ⟨rfl, rfl⟩)))
                try simp only [Act.put, List.getElem_toArray, List.getElem_cons_succ, List.getElem_cons_zero, List.setIfInBounds_toArray, List.set_cons_succ, List.set_cons_zero]
                refine wpAnyK_ex (i := 12) rfl (by kernel_rfl) (listed' := #[true, true, true, true, true, true, true, true, true, true, true, true, true, false, false, false, false, false, false, false, false, false, false, false, false]) rfl (fun _ _ _ _ _ h => h) Hb.out ?_
                apply Exists.intro
                refine ⟨⟨by kernel_rfl, fun wy hw => ?_⟩, ?_⟩
                · (have bw := hw.below; have p0 := (show _ = some (Value.int .i64 PA) from (HKP.out wy bw 0 (by simp)).1); have p1 := (show _ = some (Value.int .i64 0) from (HKP.out wy bw 1 (by simp)).1); have p2 := (show _ = some (Value.slice (some ⟨g, 0, none⟩) N cg) from (HKP.out wy bw 2 (by simp)).1); have p3 := (show _ = some (Value.int .i64 0) from (HKP.out wy bw 3 (by simp)).1); have p4 := (show _ = some (Value.string P) from (HKP.out wy bw 4 (by simp)).1); have q0 := (show _ = some (Value.int .i64 PA) from (HKQ.out wy bw 0 (by simp)).1); have q1 := (show _ = some (Value.int .i64 0) from (HKQ.out wy bw 1 (by simp)).1); have q2 := (show _ = some (Value.slice (some ⟨eb, eo, none⟩) N c1) from (HKQ.out wy bw 2 (by simp)).1); have q3 := (show _ = some (Value.int .i64 0) from (HKQ.out wy bw 3 (by simp)).1); have q4 := (show _ = some (Value.string P) from (HKQ.out wy bw 4 (by simp)).1); go_simp; try (first | (with_reducible rfl) | (with_reducible exact ⟨rfl, rfl⟩)))
                try simp only [Act.put, List.getElem_toArray, List.getElem_cons_succ, List.getElem_cons_zero, List.setIfInBounds_toArray, List.set_cons_succ, List.set_cons_zero]
                refine wpAnyK_ex (i := 13) rfl (by kernel_rfl) (listed' := #[true, true, true, true, true, true, true, true, true, true, true, true, true, true, false, false, false, false, false, false, false, false, false, false, false]) rfl (fun _ _ _ _ _ h => h) Hb.out ?_
                apply Exists.intro
                refine ⟨⟨by kernel_rfl, fun wy hw => ?_⟩, ?_⟩
                · (have bw := hw.below; have p0 := (show _ = some (Value.int .i64 PA) from (HKP.out wy bw 0 (by simp)).1); have p1 := (show _ = some (Value.int .i64 0) from (HKP.out wy bw 1 (by simp)).1); have p2 := (show _ = some (Value.slice (some ⟨g, 0, none⟩) N cg) from (HKP.out wy bw 2 (by simp)).1); have p3 := (show _ = some (Value.int .i64 0) from (HKP.out wy bw 3 (by simp)).1); have p4 := (show _ = some (Value.string P) from (HKP.out wy bw 4 (by simp)).1); have q0 := (show _ = some (Value.int .i64 PA) from (HKQ.out wy bw 0 (by simp)).1); have q1 := (show _ = some (Value.int .i64 0) from (HKQ.out wy bw 1 (by simp)).1); have q2 := (show _ = some (Value.slice (some ⟨eb, eo, none⟩) N c1) from (HKQ.out wy bw 2 (by simp)).1); have q3 := (show _ = some (Value.int .i64 0) from (HKQ.out wy bw 3 (by simp)).1); have q4 := (show _ = some (Value.string P) from (HKQ.out wy bw 4 (by simp)).1); go_simp; try (first | (with_reducible rfl) | (with_reducible exact ⟨rfl, rfl⟩)))
                try simp only [Act.put, List.getElem_toArray, List.getElem_cons_succ, List.getElem_cons_zero, List.setIfInBounds_toArray, List.set_cons_succ, List.set_cons_zero]
                refine wpAnyK_ex (i := 14) rfl (by kernel_rfl) (listed' := #[true, true, true, true, true, true, true, true, true, true, true, true, true, true, true, false, false, false, false, false, false, false, false, false, false]) rfl (fun _ _ _ _ _ h => h) Hb.out ?_
                apply Exists.intro
                refine ⟨⟨by kernel_rfl, fun wy hw => ?_⟩, ?_⟩
                · (have bw := hw.below; have p0 := (show _ = some (Value.int .i64 PA) from (HKP.out wy bw 0 (by simp)).1); have p1 := (show _ = some (Value.int .i64 0) from (HKP.out wy bw 1 (by simp)).1); have p2 := (show _ = some (Value.slice (some ⟨g, 0, none⟩) N cg) from (HKP.out wy bw 2 (by simp)).1); have p3 := (show _ = some (Value.int .i64 0) from (HKP.out wy bw 3 (by simp)).1); have p4 := (show _ = some (Value.string P) from (HKP.out wy bw 4 (by simp)).1); have q0 := (show _ = some (Value.int .i64 PA) from (HKQ.out wy bw 0 (by simp)).1); have q1 := (show _ = some (Value.int .i64 0) from (HKQ.out wy bw 1 (by simp)).1); have q2 := (show _ = some (Value.slice (some ⟨eb, eo, none⟩) N c1) from (HKQ.out wy bw 2 (by simp)).1); have q3 := (show _ = some (Value.int .i64 0) from (HKQ.out wy bw 3 (by simp)).1); have q4 := (show _ = some (Value.string P) from (HKQ.out wy bw 4 (by simp)).1); go_simp; try (first | (with_reducible rfl) | (with_reducible exact ⟨rfl, rfl⟩)))
                try simp only [Act.put, List.getElem_toArray, List.getElem_cons_succ, List.getElem_cons_zero, List.setIfInBounds_toArray, List.set_cons_succ, List.set_cons_zero]
                refine wpAnyK_ex (i := 15) rfl (by kernel_rfl) (listed' := #[true, true, true, true, true, true, true, true, true, true, true, true, true, true, true, true, false, false, false, false, false, false, false, false, false]) rfl (fun _ _ _ _ _ h => h) Hb.out ?_
                apply Exists.intro
                refine ⟨⟨by kernel_rfl, fun wy hw => ?_⟩, ?_⟩
                · (have bw := hw.below; have p0 := (show _ = some (Value.int .i64 PA) from (HKP.out wy bw 0 (by simp)).1); have p1 := (show _ = some (Value.int .i64 0) from (HKP.out wy bw 1 (by simp)).1); have p2 := (show _ = some (Value.slice (some ⟨g, 0, none⟩) N cg) from (HKP.out wy bw 2 (by simp)).1); have p3 := (show _ = some (Value.int .i64 0) from (HKP.out wy bw 3 (by simp)).1); have p4 := (show _ = some (Value.string P) from (HKP.out wy bw 4 (by simp)).1); have q0 := (show _ = some (Value.int .i64 PA) from (HKQ.out wy bw 0 (by simp)).1); have q1 := (show _ = some (Value.int .i64 0) from (HKQ.out wy bw 1 (by simp)).1); have q2 := (show _ = some (Value.slice (some ⟨eb, eo, none⟩) N c1) from (HKQ.out wy bw 2 (by simp)).1); have q3 := (show _ = some (Value.int .i64 0) from (HKQ.out wy bw 3 (by simp)).1); have q4 := (show _ = some (Value.string P) from (HKQ.out wy bw 4 (by simp)).1); go_simp; try (first | (with_reducible rfl) | (with_reducible exact ⟨rfl, rfl⟩)))
                try simp only [Act.put, List.getElem_toArray, List.getElem_cons_succ, List.getElem_cons_zero, List.setIfInBounds_toArray, List.set_cons_succ, List.set_cons_zero]
                refine wpAnyK_ex (i := 17) rfl (by kernel_rfl) (listed' := #[true, true, true, true, true, true, true, true, true, true, true, true, true, true, true, true, false, true, false, false, false, false, false, false, false]) rfl (fun _ _ _ _ _ h => h) Hb.out ?_
                apply Exists.intro
                refine ⟨⟨by kernel_rfl, fun wy hw => ?_⟩, ?_⟩
                · (have bw := hw.below; have p0 := (show _ = some (Value.int .i64 PA) from (HKP.out wy bw 0 (by simp)).1); have p1 := (show _ = some (Value.int .i64 0) from (HKP.out wy bw 1 (by simp)).1); have p2 := (show _ = some (Value.slice (some ⟨g, 0, none⟩) N cg) from (HKP.out wy bw 2 (by simp)).1); have p3 := (show _ = some (Value.int .i64 0) from (HKP.out wy bw 3 (by simp)).1); have p4 := (show _ = some (Value.string P) from (HKP.out wy bw 4 (by simp)).1); have q0 := (show _ = some (Value.int .i64 PA) from (HKQ.out wy bw 0 (by simp)).1); have q1 := (show _ = some (Value.int .i64 0) from (HKQ.out wy bw 1 (by simp)).1); have q2 := (show _ = some (Value.slice (some ⟨eb, eo, none⟩) N c1) from (HKQ.out wy bw 2 (by simp)).1); have q3 := (show _ = some (Value.int .i64 0) from (HKQ.out wy bw 3 (by simp)).1); have q4 := (show _ = some (Value.string P) from (HKQ.out wy bw 4 (by simp)).1); go_simp; try (first | (with_reducible rfl) | (with_reducible exact ⟨rfl, rfl⟩)))
                try simp only [Act.put, List.getElem_toArray, List.getElem_cons_succ, List.getElem_cons_zero, List.setIfInBounds_toArray, List.set_cons_succ, List.set_cons_zero]
                refine wpAnyK_ex (i := 18) rfl (by kernel_rfl) (listed' := #[true, true, true, true, true, true, true, true, true, true, true, true, true, true, true, true, false, true, true, false, false, false, false, false, false]) rfl (fun _ _ _ _ _ h => h) Hb.out ?_
                apply Exists.intro
                refine ⟨⟨by kernel_rfl, fun wy hw => ?_⟩, ?_⟩
                · (have bw := hw.below; have p0 := (show _ = some (Value.int .i64 PA) from (HKP.out wy bw 0 (by simp)).1); have p1 := (show _ = some (Value.int .i64 0) from (HKP.out wy bw 1 (by simp)).1); have p2 := (show _ = some (Value.slice (some ⟨g, 0, none⟩) N cg) from (HKP.out wy bw 2 (by simp)).1); have p3 := (show _ = some (Value.int .i64 0) from (HKP.out wy bw 3 (by simp)).1); have p4 := (show _ = some (Value.string P) from (HKP.out wy bw 4 (by simp)).1); have q0 := (show _ = some (Value.int .i64 PA) from (HKQ.out wy bw 0 (by simp)).1); have q1 := (show _ = some (Value.int .i64 0) from (HKQ.out wy bw 1 (by simp)).1); have q2 := (show _ = some (Value.slice (some ⟨eb, eo, none⟩) N c1) from (HKQ.out wy bw 2 (by simp)).1); have q3 := (show _ = some (Value.int .i64 0) from (HKQ.out wy bw 3 (by simp)).1); have q4 := (show _ = some (Value.string P) from (HKQ.out wy bw 4 (by simp)).1); go_simp; try (first | (with_reducible rfl) | (with_reducible exact ⟨rfl, rfl⟩)))
                try simp only [Act.put, List.getElem_toArray, List.getElem_cons_succ, List.getElem_cons_zero, List.setIfInBounds_toArray, List.set_cons_succ, List.set_cons_zero]
                refine wpAnyK_ex (i := 19) rfl (by kernel_rfl) (listed' := #[true, true, true, true, true, true, true, true, true, true, true, true, true, true, true, true, false, true, true, true, false, false, false, false, false]) rfl (fun _ _ _ _ _ h => h) Hb.out ?_
                apply Exists.intro
                refine ⟨⟨by kernel_rfl, fun wy hw => ?_⟩, ?_⟩
                · (have bw := hw.below; have p0 := (show _ = some (Value.int .i64 PA) from (HKP.out wy bw 0 (by simp)).1); have p1 := (show _ = some (Value.int .i64 0) from (HKP.out wy bw 1 (by simp)).1); have p2 := (show _ = some (Value.slice (some ⟨g, 0, none⟩) N cg) from (HKP.out wy bw 2 (by simp)).1); have p3 := (show _ = some (Value.int .i64 0) from (HKP.out wy bw 3 (by simp)).1); have p4 := (show _ = some (Value.string P) from (HKP.out wy bw 4 (by simp)).1); have q0 := (show _ = some (Value.int .i64 PA) from (HKQ.out wy bw 0 (by simp)).1); have q1 := (show _ = some (Value.int .i64 0) from (HKQ.out wy bw 1 (by simp)).1); have q2 := (show _ = some (Value.slice (some ⟨eb, eo, none⟩) N c1) from (HKQ.out wy bw 2 (by simp)).1); have q3 := (show _ = some (Value.int .i64 0) from (HKQ.out wy bw 3 (by simp)).1); have q4 := (show _ = some (Value.string P) from (HKQ.out wy bw 4 (by simp)).1); go_simp; try (first | (with_reducible rfl) | (with_reducible exact ⟨rfl, rfl⟩)))
                try simp only [Act.put, List.getElem_toArray, List.getElem_cons_succ, List.getElem_cons_zero, List.setIfInBounds_toArray, List.set_cons_succ, List.set_cons_zero]
                refine wpAnyK_fork1 16 (by kernel_rfl) ?_
                refine wpOpK_step rfl (by kernel_rfl) (listed' := #[true, true, true, true, true, true, true, true, true, true, true, true, true, true, true, true, true, true, true, true, false, false, false, false, false]) rfl (by kernel_rfl) (fun K hK => ?_)
                go_simp
                refine (HK1.out _ Hb.out).mono ?_
                rintro e wc ⟨ka, kc, rfl, _, _, hr, hb⟩
                have Hc := Lib.hid (below_up8 Hb.out hb)
                have Hc1 := Lib.hid (fun W (b : Below wc.heap.size wc W) => hr.rl.below b)
                refine hK _ _ Hc.out ?_
                clear hK K hb hr
                try simp only [Act.put, List.getElem_toArray, List.getElem_cons_succ, List.getElem_cons_zero, List.setIfInBounds_toArray, List.set_cons_succ, List.set_cons_zero]
                refine wpAnyK_fork1 20 (by kernel_rfl) ?_
                refine wpOpK_step rfl (by kernel_rfl) (listed' := #[true, true, true, true, true, true, true, true, true, true, true, true, true, true, true, true, true, true, true, true, true, false, false, false, false]) rfl (by kernel_rfl) (fun K hK => ?_)
                go_simp
                refine (HK2.out _ Hc.out).mono ?_
                rintro e wd ⟨kb, kd, rfl, _, _, hr, hb⟩
                have Hd := Lib.hid (below_up8 Hc.out hb)
                have Hd1 := Lib.hid (Hc1.out _ hb)
                have Hd2 := Lib.hid hr.rl
                refine hK _ _ Hd.out ?_
                clear hK K hb hr
                try simp only [Act.put, List.getElem_toArray, List.getElem_cons_succ, List.getElem_cons_zero, List.setIfInBounds_toArray, List.set_cons_succ, List.set_cons_zero]
                refine wpAnyK_fork1 21 (by kernel_rfl) ?_
                refine wpOpK_step rfl (by kernel_rfl) (listed' := #[true, true, true, true, true, true, true, true, true, true, true, true, true, true, true, true, true, true, true, true, true, true, false, false, false]) rfl (by kernel_rfl) (fun K hK => ?_)
                go_simp
                refine (HCS.out _ _ _ _ _ Hd1.out Hd2.out).mono ?_
                rintro e wz ⟨rfl, hb⟩
                have Hz := Lib.hid (below_up8 Hd.out hb)
                refine hK _ _ Hz.out ?_
                clear hK K hb
                try simp only [Act.put, List.getElem_toArray, List.getElem_cons_succ, List.getElem_cons_zero, List.setIfInBounds_toArray, List.set_cons_succ, List.set_cons_zero]
                refine wpAnyK_ex (i := 22) rfl (by kernel_rfl) (listed' := #[true, true, true, true, true, true, true, true, true, true, true, true, true, true, true, true, true, true, true, true, true, true, true, false, false]) rfl (fun _ _ _ _ _ h => h) Hz.out ?_
                apply Exists.intro
                refine ⟨⟨by kernel_rfl, fun wy hw => ?_⟩, ?_⟩
                · (have bw := hw.below; have p0 := (show _ = some (Value.int .i64 PA) from (HKP.out wy bw 0 (by simp)).1); have p1 := (show _ = some (Value.int .i64 0) from (HKP.out wy bw 1 (by simp)).1); have p2 := (show _ = some (Value.slice (some ⟨g, 0, none⟩) N cg) from (HKP.out wy bw 2 (by simp)).1); have p3 := (show _ = some (Value.int .i64 0) from (HKP.out wy bw 3 (by simp)).1); have p4 := (show _ = some (Value.string P) from (HKP.out wy bw 4 (by simp)).1); have q0 := (show _ = some (Value.int .i64 PA) from (HKQ.out wy bw 0 (by simp)).1); have q1 := (show _ = some (Value.int .i64 0) from (HKQ.out wy bw 1 (by simp)).1); have q2 := (show _ = some (Value.slice (some ⟨eb, eo, none⟩) N c1) from (HKQ.out wy bw 2 (by simp)).1); have q3 := (show _ = some (Value.int .i64 0) from (HKQ.out wy bw 3 (by simp)).1); have q4 := (show _ = some (Value.string P) from (HKQ.out wy bw 4 (by simp)).1); go_simp; try (first | (with_reducible rfl) | (with_reducible exact ⟨rfl, rfl⟩)))
                try simp only [Act.put, List.getElem_toArray, List.getElem_cons_succ, List.getElem_cons_zero, List.setIfInBounds_toArray, List.set_cons_succ, List.set_cons_zero]
                refine wpAnyK_ex (i := 23) rfl (by kernel_rfl) (listed' := #[true, true, true, true, true, true, true, true, true, true, true, true, true, true, true, true, true, true, true, true, true, true, true, true, false]) rfl (fun _ _ _ _ _ h => h) Hz.out ?_
                apply Exists.intro
                refine ⟨⟨by kernel_rfl, fun wy hw => ?_⟩, ?_⟩
                · (have bw := hw.below; have p0 := (show _ = some (Value.int .i64 PA) from (HKP.out wy bw 0 (by simp)).1); have p1 := (show _ = some (Value.int .i64 0) from (HKP.out wy bw 1 (by simp)).1); have p2 := (show _ = some (Value.slice (some ⟨g, 0, none⟩) N cg) from (HKP.out wy bw 2 (by simp)).1); have p3 := (show _ = some (Value.int .i64 0) from (HKP.out wy bw 3 (by simp)).1); have p4 := (show _ = some (Value.string P) from (HKP.out wy bw 4 (by simp)).1); have q0 := (show _ = some (Value.int .i64 PA) from (HKQ.out wy bw 0 (by simp)).1); have q1 := (show _ = some (Value.int .i64 0) from (HKQ.out wy bw 1 (by simp)).1); have q2 := (show _ = some (Value.slice (some ⟨eb, eo, none⟩) N c1) from (HKQ.out wy bw 2 (by simp)).1); have q3 := (show _ = some (Value.int .i64 0) from (HKQ.out wy bw 3 (by simp)).1); have q4 := (show _ = some (Value.string P) from (HKQ.out wy bw 4 (by simp)).1); go_simp; try (first | (with_reducible rfl) | (with_reducible exact ⟨rfl, rfl⟩)))
                try simp only [Act.put, List.getElem_toArray, List.getElem_cons_succ, List.getElem_cons_zero, List.setIfInBounds_toArray, List.set_cons_succ, List.set_cons_zero]
                refine wpAnyK_end (by kernel_rfl) ?_
                try simp only [pickOps, List.filterMap_cons, List.filterMap_nil, List.getElem?_toArray, List.getElem?_cons_succ, List.getElem?_cons_zero]
                go_wp2_with fail
                refine NoPanic.normal ?_
                go_wp2_with fail
                go_meet
                exact ⟨rfl, Hz⟩
            case rest =>
              obtain ⟨rfl, HBx⟩ := hcut
              go_wp2_with fail
              go_ret
              exact ⟨rfl, below_up8 HBH.out HBx.out⟩
end Go.Proofs.YtnpfhcnjkekhbaaGreatDoor
