/-
  Layer 8: the law's sane, over whatever keeps the contracts of the program's functions.
-/
import Derived.Test.YtamefmojocegkaaDoorProg
import Derived.Test.YtamefmojocegkaaDoorK09
import Derived.ChangeKeysEq
import Derived.Lib.QuietBelow
import Derived.StillTail
import Derived.WalkKit
import Derived.WalkLawsBesides
import Derived.Outline
import Derived.Lib.Hide
import Derived.Below
import Derived.BigQuiet
import Derived.Deep.QuietTactic
import Derived.Deep.RegionHeld3
import Derived.Deep.DeepCutAuto
import Derived.Laws.Rows
import Derived.Laws.OwnMore
import Derived.OwnWalk
import Derived.Laws.StructEq
import Derived.Laws.Bits128
import Derived.RangeFuncNested
import Derived.RangeFuncBound
import Derived.RangeFuncCalls
import Derived.RangeFuncLeaves
import Derived.RangeFuncFrom
import Derived.RangeFuncRecord
import Derived.OwnWalkIn
import Derived.TacticsInMore
import Derived.LoopNIn
import Derived.LoopIn
import Derived.Maps.Own
import Derived.Maps.OwnOps
import Derived.TacticsIn
import Derived.OrdersIn
import Derived.Sort.CutIn
set_option maxRecDepth 100000
set_option maxHeartbeats 16000000
namespace Go.Proofs.YtamefmojocegkaaDoor
open Go Go.Proofs Go.RowKit Go.Lib
def rdA (k : Int) : List Value := [.int .i64 (if 1 ≤ k then 5 else 0), .int .i64 (if 2 ≤ k then 6 else 0), .int .i64 (if 3 ≤ k then 6 else 0), .int .i64 (if 4 ≤ k then 7 else 0)]
theorem sF_fit : sF.fit := ⟨by decide, by decide, by decide⟩
theorem sF0_fit : sF0.fit := ⟨by decide, by decide, by decide⟩
theorem eq_four (a b c d : Int) (W : World) : (Op.equalIn 10000 71 (.agg #[.int .i64 a, .int .i64 b, .int .i64 c, .int .i64 d]) (.agg #[.int .i64 a, .int .i64 b, .int .i64 c, .int .i64 d])).run Tryd.prog W = .ok true W := by
 rw [run_equalIn_array W 9999 (e := 3) (n := 4) _ _ Tryd.underlying71 rfl]
 show (Op.eqItems 9999 _ (Program.cellsOf Tryd.prog 3) _ _ [0, 1, 2, 3]).run _ _ = _
 have h : Program.cellsOf Tryd.prog 3 = 1 := rfl
 rw [h]
 simp [Op.eqItems, part, go_sem, Tryd.underlying3]
theorem s_wf : evsW [sE0, sE1] := by
 intro x hx
 simp only [List.mem_cons, List.not_mem_nil, or_false] at hx
 rcases hx with rfl | rfl <;> (unfold Ev.wf; decide)
theorem s_wf2 : evsW [sE1, sE0] := by
 intro x hx
 simp only [List.mem_cons, List.not_mem_nil, or_false] at hx
 rcases hx with rfl | rfl <;> (unfold Ev.wf; decide)
theorem sane_any : SaneOk 10 := by
 intro w hRW
 have HRD := Lib.hid (fun W (b : Below w.heap.size w W) => hRW.below b)
 have HS := Lib.hid (fun W => single_any W)
 -- the calls, at the literals
 have CCO := Lib.hid (show ∀ (v : Value) (b : Nat) (W : World), Rdy W → FlAt W v sF → RL KE W (some ⟨b, 0, none⟩) [sE0, sE1] → Calls Tryd.prog 16 #[v, .slice (some ⟨b, 0, none⟩) 2 2] W (fun e w' => ∃ ad c, e = .returned (.tuple #[.slice ad 2 c, .int .i64 0]) ∧ RN KC w' W.heap.size ad [⟨1, 0, -1000001, 1⟩, ⟨0, 1, 2999999, 1⟩] ∧ Below W.heap.size W w') from fun v b W hR h1 h2 => by
  refine (consP_u v sF _ 2 [sE0, sE1] W sF_fit (by decide) s_wf hR h1 h2).mono ?_
  rintro e w' ⟨ad, c, rfl, _, h3, h4⟩
  rw [s_con, s_conE] at *
  exact ⟨ad, c, rfl, h3, h4⟩)
 have CAG := Lib.hid (show ∀ (v : Value) (b b2 : Nat) (y : Int) (m : Int) (r : Bool) (W : World), 0 ≤ m → m ≤ 1 → agB sF [sE0, sE1] [0, y] m = r → Rdy W → FlAt W v sF → RL KE W (some ⟨b, 0, none⟩) [sE0, sE1] → RL KI W (some ⟨b2, 0, none⟩) [0, y] → Calls Tryd.prog 21 #[v, .slice (some ⟨b, 0, none⟩) 2 2, .slice (some ⟨b2, 0, none⟩) 2 2, .int .i64 m] W (fun e w' => e = .returned (.bool r) ∧ Below W.heap.size W w') from fun v b b2 y m r W m0 m1 hr hR h1 h2 h3 => by
  rw [← hr]
  exact agreesP_u v sF _ _ 2 2 [sE0, sE1] [0, y] m W sF_fit (by decide) (by simp [maxLen]) s_wf hR h1 h2 h3)
 have CFD := Lib.hid (show ∀ (v : Value) (b b2 : Nat) (y : Int) (n : Nat) (er : Int) (W : World), (fdV sF [sE0, sE1] [0, y] 0).dr = 0 → (fdV sF [sE0, sE1] [0, y] 0).an.length = n → fdE sF [sE0, sE1] [0, y] 0 = er → Rdy W → FlAt W v sF → RL KE W (some ⟨b, 0, none⟩) [sE0, sE1] → RL KI W (some ⟨b2, 0, none⟩) [0, y] → Calls Tryd.prog 31 #[v, .slice (some ⟨b, 0, none⟩) 2 2, .slice (some ⟨b2, 0, none⟩) 2 2, .int .i64 0] W (fun e w' => ∃ ad cp, e = .returned (.tuple #[.agg #[.int .i64 0, .slice ad n cp], .int .i64 er]) ∧ Below W.heap.size W w') from fun v b b2 y n er W hd hn he hR h1 h2 h3 => by
  refine (findP_u v sF _ _ 2 2 [sE0, sE1] [0, y] 0 W sF_fit (by decide) (by simp [maxLen]) s_wf hR h1 h2 h3).mono ?_
  rintro e w' ⟨ad, cp, h, _, _, hb⟩
  rw [hd, hn, he] at h
  exact ⟨ad, cp, h, hb⟩)
 have CRD := Lib.hid (show ∀ (b : Nat) (t r : Int) (W : World), readB sD t = true → readV sD t = r → RL KA W (some ⟨b, 0, none⟩) [⟨6, 1⟩] → Calls Tryd.prog 27 #[.agg #[.int .i64 0, .slice (some ⟨b, 0, none⟩) 1 1], .int .i64 t] W (fun e w' => e = .returned (.tuple #[.int .i64 r, .int .i64 0]) ∧ Below W.heap.size W w') from fun b t r W hb hr h => by
  have := reading_u sD (some ⟨b, 0, none⟩) 1 t (by decide) (by decide) W h
  rw [hr, readE_yes hb] at this
  exact this)
 have CVC := Lib.hid (show ∀ (b : Nat) (W : World), RL KA W (some ⟨b, 0, none⟩) [⟨6, 1⟩] → Calls Tryd.prog 29 #[.agg #[.int .i64 0, .slice (some ⟨b, 0, none⟩) 1 1]] W (fun e w' => e = .returned (.bool true) ∧ Below W.heap.size W w') from fun b W h => by
  have := validClock_u _ sD W ⟨some ⟨b, 0, none⟩, 1, rfl, h⟩ (by decide)
  rw [s_ck] at this
  exact this)
 have CVZ := Lib.hid (show ∀ (W : World), Calls Tryd.prog 29 #[.agg #[.int .i64 0, .slice none 0 0]] W (fun e w' => e = .returned (.bool false) ∧ Below W.heap.size W w') from fun W => by
  have := validClock_u _ ⟨0, []⟩ W ⟨none, 0, rfl, .inl rfl⟩ (by decide)
  rw [s_ckz] at this
  exact this)
 have CVA := Lib.hid (show ∀ (v : Value) (W : World), FlAt W v sF → Calls Tryd.prog 14 #[v] W (fun e w' => e = .returned (.bool true) ∧ Below W.heap.size W w') from fun v W h => by
  have := valid_u v sF W sF_fit h
  rw [s_fl] at this
  exact this)
 have CVB := Lib.hid (show ∀ (W : World), Calls Tryd.prog 14 #[.agg #[.slice none 0 0, .int .i64 0, .int .i64 0, .slice none 0 0, .slice none 0 0]] W (fun e w' => e = .returned (.bool false) ∧ Below W.heap.size W w') from fun W => by
  have := valid_u _ sF0 W sF0_fit ⟨none, 0, none, 0, none, 0, rfl, .inl rfl, .inl rfl, .inl rfl⟩
  rw [s_flz] at this
  exact this)
 have CEV := Lib.hid (show ∀ (W : World), Rdy W → Calls Tryd.prog 23 #[sE0.val] W (fun e w' => e = .returned (.bool true) ∧ Below W.heap.size W w') from fun W hR => by
  have := event_u sE0 (by unfold Ev.wf; decide) W hR
  rw [s_ev0] at this
  exact this)
 have CEZ := Lib.hid (show ∀ (W : World), Rdy W → Calls Tryd.prog 23 #[zE.val] W (fun e w' => e = .returned (.bool false) ∧ Below W.heap.size W w') from fun W hR => by
  have := event_u zE (by unfold Ev.wf; decide) W hR
  rw [s_evz] at this
  exact this)
 have CES := Lib.hid (show ∀ (v : Value) (b : Nat) (l : List Ev) (r : Bool) (W : World), l.length = 2 → evsB sF l = r → evsW l → Rdy W → FlAt W v sF → RL KE W (some ⟨b, 0, none⟩) l → Calls Tryd.prog 18 #[v, .slice (some ⟨b, 0, none⟩) 2 2] W (fun e w' => e = .returned (.bool r) ∧ Below W.heap.size W w') from fun v b l r W hl hr hk hR h1 h2 => by
  have := events_u v sF (some ⟨b, 0, none⟩) 2 l sF_fit (by rw [hl]; decide) hk W hR h1 h2
  rw [hr, hl] at this
  exact this)
 simp only [Ev.val, sE0] at CEV
 simp only [Ev.val, zE] at CEZ
 obtain ⟨w1, V1, Z1, K1, B1⟩ := lay8 w (KE.vs [sE0, sE1]) 46
 have HL := Lib.hid (show ∀ W, Below w1.heap.size w1 W → RL KE W (some ⟨w.heap.size, 0, none⟩) [sE0, sE1] from fun W b => ((CellsAt.rnK KE K1 (Nat.le_refl _) (by omega)).rl.below b))
 have HE := Lib.hid (show ∀ W, Below w1.heap.size w1 W → CellsAt W w.heap.size [.int .i64 0, .int .i64 0, .int .i64 5, .int .i64 1, .int .i64 0, .int .i64 0, .int .i64 (-1), .int .i64 0, .int .i64 0, .int .i64 0, .int .i64 0, .int .i64 0, .int .i64 0, .int .i64 1, .int .i64 7, .int .i64 2, .int .i64 0, .int .i64 0, .int .i64 0, .int .i64 0, .int .i64 0, .int .i64 0, .int .i64 0, .int .i64 0] from fun W b => K1.below b)
 have HBW := Lib.hid B1
 have V1 := (show w.alloc (.cells #[.int .i64 0, .int .i64 0, .int .i64 5, .int .i64 1, .int .i64 0, .int .i64 0, .int .i64 (-1), .int .i64 0, .int .i64 0, .int .i64 0, .int .i64 0, .int .i64 0, .int .i64 0, .int .i64 1, .int .i64 7, .int .i64 2, .int .i64 0, .int .i64 0, .int .i64 0, .int .i64 0, .int .i64 0, .int .i64 0, .int .i64 0, .int .i64 0] 46) = w1 from V1)
 clear K1 B1
 have HB1 := Lib.hid (show Below w1.heap.size w1 w1 from Below.refl _ _)
 go_enter Tryd.func10, Tryd.ntmps10
 go_wp2_with fail
 refine (HS.out _).mono ?_
 rintro e w2 ⟨v, rfl, hv, hb⟩
 replace HBW := Lib.hid (HBW.out.trans ((hb).mono HBW.out.size))
 replace HB1 := Lib.hid (HB1.out.trans ((hb).mono HB1.out.size))
 clear hb V1
 go_wp2_with fail
 refine (CCO.out _ _ _ (HRD.out _ HBW.out) hv (HL.out _ HB1.out)).mono ?_
 rintro e w3 ⟨ad3, c3, rfl, hr3, hb⟩
 clear hv
 replace HBW := Lib.hid (HBW.out.trans ((hb).mono HBW.out.size))
 replace HB1 := Lib.hid (HB1.out.trans ((hb).mono HB1.out.size))
 have HB3 := Lib.hid (show Below w3.heap.size w3 w3 from Below.refl _ _)
 obtain ⟨cb, co, rfl, _, hcc⟩ := hr3.rl.c4 0 (by simp)
 obtain ⟨cb2, co2, ecb, _, hcd⟩ := hr3.rl.c4 1 (by simp)
 injection ecb with ecb
 injection ecb with e1 e2
 subst e1 e2
 have HC3 := Lib.hid (show ∀ W, Below w3.heap.size w3 W → (W.cell? ⟨cb, co, none⟩ = some (.int .i64 1) ∧ W.cell? ⟨cb, co + 1, none⟩ = some (.int .i64 0) ∧ W.cell? ⟨cb, co + 2, none⟩ = some (.int .i64 (-1000001)) ∧ W.cell? ⟨cb, co + 3, none⟩ = some (.int .i64 1)) ∧ (W.cell? ⟨cb, co + 4, none⟩ = some (.int .i64 0) ∧ W.cell? ⟨cb, co + 4 + 1, none⟩ = some (.int .i64 1) ∧ W.cell? ⟨cb, co + 4 + 2, none⟩ = some (.int .i64 2999999) ∧ W.cell? ⟨cb, co + 4 + 3, none⟩ = some (.int .i64 1)) from fun W b => ⟨hcc W b, hcd W b⟩)
 clear hb hr3 hcc hcd
 obtain ⟨w4, V4, Z4, K4, B4⟩ := lay8 w3 [.int .i64 6, .int .i64 1] 60
 obtain ⟨w5, V5, Z5, K5, B5⟩ := lay8 w4 [.int .i64 0, .slice none 0 0] 50
 rw [Z4] at K5 Z5 B5
 obtain ⟨w6, V6, K6, B6, R6⟩ : ∃ w6, (w5.setCell ⟨w3.heap.size + 1, 0, none⟩ (.int .i64 0)).setCell ⟨w3.heap.size + 1, 1, none⟩ (.slice (some ⟨w3.heap.size, 0, none⟩) 1 1) = w6 ∧ CellsAt w6 (w3.heap.size + 1) [.int .i64 0, .slice (some ⟨w3.heap.size, 0, none⟩) 1 1] ∧ Below w3.heap.size w3 w6 ∧ RL KA w6 (some ⟨w3.heap.size, 0, none⟩) [⟨6, 1⟩] :=
  ⟨_, rfl, (K5.put 0 _).put 1 _, (((B4.trans (B5.mono (by omega))).setCell (by simp) _).setCell (by simp) _), (CellsAt.rnA (l := [⟨6, 1⟩]) (base := w3.heap.size) (((K4.up B5 (by omega)).far (by omega)).far (by omega)) (by omega) (by simp; omega)).rl⟩
 obtain ⟨g0, g0'⟩ := K5 0 (by simp); obtain ⟨g1, g1'⟩ := K5 1 (by simp)
 have HK6 := Lib.hid K6; have HR6 := Lib.hid R6; have hb := B6
 clear K4 K5 K6 B4 B5 B6 R6
 replace HBW := Lib.hid (HBW.out.trans ((hb).mono HBW.out.size))
 replace HB1 := Lib.hid (HB1.out.trans ((hb).mono HB1.out.size))
 replace HB3 := Lib.hid (HB3.out.trans ((hb).mono HB3.out.size))
 have HB6 := Lib.hid (show Below w6.heap.size w6 w6 from Below.refl _ _)
 clear hb
 obtain ⟨w7, V7, Z7, K7, B7⟩ := lay8 w6 (rdA 0) 71
 have V7 := (show w6.alloc (.cells #[.int .i64 0, .int .i64 0, .int .i64 0, .int .i64 0] 71) = w7 from V7)
 have HK7 := Lib.hid K7; have hb := B7
 clear K7 B7
 go_wp2_with fail
 go_loopw [6] (fun i wr => ∃ k : Int, (k = 0 ∨ k = 1 ∨ k = 2 ∨ k = 3 ∨ k = 4) ∧ i = .int .i64 k ∧ Hid (CellsAt wr w6.heap.size (rdA k)) ∧ Hid (Below w6.heap.size w6 wr)) (fun i _ => 4 - (RowKit.intOf i).toNat)
 case atStart => exact ⟨0, .inl rfl, rfl, HK7, Lib.hid hb⟩
 case round =>
  clear hb V4 V5 V6 V7 g0 g0' g1 g1'
  obtain ⟨k, hk, rfl, HA, HBr⟩ := hrel
  obtain ⟨y0, _⟩ := HK6.out.below HBr.out 0 (by simp)
  obtain ⟨y1, _⟩ := HK6.out.below HBr.out 1 (by simp)
  simp only [List.getElem_cons_zero, List.getElem_cons_succ] at y0 y1
  rcases hk with rfl | rfl | rfl | rfl | rfl
  · skip
    have HA := Lib.hid (show CellsAt wr w6.heap.size [.int .i64 0, .int .i64 0, .int .i64 0, .int .i64 0] from HA.out)
    go_upto_region 10 with fail
    go_cut [7, 8] from 38 to 46 (fun s7 s8 wx => s7 = .int .i64 5 ∧ s8 = .int .i64 0 ∧ Hid (Below wr.heap.size wr wx))
    case first =>
     have HYY := Lib.hid (show ∀ W, Below wr.heap.size wr W → W.cell? ⟨w3.heap.size + 1, 0, none⟩ = some (.int .i64 0) ∧ W.cell? ⟨w3.heap.size + 1, 1, none⟩ = some (.slice (some ⟨w3.heap.size, 0, none⟩) 1 1) from fun W b => ⟨((HK6.out.below HBr.out).below b 0 (by simp)).1, ((HK6.out.below HBr.out).below b 1 (by simp)).1⟩)
     refine wp_region_noPanic ?_
     refine wp_region_Kx (C := NewB wr) [10] 10 #[false, false, false, false, false, false, false, false, false, false, false] (by kernel_rfl) (by kernel_rfl) (by kernel_rfl) (newB0 _) ?_
     intro wx hwx
     obtain ⟨w8, V8, Z8, K8, B8⟩ := lay8 wx [.int .i64 0, .int .i64 1, .int .i64 1000000, .int .i64 1000001] 3
     have H8 := Lib.hid (show Below wr.heap.size wr w8 from hwx.below.trans (B8.mono hwx.below.size))
     have HR8 := Lib.hid (show RL KA w8 (some ⟨w3.heap.size, 0, none⟩) [⟨6, 1⟩] from (HR6.out.below HBr.out).below H8.out)
     have z0 := (show w8.cell? ⟨wx.heap.size, 0, none⟩ = some (.int .i64 0) from (K8 0 (by simp)).1)
     refine wpAnyK_ex (i := 0) rfl (by kernel_rfl) (listed' := #[true, false, false, false, false, false, false, false, false, false, false]) rfl (fun _ _ _ _ _ h => h) hwx ?_
     apply Exists.intro
     refine ⟨⟨by kernel_rfl, fun wy hw => ?_⟩, ?_⟩
     · (have bw := hw.below; obtain ⟨f0, f1⟩ := HYY.out _ bw; go_simp; try (first | (with_reducible rfl) | (with_reducible exact ⟨rfl, rfl⟩)))
     go_simp
     refine wpAnyK_ex (i := 2) rfl (by kernel_rfl) (listed' := #[true, false, true, false, false, false, false, false, false, false, false]) rfl (fun _ _ _ _ _ h => h) hwx ?_
     apply Exists.intro
     refine ⟨⟨by kernel_rfl, fun wy hw => ?_⟩, ?_⟩
     · (have bw := hw.below; obtain ⟨f0, f1⟩ := HYY.out _ bw; go_simp; try (first | (with_reducible rfl) | (with_reducible exact ⟨rfl, rfl⟩)))
     go_simp
     refine wpAnyK_fork1 1 (by kernel_rfl) ?_
     refine wpOpK_step rfl (by kernel_rfl) (listed' := #[true, true, true, false, false, false, false, false, false, false, false]) rfl (by kernel_rfl) (fun K hK => ?_)
     go_simp
     refine hK _ _ (H8.out) ?_
     clear hK K
     go_simp
     refine wpAnyK_ex (i := 3) rfl (by kernel_rfl) (listed' := #[true, true, true, true, false, false, false, false, false, false, false]) rfl (fun _ _ _ _ _ h => h) H8.out ?_
     apply Exists.intro
     refine ⟨⟨by kernel_rfl, fun wy hw => ?_⟩, ?_⟩
     · (have bw := hw.below; obtain ⟨f0, f1⟩ := HYY.out _ bw; go_simp; try (first | (with_reducible rfl) | (with_reducible exact ⟨rfl, rfl⟩)))
     go_simp
     refine wpAnyK_fork1 4 (by kernel_rfl) ?_
     refine wpOpK_step rfl (by kernel_rfl) (listed' := #[true, true, true, true, true, false, false, false, false, false, false]) rfl (by kernel_rfl) (fun K hK => ?_)
     go_simp
     refine hK _ _ (H8.out) ?_
     clear hK K
     go_simp
     refine wpAnyK_fork1 5 (by kernel_rfl) ?_
     refine wpOpK_step rfl (by kernel_rfl) (listed' := #[true, true, true, true, true, true, false, false, false, false, false]) rfl (by kernel_rfl) (fun K hK => ?_)
     go_simp
     refine (CRD.out _ 0 5 _ (by decide) s_r0 HR8.out).mono ?_
     rintro e w9 ⟨rfl, hb9⟩
     have H9 := Lib.hid (H8.out.trans (hb9.mono H8.out.size))
     refine hK _ _ H9.out ?_
     clear hK K hb9
     try simp only [Act.put, List.getElem_toArray, List.getElem_cons_succ, List.getElem_cons_zero, List.setIfInBounds_toArray, List.set_cons_succ, List.set_cons_zero]
     refine wpAnyK_ex (i := 6) rfl (by kernel_rfl) (listed' := #[true, true, true, true, true, true, true, false, false, false, false]) rfl (fun _ _ _ _ _ h => h) H9.out ?_
     apply Exists.intro
     refine ⟨⟨by kernel_rfl, fun wy hw => ?_⟩, ?_⟩
     · (have bw := hw.below; obtain ⟨f0, f1⟩ := HYY.out _ bw; go_simp; try (first | (with_reducible rfl) | (with_reducible exact ⟨rfl, rfl⟩)))
     go_simp
     refine wpAnyK_ex (i := 7) rfl (by kernel_rfl) (listed' := #[true, true, true, true, true, true, true, true, false, false, false]) rfl (fun _ _ _ _ _ h => h) H9.out ?_
     apply Exists.intro
     refine ⟨⟨by kernel_rfl, fun wy hw => ?_⟩, ?_⟩
     · (have bw := hw.below; obtain ⟨f0, f1⟩ := HYY.out _ bw; go_simp; try (first | (with_reducible rfl) | (with_reducible exact ⟨rfl, rfl⟩)))
     go_simp
     refine wpAnyK_ex (i := 8) rfl (by kernel_rfl) (listed' := #[true, true, true, true, true, true, true, true, true, false, false]) rfl (fun _ _ _ _ _ h => h) H9.out ?_
     apply Exists.intro
     refine ⟨⟨by kernel_rfl, fun wy hw => ?_⟩, ?_⟩
     · (have bw := hw.below; obtain ⟨f0, f1⟩ := HYY.out _ bw; go_simp; try (first | (with_reducible rfl) | (with_reducible exact ⟨rfl, rfl⟩)))
     go_simp
     refine wpAnyK_ex (i := 9) rfl (by kernel_rfl) (listed' := #[true, true, true, true, true, true, true, true, true, true, false]) rfl (fun _ _ _ _ _ h => h) H9.out ?_
     apply Exists.intro
     refine ⟨⟨by kernel_rfl, fun wy hw => ?_⟩, ?_⟩
     · (have bw := hw.below; obtain ⟨f0, f1⟩ := HYY.out _ bw; go_simp; try (first | (with_reducible rfl) | (with_reducible exact ⟨rfl, rfl⟩)))
     go_simp
     refine wpAnyK_end (by kernel_rfl) ?_
     try simp only [pickOps, List.filterMap_cons, List.filterMap_nil, List.getElem?_toArray, List.getElem?_cons_succ, List.getElem?_cons_zero]
     clear V8
     go_wp2_with fail
     refine NoPanic.normal ?_
     go_wp2_with fail
     go_meet
     exact ⟨rfl, rfl, H9⟩
    case rest =>
     obtain ⟨rfl, rfl, HBx⟩ := hcut
     generalize wc = wd at *
     have HAd := Lib.hid (HA.out.below HBx.out)
     have p0 := (show wd.cell? ⟨w6.heap.size, 0, none⟩ = some (.int .i64 0) from (HAd.out 0 (by simp)).1)
     have p1 := (HAd.out 0 (by simp)).2
     have hzd := HBx.out.size
     have HBd := Lib.hid (HBr.out.trans (HBx.out.mono HBr.out.size))
     clear y0 y1
     go_wp2_with fail
     go_roundw
     case rel => exact ⟨1, by decide, by go_num, Lib.hid (HAd.out.put 0 _), Lib.hid (HBd.out.setCell (Nat.le_refl _) _)⟩
     case measure => simp [RowKit.intOf]
  · skip
    have HA := Lib.hid (show CellsAt wr w6.heap.size [.int .i64 5, .int .i64 0, .int .i64 0, .int .i64 0] from HA.out)
    go_upto_region 10 with fail
    go_cut [7, 8] from 38 to 46 (fun s7 s8 wx => s7 = .int .i64 6 ∧ s8 = .int .i64 0 ∧ Hid (Below wr.heap.size wr wx))
    case first =>
     have HYY := Lib.hid (show ∀ W, Below wr.heap.size wr W → W.cell? ⟨w3.heap.size + 1, 0, none⟩ = some (.int .i64 0) ∧ W.cell? ⟨w3.heap.size + 1, 1, none⟩ = some (.slice (some ⟨w3.heap.size, 0, none⟩) 1 1) from fun W b => ⟨((HK6.out.below HBr.out).below b 0 (by simp)).1, ((HK6.out.below HBr.out).below b 1 (by simp)).1⟩)
     refine wp_region_noPanic ?_
     refine wp_region_Kx (C := NewB wr) [10] 10 #[false, false, false, false, false, false, false, false, false, false, false] (by kernel_rfl) (by kernel_rfl) (by kernel_rfl) (newB0 _) ?_
     intro wx hwx
     obtain ⟨w8, V8, Z8, K8, B8⟩ := lay8 wx [.int .i64 0, .int .i64 1, .int .i64 1000000, .int .i64 1000001] 3
     have H8 := Lib.hid (show Below wr.heap.size wr w8 from hwx.below.trans (B8.mono hwx.below.size))
     have HR8 := Lib.hid (show RL KA w8 (some ⟨w3.heap.size, 0, none⟩) [⟨6, 1⟩] from (HR6.out.below HBr.out).below H8.out)
     have z0 := (show w8.cell? ⟨wx.heap.size, 1, none⟩ = some (.int .i64 1) from (K8 1 (by simp)).1)
     refine wpAnyK_ex (i := 0) rfl (by kernel_rfl) (listed' := #[true, false, false, false, false, false, false, false, false, false, false]) rfl (fun _ _ _ _ _ h => h) hwx ?_
     apply Exists.intro
     refine ⟨⟨by kernel_rfl, fun wy hw => ?_⟩, ?_⟩
     · (have bw := hw.below; obtain ⟨f0, f1⟩ := HYY.out _ bw; go_simp; try (first | (with_reducible rfl) | (with_reducible exact ⟨rfl, rfl⟩)))
     go_simp
     refine wpAnyK_ex (i := 2) rfl (by kernel_rfl) (listed' := #[true, false, true, false, false, false, false, false, false, false, false]) rfl (fun _ _ _ _ _ h => h) hwx ?_
     apply Exists.intro
     refine ⟨⟨by kernel_rfl, fun wy hw => ?_⟩, ?_⟩
     · (have bw := hw.below; obtain ⟨f0, f1⟩ := HYY.out _ bw; go_simp; try (first | (with_reducible rfl) | (with_reducible exact ⟨rfl, rfl⟩)))
     go_simp
     refine wpAnyK_fork1 1 (by kernel_rfl) ?_
     refine wpOpK_step rfl (by kernel_rfl) (listed' := #[true, true, true, false, false, false, false, false, false, false, false]) rfl (by kernel_rfl) (fun K hK => ?_)
     go_simp
     refine hK _ _ (H8.out) ?_
     clear hK K
     go_simp
     refine wpAnyK_ex (i := 3) rfl (by kernel_rfl) (listed' := #[true, true, true, true, false, false, false, false, false, false, false]) rfl (fun _ _ _ _ _ h => h) H8.out ?_
     apply Exists.intro
     refine ⟨⟨by kernel_rfl, fun wy hw => ?_⟩, ?_⟩
     · (have bw := hw.below; obtain ⟨f0, f1⟩ := HYY.out _ bw; go_simp; try (first | (with_reducible rfl) | (with_reducible exact ⟨rfl, rfl⟩)))
     go_simp
     refine wpAnyK_fork1 4 (by kernel_rfl) ?_
     refine wpOpK_step rfl (by kernel_rfl) (listed' := #[true, true, true, true, true, false, false, false, false, false, false]) rfl (by kernel_rfl) (fun K hK => ?_)
     go_simp
     refine hK _ _ (H8.out) ?_
     clear hK K
     go_simp
     refine wpAnyK_fork1 5 (by kernel_rfl) ?_
     refine wpOpK_step rfl (by kernel_rfl) (listed' := #[true, true, true, true, true, true, false, false, false, false, false]) rfl (by kernel_rfl) (fun K hK => ?_)
     go_simp
     refine (CRD.out _ 1 6 _ (by decide) s_r1 HR8.out).mono ?_
     rintro e w9 ⟨rfl, hb9⟩
     have H9 := Lib.hid (H8.out.trans (hb9.mono H8.out.size))
     refine hK _ _ H9.out ?_
     clear hK K hb9
     try simp only [Act.put, List.getElem_toArray, List.getElem_cons_succ, List.getElem_cons_zero, List.setIfInBounds_toArray, List.set_cons_succ, List.set_cons_zero]
     refine wpAnyK_ex (i := 6) rfl (by kernel_rfl) (listed' := #[true, true, true, true, true, true, true, false, false, false, false]) rfl (fun _ _ _ _ _ h => h) H9.out ?_
     apply Exists.intro
     refine ⟨⟨by kernel_rfl, fun wy hw => ?_⟩, ?_⟩
     · (have bw := hw.below; obtain ⟨f0, f1⟩ := HYY.out _ bw; go_simp; try (first | (with_reducible rfl) | (with_reducible exact ⟨rfl, rfl⟩)))
     go_simp
     refine wpAnyK_ex (i := 7) rfl (by kernel_rfl) (listed' := #[true, true, true, true, true, true, true, true, false, false, false]) rfl (fun _ _ _ _ _ h => h) H9.out ?_
     apply Exists.intro
     refine ⟨⟨by kernel_rfl, fun wy hw => ?_⟩, ?_⟩
     · (have bw := hw.below; obtain ⟨f0, f1⟩ := HYY.out _ bw; go_simp; try (first | (with_reducible rfl) | (with_reducible exact ⟨rfl, rfl⟩)))
     go_simp
     refine wpAnyK_ex (i := 8) rfl (by kernel_rfl) (listed' := #[true, true, true, true, true, true, true, true, true, false, false]) rfl (fun _ _ _ _ _ h => h) H9.out ?_
     apply Exists.intro
     refine ⟨⟨by kernel_rfl, fun wy hw => ?_⟩, ?_⟩
     · (have bw := hw.below; obtain ⟨f0, f1⟩ := HYY.out _ bw; go_simp; try (first | (with_reducible rfl) | (with_reducible exact ⟨rfl, rfl⟩)))
     go_simp
     refine wpAnyK_ex (i := 9) rfl (by kernel_rfl) (listed' := #[true, true, true, true, true, true, true, true, true, true, false]) rfl (fun _ _ _ _ _ h => h) H9.out ?_
     apply Exists.intro
     refine ⟨⟨by kernel_rfl, fun wy hw => ?_⟩, ?_⟩
     · (have bw := hw.below; obtain ⟨f0, f1⟩ := HYY.out _ bw; go_simp; try (first | (with_reducible rfl) | (with_reducible exact ⟨rfl, rfl⟩)))
     go_simp
     refine wpAnyK_end (by kernel_rfl) ?_
     try simp only [pickOps, List.filterMap_cons, List.filterMap_nil, List.getElem?_toArray, List.getElem?_cons_succ, List.getElem?_cons_zero]
     clear V8
     go_wp2_with fail
     refine NoPanic.normal ?_
     go_wp2_with fail
     go_meet
     exact ⟨rfl, rfl, H9⟩
    case rest =>
     obtain ⟨rfl, rfl, HBx⟩ := hcut
     generalize wc = wd at *
     have HAd := Lib.hid (HA.out.below HBx.out)
     have p0 := (show wd.cell? ⟨w6.heap.size, 1, none⟩ = some (.int .i64 0) from (HAd.out 1 (by simp)).1)
     have p1 := (HAd.out 1 (by simp)).2
     have hzd := HBx.out.size
     have HBd := Lib.hid (HBr.out.trans (HBx.out.mono HBr.out.size))
     clear y0 y1
     go_wp2_with fail
     go_roundw
     case rel => exact ⟨2, by decide, by go_num, Lib.hid (HAd.out.put 1 _), Lib.hid (HBd.out.setCell (Nat.le_refl _) _)⟩
     case measure => simp [RowKit.intOf]
  · skip
    have HA := Lib.hid (show CellsAt wr w6.heap.size [.int .i64 5, .int .i64 6, .int .i64 0, .int .i64 0] from HA.out)
    go_upto_region 10 with fail
    go_cut [7, 8] from 38 to 46 (fun s7 s8 wx => s7 = .int .i64 6 ∧ s8 = .int .i64 0 ∧ Hid (Below wr.heap.size wr wx))
    case first =>
     have HYY := Lib.hid (show ∀ W, Below wr.heap.size wr W → W.cell? ⟨w3.heap.size + 1, 0, none⟩ = some (.int .i64 0) ∧ W.cell? ⟨w3.heap.size + 1, 1, none⟩ = some (.slice (some ⟨w3.heap.size, 0, none⟩) 1 1) from fun W b => ⟨((HK6.out.below HBr.out).below b 0 (by simp)).1, ((HK6.out.below HBr.out).below b 1 (by simp)).1⟩)
     refine wp_region_noPanic ?_
     refine wp_region_Kx (C := NewB wr) [10] 10 #[false, false, false, false, false, false, false, false, false, false, false] (by kernel_rfl) (by kernel_rfl) (by kernel_rfl) (newB0 _) ?_
     intro wx hwx
     obtain ⟨w8, V8, Z8, K8, B8⟩ := lay8 wx [.int .i64 0, .int .i64 1, .int .i64 1000000, .int .i64 1000001] 3
     have H8 := Lib.hid (show Below wr.heap.size wr w8 from hwx.below.trans (B8.mono hwx.below.size))
     have HR8 := Lib.hid (show RL KA w8 (some ⟨w3.heap.size, 0, none⟩) [⟨6, 1⟩] from (HR6.out.below HBr.out).below H8.out)
     have z0 := (show w8.cell? ⟨wx.heap.size, 2, none⟩ = some (.int .i64 1000000) from (K8 2 (by simp)).1)
     refine wpAnyK_ex (i := 0) rfl (by kernel_rfl) (listed' := #[true, false, false, false, false, false, false, false, false, false, false]) rfl (fun _ _ _ _ _ h => h) hwx ?_
     apply Exists.intro
     refine ⟨⟨by kernel_rfl, fun wy hw => ?_⟩, ?_⟩
     · (have bw := hw.below; obtain ⟨f0, f1⟩ := HYY.out _ bw; go_simp; try (first | (with_reducible rfl) | (with_reducible exact ⟨rfl, rfl⟩)))
     go_simp
     refine wpAnyK_ex (i := 2) rfl (by kernel_rfl) (listed' := #[true, false, true, false, false, false, false, false, false, false, false]) rfl (fun _ _ _ _ _ h => h) hwx ?_
     apply Exists.intro
     refine ⟨⟨by kernel_rfl, fun wy hw => ?_⟩, ?_⟩
     · (have bw := hw.below; obtain ⟨f0, f1⟩ := HYY.out _ bw; go_simp; try (first | (with_reducible rfl) | (with_reducible exact ⟨rfl, rfl⟩)))
     go_simp
     refine wpAnyK_fork1 1 (by kernel_rfl) ?_
     refine wpOpK_step rfl (by kernel_rfl) (listed' := #[true, true, true, false, false, false, false, false, false, false, false]) rfl (by kernel_rfl) (fun K hK => ?_)
     go_simp
     refine hK _ _ (H8.out) ?_
     clear hK K
     go_simp
     refine wpAnyK_ex (i := 3) rfl (by kernel_rfl) (listed' := #[true, true, true, true, false, false, false, false, false, false, false]) rfl (fun _ _ _ _ _ h => h) H8.out ?_
     apply Exists.intro
     refine ⟨⟨by kernel_rfl, fun wy hw => ?_⟩, ?_⟩
     · (have bw := hw.below; obtain ⟨f0, f1⟩ := HYY.out _ bw; go_simp; try (first | (with_reducible rfl) | (with_reducible exact ⟨rfl, rfl⟩)))
     go_simp
     refine wpAnyK_fork1 4 (by kernel_rfl) ?_
     refine wpOpK_step rfl (by kernel_rfl) (listed' := #[true, true, true, true, true, false, false, false, false, false, false]) rfl (by kernel_rfl) (fun K hK => ?_)
     go_simp
     refine hK _ _ (H8.out) ?_
     clear hK K
     go_simp
     refine wpAnyK_fork1 5 (by kernel_rfl) ?_
     refine wpOpK_step rfl (by kernel_rfl) (listed' := #[true, true, true, true, true, true, false, false, false, false, false]) rfl (by kernel_rfl) (fun K hK => ?_)
     go_simp
     refine (CRD.out _ 1000000 6 _ (by decide) s_r2 HR8.out).mono ?_
     rintro e w9 ⟨rfl, hb9⟩
     have H9 := Lib.hid (H8.out.trans (hb9.mono H8.out.size))
     refine hK _ _ H9.out ?_
     clear hK K hb9
     try simp only [Act.put, List.getElem_toArray, List.getElem_cons_succ, List.getElem_cons_zero, List.setIfInBounds_toArray, List.set_cons_succ, List.set_cons_zero]
     refine wpAnyK_ex (i := 6) rfl (by kernel_rfl) (listed' := #[true, true, true, true, true, true, true, false, false, false, false]) rfl (fun _ _ _ _ _ h => h) H9.out ?_
     apply Exists.intro
     refine ⟨⟨by kernel_rfl, fun wy hw => ?_⟩, ?_⟩
     · (have bw := hw.below; obtain ⟨f0, f1⟩ := HYY.out _ bw; go_simp; try (first | (with_reducible rfl) | (with_reducible exact ⟨rfl, rfl⟩)))
     go_simp
     refine wpAnyK_ex (i := 7) rfl (by kernel_rfl) (listed' := #[true, true, true, true, true, true, true, true, false, false, false]) rfl (fun _ _ _ _ _ h => h) H9.out ?_
     apply Exists.intro
     refine ⟨⟨by kernel_rfl, fun wy hw => ?_⟩, ?_⟩
     · (have bw := hw.below; obtain ⟨f0, f1⟩ := HYY.out _ bw; go_simp; try (first | (with_reducible rfl) | (with_reducible exact ⟨rfl, rfl⟩)))
     go_simp
     refine wpAnyK_ex (i := 8) rfl (by kernel_rfl) (listed' := #[true, true, true, true, true, true, true, true, true, false, false]) rfl (fun _ _ _ _ _ h => h) H9.out ?_
     apply Exists.intro
     refine ⟨⟨by kernel_rfl, fun wy hw => ?_⟩, ?_⟩
     · (have bw := hw.below; obtain ⟨f0, f1⟩ := HYY.out _ bw; go_simp; try (first | (with_reducible rfl) | (with_reducible exact ⟨rfl, rfl⟩)))
     go_simp
     refine wpAnyK_ex (i := 9) rfl (by kernel_rfl) (listed' := #[true, true, true, true, true, true, true, true, true, true, false]) rfl (fun _ _ _ _ _ h => h) H9.out ?_
     apply Exists.intro
     refine ⟨⟨by kernel_rfl, fun wy hw => ?_⟩, ?_⟩
     · (have bw := hw.below; obtain ⟨f0, f1⟩ := HYY.out _ bw; go_simp; try (first | (with_reducible rfl) | (with_reducible exact ⟨rfl, rfl⟩)))
     go_simp
     refine wpAnyK_end (by kernel_rfl) ?_
     try simp only [pickOps, List.filterMap_cons, List.filterMap_nil, List.getElem?_toArray, List.getElem?_cons_succ, List.getElem?_cons_zero]
     clear V8
     go_wp2_with fail
     refine NoPanic.normal ?_
     go_wp2_with fail
     go_meet
     exact ⟨rfl, rfl, H9⟩
    case rest =>
     obtain ⟨rfl, rfl, HBx⟩ := hcut
     generalize wc = wd at *
     have HAd := Lib.hid (HA.out.below HBx.out)
     have p0 := (show wd.cell? ⟨w6.heap.size, 2, none⟩ = some (.int .i64 0) from (HAd.out 2 (by simp)).1)
     have p1 := (HAd.out 2 (by simp)).2
     have hzd := HBx.out.size
     have HBd := Lib.hid (HBr.out.trans (HBx.out.mono HBr.out.size))
     clear y0 y1
     go_wp2_with fail
     go_roundw
     case rel => exact ⟨3, by decide, by go_num, Lib.hid (HAd.out.put 2 _), Lib.hid (HBd.out.setCell (Nat.le_refl _) _)⟩
     case measure => simp [RowKit.intOf]
  · skip
    have HA := Lib.hid (show CellsAt wr w6.heap.size [.int .i64 5, .int .i64 6, .int .i64 6, .int .i64 0] from HA.out)
    go_upto_region 10 with fail
    go_cut [7, 8] from 38 to 46 (fun s7 s8 wx => s7 = .int .i64 7 ∧ s8 = .int .i64 0 ∧ Hid (Below wr.heap.size wr wx))
    case first =>
     have HYY := Lib.hid (show ∀ W, Below wr.heap.size wr W → W.cell? ⟨w3.heap.size + 1, 0, none⟩ = some (.int .i64 0) ∧ W.cell? ⟨w3.heap.size + 1, 1, none⟩ = some (.slice (some ⟨w3.heap.size, 0, none⟩) 1 1) from fun W b => ⟨((HK6.out.below HBr.out).below b 0 (by simp)).1, ((HK6.out.below HBr.out).below b 1 (by simp)).1⟩)
     refine wp_region_noPanic ?_
     refine wp_region_Kx (C := NewB wr) [10] 10 #[false, false, false, false, false, false, false, false, false, false, false] (by kernel_rfl) (by kernel_rfl) (by kernel_rfl) (newB0 _) ?_
     intro wx hwx
     obtain ⟨w8, V8, Z8, K8, B8⟩ := lay8 wx [.int .i64 0, .int .i64 1, .int .i64 1000000, .int .i64 1000001] 3
     have H8 := Lib.hid (show Below wr.heap.size wr w8 from hwx.below.trans (B8.mono hwx.below.size))
     have HR8 := Lib.hid (show RL KA w8 (some ⟨w3.heap.size, 0, none⟩) [⟨6, 1⟩] from (HR6.out.below HBr.out).below H8.out)
     have z0 := (show w8.cell? ⟨wx.heap.size, 3, none⟩ = some (.int .i64 1000001) from (K8 3 (by simp)).1)
     refine wpAnyK_ex (i := 0) rfl (by kernel_rfl) (listed' := #[true, false, false, false, false, false, false, false, false, false, false]) rfl (fun _ _ _ _ _ h => h) hwx ?_
     apply Exists.intro
     refine ⟨⟨by kernel_rfl, fun wy hw => ?_⟩, ?_⟩
     · (have bw := hw.below; obtain ⟨f0, f1⟩ := HYY.out _ bw; go_simp; try (first | (with_reducible rfl) | (with_reducible exact ⟨rfl, rfl⟩)))
     go_simp
     refine wpAnyK_ex (i := 2) rfl (by kernel_rfl) (listed' := #[true, false, true, false, false, false, false, false, false, false, false]) rfl (fun _ _ _ _ _ h => h) hwx ?_
     apply Exists.intro
     refine ⟨⟨by kernel_rfl, fun wy hw => ?_⟩, ?_⟩
     · (have bw := hw.below; obtain ⟨f0, f1⟩ := HYY.out _ bw; go_simp; try (first | (with_reducible rfl) | (with_reducible exact ⟨rfl, rfl⟩)))
     go_simp
     refine wpAnyK_fork1 1 (by kernel_rfl) ?_
     refine wpOpK_step rfl (by kernel_rfl) (listed' := #[true, true, true, false, false, false, false, false, false, false, false]) rfl (by kernel_rfl) (fun K hK => ?_)
     go_simp
     refine hK _ _ (H8.out) ?_
     clear hK K
     go_simp
     refine wpAnyK_ex (i := 3) rfl (by kernel_rfl) (listed' := #[true, true, true, true, false, false, false, false, false, false, false]) rfl (fun _ _ _ _ _ h => h) H8.out ?_
     apply Exists.intro
     refine ⟨⟨by kernel_rfl, fun wy hw => ?_⟩, ?_⟩
     · (have bw := hw.below; obtain ⟨f0, f1⟩ := HYY.out _ bw; go_simp; try (first | (with_reducible rfl) | (with_reducible exact ⟨rfl, rfl⟩)))
     go_simp
     refine wpAnyK_fork1 4 (by kernel_rfl) ?_
     refine wpOpK_step rfl (by kernel_rfl) (listed' := #[true, true, true, true, true, false, false, false, false, false, false]) rfl (by kernel_rfl) (fun K hK => ?_)
     go_simp
     refine hK _ _ (H8.out) ?_
     clear hK K
     go_simp
     refine wpAnyK_fork1 5 (by kernel_rfl) ?_
     refine wpOpK_step rfl (by kernel_rfl) (listed' := #[true, true, true, true, true, true, false, false, false, false, false]) rfl (by kernel_rfl) (fun K hK => ?_)
     go_simp
     refine (CRD.out _ 1000001 7 _ (by decide) s_r3 HR8.out).mono ?_
     rintro e w9 ⟨rfl, hb9⟩
     have H9 := Lib.hid (H8.out.trans (hb9.mono H8.out.size))
     refine hK _ _ H9.out ?_
     clear hK K hb9
     try simp only [Act.put, List.getElem_toArray, List.getElem_cons_succ, List.getElem_cons_zero, List.setIfInBounds_toArray, List.set_cons_succ, List.set_cons_zero]
     refine wpAnyK_ex (i := 6) rfl (by kernel_rfl) (listed' := #[true, true, true, true, true, true, true, false, false, false, false]) rfl (fun _ _ _ _ _ h => h) H9.out ?_
     apply Exists.intro
     refine ⟨⟨by kernel_rfl, fun wy hw => ?_⟩, ?_⟩
     · (have bw := hw.below; obtain ⟨f0, f1⟩ := HYY.out _ bw; go_simp; try (first | (with_reducible rfl) | (with_reducible exact ⟨rfl, rfl⟩)))
     go_simp
     refine wpAnyK_ex (i := 7) rfl (by kernel_rfl) (listed' := #[true, true, true, true, true, true, true, true, false, false, false]) rfl (fun _ _ _ _ _ h => h) H9.out ?_
     apply Exists.intro
     refine ⟨⟨by kernel_rfl, fun wy hw => ?_⟩, ?_⟩
     · (have bw := hw.below; obtain ⟨f0, f1⟩ := HYY.out _ bw; go_simp; try (first | (with_reducible rfl) | (with_reducible exact ⟨rfl, rfl⟩)))
     go_simp
     refine wpAnyK_ex (i := 8) rfl (by kernel_rfl) (listed' := #[true, true, true, true, true, true, true, true, true, false, false]) rfl (fun _ _ _ _ _ h => h) H9.out ?_
     apply Exists.intro
     refine ⟨⟨by kernel_rfl, fun wy hw => ?_⟩, ?_⟩
     · (have bw := hw.below; obtain ⟨f0, f1⟩ := HYY.out _ bw; go_simp; try (first | (with_reducible rfl) | (with_reducible exact ⟨rfl, rfl⟩)))
     go_simp
     refine wpAnyK_ex (i := 9) rfl (by kernel_rfl) (listed' := #[true, true, true, true, true, true, true, true, true, true, false]) rfl (fun _ _ _ _ _ h => h) H9.out ?_
     apply Exists.intro
     refine ⟨⟨by kernel_rfl, fun wy hw => ?_⟩, ?_⟩
     · (have bw := hw.below; obtain ⟨f0, f1⟩ := HYY.out _ bw; go_simp; try (first | (with_reducible rfl) | (with_reducible exact ⟨rfl, rfl⟩)))
     go_simp
     refine wpAnyK_end (by kernel_rfl) ?_
     try simp only [pickOps, List.filterMap_cons, List.filterMap_nil, List.getElem?_toArray, List.getElem?_cons_succ, List.getElem?_cons_zero]
     clear V8
     go_wp2_with fail
     refine NoPanic.normal ?_
     go_wp2_with fail
     go_meet
     exact ⟨rfl, rfl, H9⟩
    case rest =>
     obtain ⟨rfl, rfl, HBx⟩ := hcut
     generalize wc = wd at *
     have HAd := Lib.hid (HA.out.below HBx.out)
     have p0 := (show wd.cell? ⟨w6.heap.size, 3, none⟩ = some (.int .i64 0) from (HAd.out 3 (by simp)).1)
     have p1 := (HAd.out 3 (by simp)).2
     have hzd := HBx.out.size
     have HBd := Lib.hid (HBr.out.trans (HBx.out.mono HBr.out.size))
     clear y0 y1
     go_wp2_with fail
     go_roundw
     case rel => exact ⟨4, by decide, by go_num, Lib.hid (HAd.out.put 3 _), Lib.hid (HBd.out.setCell (Nat.le_refl _) _)⟩
     case measure => simp [RowKit.intOf]
  · skip
    have HA := Lib.hid (show CellsAt wr w6.heap.size [.int .i64 5, .int .i64 6, .int .i64 6, .int .i64 7] from HA.out)
    have hb := HBr.out
    clear y0 y1
    replace HBW := Lib.hid (HBW.out.trans ((hb).mono HBW.out.size))
    replace HB1 := Lib.hid (HB1.out.trans ((hb).mono HB1.out.size))
    replace HB3 := Lib.hid (HB3.out.trans ((hb).mono HB3.out.size))
    replace HB6 := Lib.hid (HB6.out.trans ((hb).mono HB6.out.size))
    have HBq := Lib.hid (show Below wr.heap.size wr wr from Below.refl _ _)
    clear hb
    go_wp2_with fail
    refine (HS.out _).mono ?_
    rintro e w11 ⟨v, rfl, hv, hb⟩
    replace HBW := Lib.hid (HBW.out.trans ((hb).mono HBW.out.size))
    replace HB1 := Lib.hid (HB1.out.trans ((hb).mono HB1.out.size))
    replace HB3 := Lib.hid (HB3.out.trans ((hb).mono HB3.out.size))
    replace HB6 := Lib.hid (HB6.out.trans ((hb).mono HB6.out.size))
    replace HBq := Lib.hid (HBq.out.trans ((hb).mono HBq.out.size))
    clear hb
    obtain ⟨w12, VL, ZL, KL, hb⟩ := lay8 w11 [.int .i64 0, .int .i64 1000001] 3
    have hx := (CellsAt.rn (l := [0, 1000001]) (base := w11.heap.size) KL (Nat.le_refl _) (by omega)).rl
    replace hv := hv.below hb
    replace HBW := Lib.hid (HBW.out.trans ((hb).mono HBW.out.size))
    replace HB1 := Lib.hid (HB1.out.trans ((hb).mono HB1.out.size))
    replace HB3 := Lib.hid (HB3.out.trans ((hb).mono HB3.out.size))
    replace HB6 := Lib.hid (HB6.out.trans ((hb).mono HB6.out.size))
    replace HBq := Lib.hid (HBq.out.trans ((hb).mono HBq.out.size))
    clear hb KL ZL
    go_wp2_with fail
    refine (CFD.out _ _ _ 1000001 2 0 _ (by rw [s_fV1]) (by rw [s_fV1]; rfl) s_fE1 (HRD.out _ HBW.out) hv (HL.out _ HB1.out) hx).mono ?_
    rintro e w13 ⟨adf, cpf, rfl, hb⟩
    clear hv hx VL
    replace HBW := Lib.hid (HBW.out.trans ((hb).mono HBW.out.size))
    replace HB1 := Lib.hid (HB1.out.trans ((hb).mono HB1.out.size))
    replace HB3 := Lib.hid (HB3.out.trans ((hb).mono HB3.out.size))
    replace HB6 := Lib.hid (HB6.out.trans ((hb).mono HB6.out.size))
    replace HBq := Lib.hid (HBq.out.trans ((hb).mono HBq.out.size))
    clear hb
    obtain ⟨w14, VA, ZA, KA, BA⟩ := lay8 w13 [.int .i64 0, .slice none 0 0] 50
    obtain ⟨w15, VB, KB, hb⟩ : ∃ wf, (w14.setCell ⟨w13.heap.size, 0, none⟩ (.int .i64 0)).setCell ⟨w13.heap.size, 1, none⟩ (.slice adf 2 cpf) = wf ∧ CellsAt wf w13.heap.size [.int .i64 0, .slice adf 2 cpf] ∧ Below w13.heap.size w13 wf := ⟨_, rfl, (KA.put 0 _).put 1 _, (BA.setCell (Nat.le_refl _) _).setCell (Nat.le_refl _) _⟩
    obtain ⟨g0, g0'⟩ := KA 0 (by simp); obtain ⟨g1, g1'⟩ := KA 1 (by simp)
    clear KA BA ZA
    replace HBW := Lib.hid (HBW.out.trans ((hb).mono HBW.out.size))
    replace HB1 := Lib.hid (HB1.out.trans ((hb).mono HB1.out.size))
    replace HB3 := Lib.hid (HB3.out.trans ((hb).mono HB3.out.size))
    replace HB6 := Lib.hid (HB6.out.trans ((hb).mono HB6.out.size))
    replace HBq := Lib.hid (HBq.out.trans ((hb).mono HBq.out.size))
    have HBf := Lib.hid (show Below w15.heap.size w15 w15 from Below.refl _ _)
    have HTf := Lib.hid (show ∀ W, Below w15.heap.size w15 W → W.cell? ⟨w13.heap.size, 1, none⟩ = some (.slice adf 2 cpf) from fun W b => (KB.below b 1 (by simp)).1)
    clear hb KB
    go_upto_region 15 with fail
    clear VA VB g0 g0' g1 g1'
    go_wp2_with fail
    refine (HS.out _).mono ?_
    rintro e w16 ⟨v, rfl, hv, hb⟩
    replace HBW := Lib.hid (HBW.out.trans ((hb).mono HBW.out.size))
    replace HB1 := Lib.hid (HB1.out.trans ((hb).mono HB1.out.size))
    replace HB3 := Lib.hid (HB3.out.trans ((hb).mono HB3.out.size))
    replace HB6 := Lib.hid (HB6.out.trans ((hb).mono HB6.out.size))
    replace HBq := Lib.hid (HBq.out.trans ((hb).mono HBq.out.size))
    replace HBf := Lib.hid (HBf.out.trans ((hb).mono HBf.out.size))
    clear hb
    obtain ⟨w17, VL, ZL, KL, hb⟩ := lay8 w16 [.int .i64 0, .int .i64 1000000] 3
    have hx := (CellsAt.rn (l := [0, 1000000]) (base := w16.heap.size) KL (Nat.le_refl _) (by omega)).rl
    replace hv := hv.below hb
    replace HBW := Lib.hid (HBW.out.trans ((hb).mono HBW.out.size))
    replace HB1 := Lib.hid (HB1.out.trans ((hb).mono HB1.out.size))
    replace HB3 := Lib.hid (HB3.out.trans ((hb).mono HB3.out.size))
    replace HB6 := Lib.hid (HB6.out.trans ((hb).mono HB6.out.size))
    replace HBq := Lib.hid (HBq.out.trans ((hb).mono HBq.out.size))
    replace HBf := Lib.hid (HBf.out.trans ((hb).mono HBf.out.size))
    clear hb KL ZL
    go_wp2_with fail
    refine (CFD.out _ _ _ 1000000 0 80 _ (by rw [s_fV2]) (by rw [s_fV2]; rfl) s_fE2 (HRD.out _ HBW.out) hv (HL.out _ HB1.out) hx).mono ?_
    rintro e w18 ⟨adg, cpg, rfl, hb⟩
    clear hv hx VL
    replace HBW := Lib.hid (HBW.out.trans ((hb).mono HBW.out.size))
    replace HB1 := Lib.hid (HB1.out.trans ((hb).mono HB1.out.size))
    replace HB3 := Lib.hid (HB3.out.trans ((hb).mono HB3.out.size))
    replace HB6 := Lib.hid (HB6.out.trans ((hb).mono HB6.out.size))
    replace HBq := Lib.hid (HBq.out.trans ((hb).mono HBq.out.size))
    replace HBf := Lib.hid (HBf.out.trans ((hb).mono HBf.out.size))
    clear hb
    obtain ⟨w19, VA, ZA, KA, BA⟩ := lay8 w18 [.int .i64 0, .slice none 0 0] 50
    obtain ⟨w20, VB, KB, hb⟩ : ∃ wf, (w19.setCell ⟨w18.heap.size, 0, none⟩ (.int .i64 0)).setCell ⟨w18.heap.size, 1, none⟩ (.slice adg 0 cpg) = wf ∧ CellsAt wf w18.heap.size [.int .i64 0, .slice adg 0 cpg] ∧ Below w18.heap.size w18 wf := ⟨_, rfl, (KA.put 0 _).put 1 _, (BA.setCell (Nat.le_refl _) _).setCell (Nat.le_refl _) _⟩
    obtain ⟨g0, g0'⟩ := KA 0 (by simp); obtain ⟨g1, g1'⟩ := KA 1 (by simp)
    clear KA BA ZA
    replace HBW := Lib.hid (HBW.out.trans ((hb).mono HBW.out.size))
    replace HB1 := Lib.hid (HB1.out.trans ((hb).mono HB1.out.size))
    replace HB3 := Lib.hid (HB3.out.trans ((hb).mono HB3.out.size))
    replace HB6 := Lib.hid (HB6.out.trans ((hb).mono HB6.out.size))
    replace HBq := Lib.hid (HBq.out.trans ((hb).mono HBq.out.size))
    replace HBf := Lib.hid (HBf.out.trans ((hb).mono HBf.out.size))
    have HBg := Lib.hid (show Below w20.heap.size w20 w20 from Below.refl _ _)
    have HTg := Lib.hid (show ∀ W, Below w20.heap.size w20 W → W.cell? ⟨w18.heap.size, 1, none⟩ = some (.slice adg 0 cpg) from fun W b => (KB.below b 1 (by simp)).1)
    clear hb KB
    go_upto_region 16 with fail
    clear VA VB g0 g0' g1 g1'
    go_wp2_with fail
    refine (HS.out _).mono ?_
    rintro e w21 ⟨v, rfl, hv, hb⟩
    replace HBW := Lib.hid (HBW.out.trans ((hb).mono HBW.out.size))
    replace HB1 := Lib.hid (HB1.out.trans ((hb).mono HB1.out.size))
    replace HB3 := Lib.hid (HB3.out.trans ((hb).mono HB3.out.size))
    replace HB6 := Lib.hid (HB6.out.trans ((hb).mono HB6.out.size))
    replace HBq := Lib.hid (HBq.out.trans ((hb).mono HBq.out.size))
    replace HBf := Lib.hid (HBf.out.trans ((hb).mono HBf.out.size))
    replace HBg := Lib.hid (HBg.out.trans ((hb).mono HBg.out.size))
    clear hb
    obtain ⟨w22, VL, ZL, KL, hb⟩ := lay8 w21 [.int .i64 0, .int .i64 1000001] 3
    have hx := (CellsAt.rn (l := [0, 1000001]) (base := w21.heap.size) KL (Nat.le_refl _) (by omega)).rl
    replace hv := hv.below hb
    replace HBW := Lib.hid (HBW.out.trans ((hb).mono HBW.out.size))
    replace HB1 := Lib.hid (HB1.out.trans ((hb).mono HB1.out.size))
    replace HB3 := Lib.hid (HB3.out.trans ((hb).mono HB3.out.size))
    replace HB6 := Lib.hid (HB6.out.trans ((hb).mono HB6.out.size))
    replace HBq := Lib.hid (HBq.out.trans ((hb).mono HBq.out.size))
    replace HBf := Lib.hid (HBf.out.trans ((hb).mono HBf.out.size))
    replace HBg := Lib.hid (HBg.out.trans ((hb).mono HBg.out.size))
    clear hb KL ZL
    go_wp2_with fail
    refine (CAG.out _ _ _ 1000001 1 true _ (by decide) (by decide) s_ag1 (HRD.out _ HBW.out) hv (HL.out _ HB1.out) hx).mono ?_
    rintro e w23 ⟨rfl, hb⟩
    clear hv hx VL
    replace HBW := Lib.hid (HBW.out.trans ((hb).mono HBW.out.size))
    replace HB1 := Lib.hid (HB1.out.trans ((hb).mono HB1.out.size))
    replace HB3 := Lib.hid (HB3.out.trans ((hb).mono HB3.out.size))
    replace HB6 := Lib.hid (HB6.out.trans ((hb).mono HB6.out.size))
    replace HBq := Lib.hid (HBq.out.trans ((hb).mono HBq.out.size))
    replace HBf := Lib.hid (HBf.out.trans ((hb).mono HBf.out.size))
    replace HBg := Lib.hid (HBg.out.trans ((hb).mono HBg.out.size))
    clear hb
    go_wp2_with fail
    refine (HS.out _).mono ?_
    rintro e w24 ⟨v, rfl, hv, hb⟩
    replace HBW := Lib.hid (HBW.out.trans ((hb).mono HBW.out.size))
    replace HB1 := Lib.hid (HB1.out.trans ((hb).mono HB1.out.size))
    replace HB3 := Lib.hid (HB3.out.trans ((hb).mono HB3.out.size))
    replace HB6 := Lib.hid (HB6.out.trans ((hb).mono HB6.out.size))
    replace HBq := Lib.hid (HBq.out.trans ((hb).mono HBq.out.size))
    replace HBf := Lib.hid (HBf.out.trans ((hb).mono HBf.out.size))
    replace HBg := Lib.hid (HBg.out.trans ((hb).mono HBg.out.size))
    clear hb
    obtain ⟨w25, VL, ZL, KL, hb⟩ := lay8 w24 [.int .i64 0, .int .i64 1000000] 3
    have hx := (CellsAt.rn (l := [0, 1000000]) (base := w24.heap.size) KL (Nat.le_refl _) (by omega)).rl
    replace hv := hv.below hb
    replace HBW := Lib.hid (HBW.out.trans ((hb).mono HBW.out.size))
    replace HB1 := Lib.hid (HB1.out.trans ((hb).mono HB1.out.size))
    replace HB3 := Lib.hid (HB3.out.trans ((hb).mono HB3.out.size))
    replace HB6 := Lib.hid (HB6.out.trans ((hb).mono HB6.out.size))
    replace HBq := Lib.hid (HBq.out.trans ((hb).mono HBq.out.size))
    replace HBf := Lib.hid (HBf.out.trans ((hb).mono HBf.out.size))
    replace HBg := Lib.hid (HBg.out.trans ((hb).mono HBg.out.size))
    clear hb KL ZL
    go_wp2_with fail
    refine (CAG.out _ _ _ 1000000 1 false _ (by decide) (by decide) s_ag2 (HRD.out _ HBW.out) hv (HL.out _ HB1.out) hx).mono ?_
    rintro e w26 ⟨rfl, hb⟩
    clear hv hx VL
    replace HBW := Lib.hid (HBW.out.trans ((hb).mono HBW.out.size))
    replace HB1 := Lib.hid (HB1.out.trans ((hb).mono HB1.out.size))
    replace HB3 := Lib.hid (HB3.out.trans ((hb).mono HB3.out.size))
    replace HB6 := Lib.hid (HB6.out.trans ((hb).mono HB6.out.size))
    replace HBq := Lib.hid (HBq.out.trans ((hb).mono HBq.out.size))
    replace HBf := Lib.hid (HBf.out.trans ((hb).mono HBf.out.size))
    replace HBg := Lib.hid (HBg.out.trans ((hb).mono HBg.out.size))
    clear hb
    go_wp2_with fail
    refine (HS.out _).mono ?_
    rintro e w27 ⟨v, rfl, hv, hb⟩
    replace HBW := Lib.hid (HBW.out.trans ((hb).mono HBW.out.size))
    replace HB1 := Lib.hid (HB1.out.trans ((hb).mono HB1.out.size))
    replace HB3 := Lib.hid (HB3.out.trans ((hb).mono HB3.out.size))
    replace HB6 := Lib.hid (HB6.out.trans ((hb).mono HB6.out.size))
    replace HBq := Lib.hid (HBq.out.trans ((hb).mono HBq.out.size))
    replace HBf := Lib.hid (HBf.out.trans ((hb).mono HBf.out.size))
    replace HBg := Lib.hid (HBg.out.trans ((hb).mono HBg.out.size))
    clear hb
    obtain ⟨w28, VL, ZL, KL, hb⟩ := lay8 w27 [.int .i64 0, .int .i64 3000000] 3
    have hx := (CellsAt.rn (l := [0, 3000000]) (base := w27.heap.size) KL (Nat.le_refl _) (by omega)).rl
    replace hv := hv.below hb
    replace HBW := Lib.hid (HBW.out.trans ((hb).mono HBW.out.size))
    replace HB1 := Lib.hid (HB1.out.trans ((hb).mono HB1.out.size))
    replace HB3 := Lib.hid (HB3.out.trans ((hb).mono HB3.out.size))
    replace HB6 := Lib.hid (HB6.out.trans ((hb).mono HB6.out.size))
    replace HBq := Lib.hid (HBq.out.trans ((hb).mono HBq.out.size))
    replace HBf := Lib.hid (HBf.out.trans ((hb).mono HBf.out.size))
    replace HBg := Lib.hid (HBg.out.trans ((hb).mono HBg.out.size))
    clear hb KL ZL
    go_wp2_with fail
    refine (CAG.out _ _ _ 3000000 1 false _ (by decide) (by decide) s_ag3 (HRD.out _ HBW.out) hv (HL.out _ HB1.out) hx).mono ?_
    rintro e w29 ⟨rfl, hb⟩
    clear hv hx VL
    replace HBW := Lib.hid (HBW.out.trans ((hb).mono HBW.out.size))
    replace HB1 := Lib.hid (HB1.out.trans ((hb).mono HB1.out.size))
    replace HB3 := Lib.hid (HB3.out.trans ((hb).mono HB3.out.size))
    replace HB6 := Lib.hid (HB6.out.trans ((hb).mono HB6.out.size))
    replace HBq := Lib.hid (HBq.out.trans ((hb).mono HBq.out.size))
    replace HBf := Lib.hid (HBf.out.trans ((hb).mono HBf.out.size))
    replace HBg := Lib.hid (HBg.out.trans ((hb).mono HBg.out.size))
    clear hb
    go_wp2_with fail
    refine (HS.out _).mono ?_
    rintro e w30 ⟨v, rfl, hv, hb⟩
    replace HBW := Lib.hid (HBW.out.trans ((hb).mono HBW.out.size))
    replace HB1 := Lib.hid (HB1.out.trans ((hb).mono HB1.out.size))
    replace HB3 := Lib.hid (HB3.out.trans ((hb).mono HB3.out.size))
    replace HB6 := Lib.hid (HB6.out.trans ((hb).mono HB6.out.size))
    replace HBq := Lib.hid (HBq.out.trans ((hb).mono HBq.out.size))
    replace HBf := Lib.hid (HBf.out.trans ((hb).mono HBf.out.size))
    replace HBg := Lib.hid (HBg.out.trans ((hb).mono HBg.out.size))
    clear hb
    obtain ⟨w31, VL, ZL, KL, hb⟩ := lay8 w30 [.int .i64 0, .int .i64 0] 3
    have hx := (CellsAt.rn (l := [0, 0]) (base := w30.heap.size) KL (Nat.le_refl _) (by omega)).rl
    replace hv := hv.below hb
    replace HBW := Lib.hid (HBW.out.trans ((hb).mono HBW.out.size))
    replace HB1 := Lib.hid (HB1.out.trans ((hb).mono HB1.out.size))
    replace HB3 := Lib.hid (HB3.out.trans ((hb).mono HB3.out.size))
    replace HB6 := Lib.hid (HB6.out.trans ((hb).mono HB6.out.size))
    replace HBq := Lib.hid (HBq.out.trans ((hb).mono HBq.out.size))
    replace HBf := Lib.hid (HBf.out.trans ((hb).mono HBf.out.size))
    replace HBg := Lib.hid (HBg.out.trans ((hb).mono HBg.out.size))
    clear hb KL ZL
    go_wp2_with fail
    refine (CAG.out _ _ _ 0 0 true _ (by decide) (by decide) s_ag4 (HRD.out _ HBW.out) hv (HL.out _ HB1.out) hx).mono ?_
    rintro e w32 ⟨rfl, hb⟩
    clear hv hx VL
    replace HBW := Lib.hid (HBW.out.trans ((hb).mono HBW.out.size))
    replace HB1 := Lib.hid (HB1.out.trans ((hb).mono HB1.out.size))
    replace HB3 := Lib.hid (HB3.out.trans ((hb).mono HB3.out.size))
    replace HB6 := Lib.hid (HB6.out.trans ((hb).mono HB6.out.size))
    replace HBq := Lib.hid (HBq.out.trans ((hb).mono HBq.out.size))
    replace HBf := Lib.hid (HBf.out.trans ((hb).mono HBf.out.size))
    replace HBg := Lib.hid (HBg.out.trans ((hb).mono HBg.out.size))
    clear hb
    obtain ⟨⟨a0, a1, a2, a3⟩, ⟨a4, a5, a6, a7⟩⟩ := HC3.out w32 HB3.out
    have i0 := (show ∀ W, (Instr.indexAt 36 (.slice (some ⟨cb, co, none⟩) 2 c3) (.int .i64 0)).run Tryd.prog W = .ok (.pointer (some ⟨cb, co, none⟩)) W from fun W => at_c4 cb co 2 c3 0 (by decide) W)
    have i1 := (show ∀ W, (Instr.indexAt 36 (.slice (some ⟨cb, co, none⟩) 2 c3) (.int .i64 1)).run Tryd.prog W = .ok (.pointer (some ⟨cb, co + 4, none⟩)) W from fun W => at_c4 cb co 2 c3 1 (by decide) W)
    have i2 := (show ∀ W, (Instr.indexAt 25 (.slice (some ⟨w.heap.size, 0, none⟩) 2 2) (.int .i64 0)).run Tryd.prog W = .ok (.pointer (some ⟨w.heap.size, 0, none⟩)) W from fun W => at_ev8 w.heap.size 0 2 2 0 (by decide) W)
    have i3 := (show ∀ W, (Instr.indexAt 25 (.slice (some ⟨w.heap.size, 0, none⟩) 2 2) (.int .i64 1)).run Tryd.prog W = .ok (.pointer (some ⟨w.heap.size, 12, none⟩)) W from fun W => at_ev8 w.heap.size 0 2 2 1 (by decide) W)
    have q0 := (show ∀ W, (Op.equalIn 10000 64 (.agg #[.int .i64 1, .int .i64 0, .int .i64 (-1000001), .int .i64 1]) (.agg #[.int .i64 1, .int .i64 0, .int .i64 (-1000001), .int .i64 1])).run Tryd.prog W = .ok true W from fun W => (eq_c4 _ _ _ _ _ _ _ _ W).trans (by simp))
    have q1 := (show ∀ W, (Op.equalIn 10000 64 (.agg #[.int .i64 0, .int .i64 1, .int .i64 2999999, .int .i64 1]) (.agg #[.int .i64 0, .int .i64 1, .int .i64 2999999, .int .i64 1])).run Tryd.prog W = .ok true W from fun W => (eq_c4 _ _ _ _ _ _ _ _ W).trans (by simp))
    go_upto_region 18 with fail
    clear a0 a1 a2 a3 a4 a5 a6 a7 i0 i1 q0 q1
    have hz := HBW.out.size
    have HLX := Lib.hid (show ∀ W, Below w32.heap.size w32 W → RL KE W (some ⟨w.heap.size, 0, none⟩) [sE0, sE1] from fun W b => HL.out W (HB1.out.trans (b.mono HB1.out.size)))
    have HEX := Lib.hid (show ∀ W, Below w32.heap.size w32 W → CellsAt W w.heap.size [.int .i64 0, .int .i64 0, .int .i64 5, .int .i64 1, .int .i64 0, .int .i64 0, .int .i64 (-1), .int .i64 0, .int .i64 0, .int .i64 0, .int .i64 0, .int .i64 0, .int .i64 0, .int .i64 1, .int .i64 7, .int .i64 2, .int .i64 0, .int .i64 0, .int .i64 0, .int .i64 0, .int .i64 0, .int .i64 0, .int .i64 0, .int .i64 0] from fun W b => HE.out W (HB1.out.trans (b.mono HB1.out.size)))
    have HAX := Lib.hid (show ∀ W, Below w32.heap.size w32 W → CellsAt W w6.heap.size [.int .i64 5, .int .i64 6, .int .i64 6, .int .i64 7] from fun W b => HA.out.below (HBq.out.trans (b.mono HBq.out.size)))
    have HKX := Lib.hid (show ∀ W, Below w32.heap.size w32 W → CellsAt W (w3.heap.size + 1) [.int .i64 0, .slice (some ⟨w3.heap.size, 0, none⟩) 1 1] from fun W b => HK6.out.below (HB6.out.trans (b.mono HB6.out.size)))
    have HRX := Lib.hid (show ∀ W, Below w32.heap.size w32 W → RL KA W (some ⟨w3.heap.size, 0, none⟩) [⟨6, 1⟩] from fun W b => HR6.out.below (HB6.out.trans (b.mono HB6.out.size)))
    have HRY := Lib.hid (fun W (b : Below w32.heap.size w32 W) => HRD.out W (HBW.out.trans (b.mono HBW.out.size)))
    have HTX := Lib.hid (fun W (b : Below w32.heap.size w32 W) => HTf.out W (HBf.out.trans (b.mono HBf.out.size)))
    clear HL HE HA HK6 HR6 HTf HB1 HB3 HB6 HBq HBf HBg HTg HC3 HBr CCO CAG CFD CRD
    refine wp_region_noPanic ?_
    refine wp_region_Kx (C := NewB w32) [69] 69 #[false, false, false, false, false, false, false, false, false, false, false, false, false, false, false, false, false, false, false, false, false, false, false, false, false, false, false, false, false, false, false, false, false, false, false, false, false, false, false, false, false, false, false, false, false, false, false, false, false, false, false, false, false, false, false, false, false, false, false, false, false, false, false, false, false, false, false, false, false, false] (by kernel_rfl) (by kernel_rfl) (by kernel_rfl) (newB0 _) ?_
    intro wx hwx
    have HX0 := Lib.hid hwx.below
    refine wpAnyK_ex (i := 0) rfl (by kernel_rfl) (listed' := #[true, false, false, false, false, false, false, false, false, false, false, false, false, false, false, false, false, false, false, false, false, false, false, false, false, false, false, false, false, false, false, false, false, false, false, false, false, false, false, false, false, false, false, false, false, false, false, false, false, false, false, false, false, false, false, false, false, false, false, false, false, false, false, false, false, false, false, false, false, false]) rfl (fun _ _ _ _ _ h => h) hwx ?_
    apply Exists.intro
    refine ⟨⟨by kernel_rfl, fun wy hw => ?_⟩, ?_⟩
    · (have bw := hw.below; go_simp; try (first | (with_reducible rfl) | (with_reducible exact ⟨rfl, rfl⟩)))
    go_simp
    refine wpAnyK_ex (i := 1) rfl (by kernel_rfl) (listed' := #[true, true, false, false, false, false, false, false, false, false, false, false, false, false, false, false, false, false, false, false, false, false, false, false, false, false, false, false, false, false, false, false, false, false, false, false, false, false, false, false, false, false, false, false, false, false, false, false, false, false, false, false, false, false, false, false, false, false, false, false, false, false, false, false, false, false, false, false, false, false]) rfl (fun _ _ _ _ _ h => h) hwx ?_
    apply Exists.intro
    refine ⟨⟨by kernel_rfl, fun wy hw => ?_⟩, ?_⟩
    · (have bw := hw.below; go_simp; try (first | (with_reducible rfl) | (with_reducible exact ⟨rfl, rfl⟩)))
    go_simp
    refine wpAnyK_ex (i := 2) rfl (by kernel_rfl) (listed' := #[true, true, true, false, false, false, false, false, false, false, false, false, false, false, false, false, false, false, false, false, false, false, false, false, false, false, false, false, false, false, false, false, false, false, false, false, false, false, false, false, false, false, false, false, false, false, false, false, false, false, false, false, false, false, false, false, false, false, false, false, false, false, false, false, false, false, false, false, false, false]) rfl (fun _ _ _ _ _ h => h) hwx ?_
    apply Exists.intro
    refine ⟨⟨by kernel_rfl, fun wy hw => ?_⟩, ?_⟩
    · (have bw := hw.below; go_simp; try (first | (with_reducible rfl) | (with_reducible exact ⟨rfl, rfl⟩)))
    go_simp
    refine wpAnyK_ex (i := 3) rfl (by kernel_rfl) (listed' := #[true, true, true, true, false, false, false, false, false, false, false, false, false, false, false, false, false, false, false, false, false, false, false, false, false, false, false, false, false, false, false, false, false, false, false, false, false, false, false, false, false, false, false, false, false, false, false, false, false, false, false, false, false, false, false, false, false, false, false, false, false, false, false, false, false, false, false, false, false, false]) rfl (fun _ _ _ _ _ h => h) hwx ?_
    apply Exists.intro
    refine ⟨⟨by kernel_rfl, fun wy hw => ?_⟩, ?_⟩
    · (have bw := hw.below; go_simp; try (first | (with_reducible rfl) | (with_reducible exact ⟨rfl, rfl⟩)))
    go_simp
    refine wpAnyK_ex (i := 4) rfl (by kernel_rfl) (listed' := #[true, true, true, true, true, false, false, false, false, false, false, false, false, false, false, false, false, false, false, false, false, false, false, false, false, false, false, false, false, false, false, false, false, false, false, false, false, false, false, false, false, false, false, false, false, false, false, false, false, false, false, false, false, false, false, false, false, false, false, false, false, false, false, false, false, false, false, false, false, false]) rfl (fun _ _ _ _ _ h => h) hwx ?_
    apply Exists.intro
    refine ⟨⟨by kernel_rfl, fun wy hw => ?_⟩, ?_⟩
    · (have bw := hw.below; go_simp; try (first | (with_reducible rfl) | (with_reducible exact ⟨rfl, rfl⟩)))
    go_simp
    refine wpAnyK_ex (i := 5) rfl (by kernel_rfl) (listed' := #[true, true, true, true, true, true, false, false, false, false, false, false, false, false, false, false, false, false, false, false, false, false, false, false, false, false, false, false, false, false, false, false, false, false, false, false, false, false, false, false, false, false, false, false, false, false, false, false, false, false, false, false, false, false, false, false, false, false, false, false, false, false, false, false, false, false, false, false, false, false]) rfl (fun _ _ _ _ _ h => h) hwx ?_
    apply Exists.intro
    refine ⟨⟨by kernel_rfl, fun wy hw => ?_⟩, ?_⟩
    · (have bw := hw.below; have t0 := (show wy.cell? ⟨w6.heap.size, 0, none⟩ = some (.int .i64 5) from (HAX.out _ bw 0 (by simp)).1); have t1 := (show wy.cell? ⟨w6.heap.size, 1, none⟩ = some (.int .i64 6) from (HAX.out _ bw 1 (by simp)).1); have t2 := (show wy.cell? ⟨w6.heap.size, 2, none⟩ = some (.int .i64 6) from (HAX.out _ bw 2 (by simp)).1); have t3 := (show wy.cell? ⟨w6.heap.size, 3, none⟩ = some (.int .i64 7) from (HAX.out _ bw 3 (by simp)).1); go_simp; try (first | (with_reducible rfl) | (with_reducible exact ⟨rfl, rfl⟩)))
    go_simp
    refine wpAnyK_ex (i := 6) rfl (by kernel_rfl) (listed' := #[true, true, true, true, true, true, true, false, false, false, false, false, false, false, false, false, false, false, false, false, false, false, false, false, false, false, false, false, false, false, false, false, false, false, false, false, false, false, false, false, false, false, false, false, false, false, false, false, false, false, false, false, false, false, false, false, false, false, false, false, false, false, false, false, false, false, false, false, false, false]) rfl (fun _ _ _ _ _ h => h) hwx ?_
    apply Exists.intro
    refine ⟨⟨by kernel_rfl, fun wy hw => ?_⟩, ?_⟩
    · (have bw := hw.below; go_simp; try (first | (with_reducible rfl) | (with_reducible exact ⟨rfl, rfl⟩)))
    go_simp
    refine wpAnyK_ex (i := 7) rfl (by kernel_rfl) (listed' := #[true, true, true, true, true, true, true, true, false, false, false, false, false, false, false, false, false, false, false, false, false, false, false, false, false, false, false, false, false, false, false, false, false, false, false, false, false, false, false, false, false, false, false, false, false, false, false, false, false, false, false, false, false, false, false, false, false, false, false, false, false, false, false, false, false, false, false, false, false, false]) rfl (fun _ _ _ _ _ h => h) hwx ?_
    apply Exists.intro
    refine ⟨⟨by kernel_rfl, fun wy hw => ?_⟩, ?_⟩
    · (have bw := hw.below; have q2 := eq_four 5 6 6 7 wy; go_simp; try (first | (with_reducible rfl) | (with_reducible exact ⟨rfl, rfl⟩)))
    go_simp
    refine wpAnyK_ex (i := 8) rfl (by kernel_rfl) (listed' := #[true, true, true, true, true, true, true, true, true, false, false, false, false, false, false, false, false, false, false, false, false, false, false, false, false, false, false, false, false, false, false, false, false, false, false, false, false, false, false, false, false, false, false, false, false, false, false, false, false, false, false, false, false, false, false, false, false, false, false, false, false, false, false, false, false, false, false, false, false, false]) rfl (fun _ _ _ _ _ h => h) hwx ?_
    apply Exists.intro
    refine ⟨⟨by kernel_rfl, fun wy hw => ?_⟩, ?_⟩
    · (have bw := hw.below; go_simp; try (first | (with_reducible rfl) | (with_reducible exact ⟨rfl, rfl⟩)))
    go_simp
    refine wpAnyK_ex (i := 9) rfl (by kernel_rfl) (listed' := #[true, true, true, true, true, true, true, true, true, true, false, false, false, false, false, false, false, false, false, false, false, false, false, false, false, false, false, false, false, false, false, false, false, false, false, false, false, false, false, false, false, false, false, false, false, false, false, false, false, false, false, false, false, false, false, false, false, false, false, false, false, false, false, false, false, false, false, false, false, false]) rfl (fun _ _ _ _ _ h => h) hwx ?_
    apply Exists.intro
    refine ⟨⟨by kernel_rfl, fun wy hw => ?_⟩, ?_⟩
    · (have bw := hw.below; go_simp; try (first | (with_reducible rfl) | (with_reducible exact ⟨rfl, rfl⟩)))
    go_simp
    refine wpAnyK_ex (i := 10) rfl (by kernel_rfl) (listed' := #[true, true, true, true, true, true, true, true, true, true, true, false, false, false, false, false, false, false, false, false, false, false, false, false, false, false, false, false, false, false, false, false, false, false, false, false, false, false, false, false, false, false, false, false, false, false, false, false, false, false, false, false, false, false, false, false, false, false, false, false, false, false, false, false, false, false, false, false, false, false]) rfl (fun _ _ _ _ _ h => h) hwx ?_
    apply Exists.intro
    refine ⟨⟨by kernel_rfl, fun wy hw => ?_⟩, ?_⟩
    · (have bw := hw.below; go_simp; try (first | (with_reducible rfl) | (with_reducible exact ⟨rfl, rfl⟩)))
    go_simp
    refine wpAnyK_ex (i := 11) rfl (by kernel_rfl) (listed' := #[true, true, true, true, true, true, true, true, true, true, true, true, false, false, false, false, false, false, false, false, false, false, false, false, false, false, false, false, false, false, false, false, false, false, false, false, false, false, false, false, false, false, false, false, false, false, false, false, false, false, false, false, false, false, false, false, false, false, false, false, false, false, false, false, false, false, false, false, false, false]) rfl (fun _ _ _ _ _ h => h) hwx ?_
    apply Exists.intro
    refine ⟨⟨by kernel_rfl, fun wy hw => ?_⟩, ?_⟩
    · (have bw := hw.below; go_simp; try (first | (with_reducible rfl) | (with_reducible exact ⟨rfl, rfl⟩)))
    go_simp
    refine wpAnyK_ex (i := 12) rfl (by kernel_rfl) (listed' := #[true, true, true, true, true, true, true, true, true, true, true, true, true, false, false, false, false, false, false, false, false, false, false, false, false, false, false, false, false, false, false, false, false, false, false, false, false, false, false, false, false, false, false, false, false, false, false, false, false, false, false, false, false, false, false, false, false, false, false, false, false, false, false, false, false, false, false, false, false, false]) rfl (fun _ _ _ _ _ h => h) hwx ?_
    apply Exists.intro
    refine ⟨⟨by kernel_rfl, fun wy hw => ?_⟩, ?_⟩
    · (have bw := hw.below; go_simp; try (first | (with_reducible rfl) | (with_reducible exact ⟨rfl, rfl⟩)))
    go_simp
    refine wpAnyK_ex (i := 13) rfl (by kernel_rfl) (listed' := #[true, true, true, true, true, true, true, true, true, true, true, true, true, true, false, false, false, false, false, false, false, false, false, false, false, false, false, false, false, false, false, false, false, false, false, false, false, false, false, false, false, false, false, false, false, false, false, false, false, false, false, false, false, false, false, false, false, false, false, false, false, false, false, false, false, false, false, false, false, false]) rfl (fun _ _ _ _ _ h => h) hwx ?_
    apply Exists.intro
    refine ⟨⟨by kernel_rfl, fun wy hw => ?_⟩, ?_⟩
    · (have bw := hw.below; go_simp; try (first | (with_reducible rfl) | (with_reducible exact ⟨rfl, rfl⟩)))
    go_simp
    refine wpAnyK_ex (i := 14) rfl (by kernel_rfl) (listed' := #[true, true, true, true, true, true, true, true, true, true, true, true, true, true, true, false, false, false, false, false, false, false, false, false, false, false, false, false, false, false, false, false, false, false, false, false, false, false, false, false, false, false, false, false, false, false, false, false, false, false, false, false, false, false, false, false, false, false, false, false, false, false, false, false, false, false, false, false, false, false]) rfl (fun _ _ _ _ _ h => h) hwx ?_
    apply Exists.intro
    refine ⟨⟨by kernel_rfl, fun wy hw => ?_⟩, ?_⟩
    · (have bw := hw.below; go_simp; try (first | (with_reducible rfl) | (with_reducible exact ⟨rfl, rfl⟩)))
    go_simp
    refine wpAnyK_ex (i := 15) rfl (by kernel_rfl) (listed' := #[true, true, true, true, true, true, true, true, true, true, true, true, true, true, true, true, false, false, false, false, false, false, false, false, false, false, false, false, false, false, false, false, false, false, false, false, false, false, false, false, false, false, false, false, false, false, false, false, false, false, false, false, false, false, false, false, false, false, false, false, false, false, false, false, false, false, false, false, false, false]) rfl (fun _ _ _ _ _ h => h) hwx ?_
    apply Exists.intro
    refine ⟨⟨by kernel_rfl, fun wy hw => ?_⟩, ?_⟩
    · (have bw := hw.below; have t4 := HTX.out _ bw; go_simp; try (first | (with_reducible rfl) | (with_reducible exact ⟨rfl, rfl⟩)))
    go_simp
    refine wpAnyK_ex (i := 16) rfl (by kernel_rfl) (listed' := #[true, true, true, true, true, true, true, true, true, true, true, true, true, true, true, true, true, false, false, false, false, false, false, false, false, false, false, false, false, false, false, false, false, false, false, false, false, false, false, false, false, false, false, false, false, false, false, false, false, false, false, false, false, false, false, false, false, false, false, false, false, false, false, false, false, false, false, false, false, false]) rfl (fun _ _ _ _ _ h => h) hwx ?_
    apply Exists.intro
    refine ⟨⟨by kernel_rfl, fun wy hw => ?_⟩, ?_⟩
    · (have bw := hw.below; go_simp; try (first | (with_reducible rfl) | (with_reducible exact ⟨rfl, rfl⟩)))
    go_simp
    refine wpAnyK_ex (i := 17) rfl (by kernel_rfl) (listed' := #[true, true, true, true, true, true, true, true, true, true, true, true, true, true, true, true, true, true, false, false, false, false, false, false, false, false, false, false, false, false, false, false, false, false, false, false, false, false, false, false, false, false, false, false, false, false, false, false, false, false, false, false, false, false, false, false, false, false, false, false, false, false, false, false, false, false, false, false, false, false]) rfl (fun _ _ _ _ _ h => h) hwx ?_
    apply Exists.intro
    refine ⟨⟨by kernel_rfl, fun wy hw => ?_⟩, ?_⟩
    · (have bw := hw.below; go_simp; try (first | (with_reducible rfl) | (with_reducible exact ⟨rfl, rfl⟩)))
    go_simp
    refine wpAnyK_ex (i := 18) rfl (by kernel_rfl) (listed' := #[true, true, true, true, true, true, true, true, true, true, true, true, true, true, true, true, true, true, true, false, false, false, false, false, false, false, false, false, false, false, false, false, false, false, false, false, false, false, false, false, false, false, false, false, false, false, false, false, false, false, false, false, false, false, false, false, false, false, false, false, false, false, false, false, false, false, false, false, false, false]) rfl (fun _ _ _ _ _ h => h) hwx ?_
    apply Exists.intro
    refine ⟨⟨by kernel_rfl, fun wy hw => ?_⟩, ?_⟩
    · (have bw := hw.below; go_simp; try (first | (with_reducible rfl) | (with_reducible exact ⟨rfl, rfl⟩)))
    go_simp
    refine wpAnyK_ex (i := 19) rfl (by kernel_rfl) (listed' := #[true, true, true, true, true, true, true, true, true, true, true, true, true, true, true, true, true, true, true, true, false, false, false, false, false, false, false, false, false, false, false, false, false, false, false, false, false, false, false, false, false, false, false, false, false, false, false, false, false, false, false, false, false, false, false, false, false, false, false, false, false, false, false, false, false, false, false, false, false, false]) rfl (fun _ _ _ _ _ h => h) hwx ?_
    apply Exists.intro
    refine ⟨⟨by kernel_rfl, fun wy hw => ?_⟩, ?_⟩
    · (have bw := hw.below; go_simp; try (first | (with_reducible rfl) | (with_reducible exact ⟨rfl, rfl⟩)))
    go_simp
    refine wpAnyK_ex (i := 20) rfl (by kernel_rfl) (listed' := #[true, true, true, true, true, true, true, true, true, true, true, true, true, true, true, true, true, true, true, true, true, false, false, false, false, false, false, false, false, false, false, false, false, false, false, false, false, false, false, false, false, false, false, false, false, false, false, false, false, false, false, false, false, false, false, false, false, false, false, false, false, false, false, false, false, false, false, false, false, false]) rfl (fun _ _ _ _ _ h => h) hwx ?_
    apply Exists.intro
    refine ⟨⟨by kernel_rfl, fun wy hw => ?_⟩, ?_⟩
    · (have bw := hw.below; go_simp; try (first | (with_reducible rfl) | (with_reducible exact ⟨rfl, rfl⟩)))
    go_simp
    refine wpAnyK_ex (i := 21) rfl (by kernel_rfl) (listed' := #[true, true, true, true, true, true, true, true, true, true, true, true, true, true, true, true, true, true, true, true, true, true, false, false, false, false, false, false, false, false, false, false, false, false, false, false, false, false, false, false, false, false, false, false, false, false, false, false, false, false, false, false, false, false, false, false, false, false, false, false, false, false, false, false, false, false, false, false, false, false]) rfl (fun _ _ _ _ _ h => h) hwx ?_
    apply Exists.intro
    refine ⟨⟨by kernel_rfl, fun wy hw => ?_⟩, ?_⟩
    · (have bw := hw.below; go_simp; try (first | (with_reducible rfl) | (with_reducible exact ⟨rfl, rfl⟩)))
    go_simp
    refine wpAnyK_ex (i := 22) rfl (by kernel_rfl) (listed' := #[true, true, true, true, true, true, true, true, true, true, true, true, true, true, true, true, true, true, true, true, true, true, true, false, false, false, false, false, false, false, false, false, false, false, false, false, false, false, false, false, false, false, false, false, false, false, false, false, false, false, false, false, false, false, false, false, false, false, false, false, false, false, false, false, false, false, false, false, false, false]) rfl (fun _ _ _ _ _ h => h) hwx ?_
    apply Exists.intro
    refine ⟨⟨by kernel_rfl, fun wy hw => ?_⟩, ?_⟩
    · (have bw := hw.below; go_simp; try (first | (with_reducible rfl) | (with_reducible exact ⟨rfl, rfl⟩)))
    go_simp
    refine wpAnyK_ex (i := 23) rfl (by kernel_rfl) (listed' := #[true, true, true, true, true, true, true, true, true, true, true, true, true, true, true, true, true, true, true, true, true, true, true, true, false, false, false, false, false, false, false, false, false, false, false, false, false, false, false, false, false, false, false, false, false, false, false, false, false, false, false, false, false, false, false, false, false, false, false, false, false, false, false, false, false, false, false, false, false, false]) rfl (fun _ _ _ _ _ h => h) hwx ?_
    apply Exists.intro
    refine ⟨⟨by kernel_rfl, fun wy hw => ?_⟩, ?_⟩
    · (have bw := hw.below; go_simp; try (first | (with_reducible rfl) | (with_reducible exact ⟨rfl, rfl⟩)))
    go_simp
    refine wpAnyK_ex (i := 24) rfl (by kernel_rfl) (listed' := #[true, true, true, true, true, true, true, true, true, true, true, true, true, true, true, true, true, true, true, true, true, true, true, true, true, false, false, false, false, false, false, false, false, false, false, false, false, false, false, false, false, false, false, false, false, false, false, false, false, false, false, false, false, false, false, false, false, false, false, false, false, false, false, false, false, false, false, false, false, false]) rfl (fun _ _ _ _ _ h => h) hwx ?_
    apply Exists.intro
    refine ⟨⟨by kernel_rfl, fun wy hw => ?_⟩, ?_⟩
    · (have bw := hw.below; go_simp; try (first | (with_reducible rfl) | (with_reducible exact ⟨rfl, rfl⟩)))
    go_simp
    refine wpAnyK_ex (i := 25) rfl (by kernel_rfl) (listed' := #[true, true, true, true, true, true, true, true, true, true, true, true, true, true, true, true, true, true, true, true, true, true, true, true, true, true, false, false, false, false, false, false, false, false, false, false, false, false, false, false, false, false, false, false, false, false, false, false, false, false, false, false, false, false, false, false, false, false, false, false, false, false, false, false, false, false, false, false, false, false]) rfl (fun _ _ _ _ _ h => h) hwx ?_
    apply Exists.intro
    refine ⟨⟨by kernel_rfl, fun wy hw => ?_⟩, ?_⟩
    · (have bw := hw.below; go_simp; try (first | (with_reducible rfl) | (with_reducible exact ⟨rfl, rfl⟩)))
    go_simp
    refine wpAnyK_ex (i := 26) rfl (by kernel_rfl) (listed' := #[true, true, true, true, true, true, true, true, true, true, true, true, true, true, true, true, true, true, true, true, true, true, true, true, true, true, true, false, false, false, false, false, false, false, false, false, false, false, false, false, false, false, false, false, false, false, false, false, false, false, false, false, false, false, false, false, false, false, false, false, false, false, false, false, false, false, false, false, false, false]) rfl (fun _ _ _ _ _ h => h) hwx ?_
    apply Exists.intro
    refine ⟨⟨by kernel_rfl, fun wy hw => ?_⟩, ?_⟩
    · (have bw := hw.below; have e0 := (show wy.cell? ⟨w.heap.size, 0, none⟩ = some (.int .i64 0) from (HEX.out _ bw 0 (by simp)).1); have e1 := (show wy.cell? ⟨w.heap.size, 1, none⟩ = some (.int .i64 0) from (HEX.out _ bw 1 (by simp)).1); have e2 := (show wy.cell? ⟨w.heap.size, 2, none⟩ = some (.int .i64 5) from (HEX.out _ bw 2 (by simp)).1); have e3 := (show wy.cell? ⟨w.heap.size, 3, none⟩ = some (.int .i64 1) from (HEX.out _ bw 3 (by simp)).1); have e4 := (show wy.cell? ⟨w.heap.size, 4, none⟩ = some (.int .i64 0) from (HEX.out _ bw 4 (by simp)).1); have e5 := (show wy.cell? ⟨w.heap.size, 5, none⟩ = some (.int .i64 0) from (HEX.out _ bw 5 (by simp)).1); have e6 := (show wy.cell? ⟨w.heap.size, 6, none⟩ = some (.int .i64 (-1)) from (HEX.out _ bw 6 (by simp)).1); have e7 := (show wy.cell? ⟨w.heap.size, 7, none⟩ = some (.int .i64 0) from (HEX.out _ bw 7 (by simp)).1); have e8 := (show wy.cell? ⟨w.heap.size, 8, none⟩ = some (.int .i64 0) from (HEX.out _ bw 8 (by simp)).1); have e9 := (show wy.cell? ⟨w.heap.size, 9, none⟩ = some (.int .i64 0) from (HEX.out _ bw 9 (by simp)).1); have e10 := (show wy.cell? ⟨w.heap.size, 10, none⟩ = some (.int .i64 0) from (HEX.out _ bw 10 (by simp)).1); have e11 := (show wy.cell? ⟨w.heap.size, 11, none⟩ = some (.int .i64 0) from (HEX.out _ bw 11 (by simp)).1); go_simp; try (first | (with_reducible rfl) | (with_reducible exact ⟨rfl, rfl⟩)))
    go_simp
    refine wpAnyK_fork1 27 (by kernel_rfl) ?_
    refine wpOpK_step rfl (by kernel_rfl) (listed' := #[true, true, true, true, true, true, true, true, true, true, true, true, true, true, true, true, true, true, true, true, true, true, true, true, true, true, true, true, false, false, false, false, false, false, false, false, false, false, false, false, false, false, false, false, false, false, false, false, false, false, false, false, false, false, false, false, false, false, false, false, false, false, false, false, false, false, false, false, false, false]) rfl (by kernel_rfl) (fun K hK => ?_)
    go_simp
    refine (CEV.out _ (HRY.out _ HX0.out)).mono ?_
    rintro e x1 ⟨rfl, hb⟩
    have HX1 := Lib.hid (HX0.out.trans (hb.mono HX0.out.size))
    refine hK _ _ HX1.out ?_
    clear hK K
    go_simp
    clear hb
    refine wpAnyK_ex (i := 28) rfl (by kernel_rfl) (listed' := #[true, true, true, true, true, true, true, true, true, true, true, true, true, true, true, true, true, true, true, true, true, true, true, true, true, true, true, true, true, false, false, false, false, false, false, false, false, false, false, false, false, false, false, false, false, false, false, false, false, false, false, false, false, false, false, false, false, false, false, false, false, false, false, false, false, false, false, false, false, false]) rfl (fun _ _ _ _ _ h => h) HX1.out ?_
    apply Exists.intro
    refine ⟨⟨by kernel_rfl, fun wy hw => ?_⟩, ?_⟩
    · (have bw := hw.below; go_simp; try (first | (with_reducible rfl) | (with_reducible exact ⟨rfl, rfl⟩)))
    go_simp
    refine wpAnyK_ex (i := 29) rfl (by kernel_rfl) (listed' := #[true, true, true, true, true, true, true, true, true, true, true, true, true, true, true, true, true, true, true, true, true, true, true, true, true, true, true, true, true, true, false, false, false, false, false, false, false, false, false, false, false, false, false, false, false, false, false, false, false, false, false, false, false, false, false, false, false, false, false, false, false, false, false, false, false, false, false, false, false, false]) rfl (fun _ _ _ _ _ h => h) HX1.out ?_
    apply Exists.intro
    refine ⟨⟨by kernel_rfl, fun wy hw => ?_⟩, ?_⟩
    · (have bw := hw.below; go_simp; try (first | (with_reducible rfl) | (with_reducible exact ⟨rfl, rfl⟩)))
    go_simp
    refine wpAnyK_ex (i := 30) rfl (by kernel_rfl) (listed' := #[true, true, true, true, true, true, true, true, true, true, true, true, true, true, true, true, true, true, true, true, true, true, true, true, true, true, true, true, true, true, true, false, false, false, false, false, false, false, false, false, false, false, false, false, false, false, false, false, false, false, false, false, false, false, false, false, false, false, false, false, false, false, false, false, false, false, false, false, false, false]) rfl (fun _ _ _ _ _ h => h) HX1.out ?_
    apply Exists.intro
    refine ⟨⟨by kernel_rfl, fun wy hw => ?_⟩, ?_⟩
    · (have bw := hw.below; go_simp; try (first | (with_reducible rfl) | (with_reducible exact ⟨rfl, rfl⟩)))
    go_simp
    refine wpAnyK_fork1 31 (by kernel_rfl) ?_
    refine wpOpK_step rfl (by kernel_rfl) (listed' := #[true, true, true, true, true, true, true, true, true, true, true, true, true, true, true, true, true, true, true, true, true, true, true, true, true, true, true, true, true, true, true, true, false, false, false, false, false, false, false, false, false, false, false, false, false, false, false, false, false, false, false, false, false, false, false, false, false, false, false, false, false, false, false, false, false, false, false, false, false, false]) rfl (by kernel_rfl) (fun K hK => ?_)
    go_simp
    refine (CEZ.out _ (HRY.out _ HX1.out)).mono ?_
    rintro e x2 ⟨rfl, hb⟩
    have HX2 := Lib.hid (HX1.out.trans (hb.mono HX1.out.size))
    refine hK _ _ HX2.out ?_
    clear hK K
    go_simp
    clear hb
    refine wpAnyK_ex (i := 32) rfl (by kernel_rfl) (listed' := #[true, true, true, true, true, true, true, true, true, true, true, true, true, true, true, true, true, true, true, true, true, true, true, true, true, true, true, true, true, true, true, true, true, false, false, false, false, false, false, false, false, false, false, false, false, false, false, false, false, false, false, false, false, false, false, false, false, false, false, false, false, false, false, false, false, false, false, false, false, false]) rfl (fun _ _ _ _ _ h => h) HX2.out ?_
    apply Exists.intro
    refine ⟨⟨by kernel_rfl, fun wy hw => ?_⟩, ?_⟩
    · (have bw := hw.below; go_simp; try (first | (with_reducible rfl) | (with_reducible exact ⟨rfl, rfl⟩)))
    go_simp
    refine wpAnyK_ex (i := 33) rfl (by kernel_rfl) (listed' := #[true, true, true, true, true, true, true, true, true, true, true, true, true, true, true, true, true, true, true, true, true, true, true, true, true, true, true, true, true, true, true, true, true, true, false, false, false, false, false, false, false, false, false, false, false, false, false, false, false, false, false, false, false, false, false, false, false, false, false, false, false, false, false, false, false, false, false, false, false, false]) rfl (fun _ _ _ _ _ h => h) HX2.out ?_
    apply Exists.intro
    refine ⟨⟨by kernel_rfl, fun wy hw => ?_⟩, ?_⟩
    · (have bw := hw.below; go_simp; try (first | (with_reducible rfl) | (with_reducible exact ⟨rfl, rfl⟩)))
    go_simp
    refine wpAnyK_ex (i := 34) rfl (by kernel_rfl) (listed' := #[true, true, true, true, true, true, true, true, true, true, true, true, true, true, true, true, true, true, true, true, true, true, true, true, true, true, true, true, true, true, true, true, true, true, true, false, false, false, false, false, false, false, false, false, false, false, false, false, false, false, false, false, false, false, false, false, false, false, false, false, false, false, false, false, false, false, false, false, false, false]) rfl (fun _ _ _ _ _ h => h) HX2.out ?_
    apply Exists.intro
    refine ⟨⟨by kernel_rfl, fun wy hw => ?_⟩, ?_⟩
    · (have bw := hw.below; go_simp; try (first | (with_reducible rfl) | (with_reducible exact ⟨rfl, rfl⟩)))
    go_simp
    refine wpAnyK_fork1 35 (by kernel_rfl) ?_
    refine wpOpK_step rfl (by kernel_rfl) (listed' := #[true, true, true, true, true, true, true, true, true, true, true, true, true, true, true, true, true, true, true, true, true, true, true, true, true, true, true, true, true, true, true, true, true, true, true, true, false, false, false, false, false, false, false, false, false, false, false, false, false, false, false, false, false, false, false, false, false, false, false, false, false, false, false, false, false, false, false, false, false, false]) rfl (by kernel_rfl) (fun K hK => ?_)
    go_simp
    refine (HS.out _).mono ?_
    rintro e x3 ⟨v, rfl, hv, hb⟩
    have HX3 := Lib.hid (HX2.out.trans (hb.mono HX2.out.size))
    refine hK _ _ HX3.out ?_
    clear hK K
    go_simp
    clear hb
    refine wpAnyK_fork1 36 (by kernel_rfl) ?_
    refine wpOpK_step rfl (by kernel_rfl) (listed' := #[true, true, true, true, true, true, true, true, true, true, true, true, true, true, true, true, true, true, true, true, true, true, true, true, true, true, true, true, true, true, true, true, true, true, true, true, true, false, false, false, false, false, false, false, false, false, false, false, false, false, false, false, false, false, false, false, false, false, false, false, false, false, false, false, false, false, false, false, false, false]) rfl (by kernel_rfl) (fun K hK => ?_)
    go_simp
    refine (CVA.out _ _ hv).mono ?_
    rintro e x4 ⟨rfl, hb⟩
    have HX4 := Lib.hid (HX3.out.trans (hb.mono HX3.out.size))
    refine hK _ _ HX4.out ?_
    clear hK K
    go_simp
    clear hb hv
    refine wpAnyK_ex (i := 37) rfl (by kernel_rfl) (listed' := #[true, true, true, true, true, true, true, true, true, true, true, true, true, true, true, true, true, true, true, true, true, true, true, true, true, true, true, true, true, true, true, true, true, true, true, true, true, true, false, false, false, false, false, false, false, false, false, false, false, false, false, false, false, false, false, false, false, false, false, false, false, false, false, false, false, false, false, false, false, false]) rfl (fun _ _ _ _ _ h => h) HX4.out ?_
    apply Exists.intro
    refine ⟨⟨by kernel_rfl, fun wy hw => ?_⟩, ?_⟩
    · (have bw := hw.below; go_simp; try (first | (with_reducible rfl) | (with_reducible exact ⟨rfl, rfl⟩)))
    go_simp
    refine wpAnyK_ex (i := 38) rfl (by kernel_rfl) (listed' := #[true, true, true, true, true, true, true, true, true, true, true, true, true, true, true, true, true, true, true, true, true, true, true, true, true, true, true, true, true, true, true, true, true, true, true, true, true, true, true, false, false, false, false, false, false, false, false, false, false, false, false, false, false, false, false, false, false, false, false, false, false, false, false, false, false, false, false, false, false, false]) rfl (fun _ _ _ _ _ h => h) HX4.out ?_
    apply Exists.intro
    refine ⟨⟨by kernel_rfl, fun wy hw => ?_⟩, ?_⟩
    · (have bw := hw.below; go_simp; try (first | (with_reducible rfl) | (with_reducible exact ⟨rfl, rfl⟩)))
    go_simp
    refine wpAnyK_ex (i := 39) rfl (by kernel_rfl) (listed' := #[true, true, true, true, true, true, true, true, true, true, true, true, true, true, true, true, true, true, true, true, true, true, true, true, true, true, true, true, true, true, true, true, true, true, true, true, true, true, true, true, false, false, false, false, false, false, false, false, false, false, false, false, false, false, false, false, false, false, false, false, false, false, false, false, false, false, false, false, false, false]) rfl (fun _ _ _ _ _ h => h) HX4.out ?_
    apply Exists.intro
    refine ⟨⟨by kernel_rfl, fun wy hw => ?_⟩, ?_⟩
    · (have bw := hw.below; go_simp; try (first | (with_reducible rfl) | (with_reducible exact ⟨rfl, rfl⟩)))
    go_simp
    refine wpAnyK_fork1 40 (by kernel_rfl) ?_
    refine wpOpK_step rfl (by kernel_rfl) (listed' := #[true, true, true, true, true, true, true, true, true, true, true, true, true, true, true, true, true, true, true, true, true, true, true, true, true, true, true, true, true, true, true, true, true, true, true, true, true, true, true, true, true, false, false, false, false, false, false, false, false, false, false, false, false, false, false, false, false, false, false, false, false, false, false, false, false, false, false, false, false, false]) rfl (by kernel_rfl) (fun K hK => ?_)
    go_simp
    refine (CVB.out _).mono ?_
    rintro e x5 ⟨rfl, hb⟩
    have HX5 := Lib.hid (HX4.out.trans (hb.mono HX4.out.size))
    refine hK _ _ HX5.out ?_
    clear hK K
    go_simp
    clear hb
    refine wpAnyK_ex (i := 41) rfl (by kernel_rfl) (listed' := #[true, true, true, true, true, true, true, true, true, true, true, true, true, true, true, true, true, true, true, true, true, true, true, true, true, true, true, true, true, true, true, true, true, true, true, true, true, true, true, true, true, true, false, false, false, false, false, false, false, false, false, false, false, false, false, false, false, false, false, false, false, false, false, false, false, false, false, false, false, false]) rfl (fun _ _ _ _ _ h => h) HX5.out ?_
    apply Exists.intro
    refine ⟨⟨by kernel_rfl, fun wy hw => ?_⟩, ?_⟩
    · (have bw := hw.below; go_simp; try (first | (with_reducible rfl) | (with_reducible exact ⟨rfl, rfl⟩)))
    go_simp
    refine wpAnyK_ex (i := 42) rfl (by kernel_rfl) (listed' := #[true, true, true, true, true, true, true, true, true, true, true, true, true, true, true, true, true, true, true, true, true, true, true, true, true, true, true, true, true, true, true, true, true, true, true, true, true, true, true, true, true, true, true, false, false, false, false, false, false, false, false, false, false, false, false, false, false, false, false, false, false, false, false, false, false, false, false, false, false, false]) rfl (fun _ _ _ _ _ h => h) HX5.out ?_
    apply Exists.intro
    refine ⟨⟨by kernel_rfl, fun wy hw => ?_⟩, ?_⟩
    · (have bw := hw.below; go_simp; try (first | (with_reducible rfl) | (with_reducible exact ⟨rfl, rfl⟩)))
    go_simp
    refine wpAnyK_ex (i := 43) rfl (by kernel_rfl) (listed' := #[true, true, true, true, true, true, true, true, true, true, true, true, true, true, true, true, true, true, true, true, true, true, true, true, true, true, true, true, true, true, true, true, true, true, true, true, true, true, true, true, true, true, true, true, false, false, false, false, false, false, false, false, false, false, false, false, false, false, false, false, false, false, false, false, false, false, false, false, false, false]) rfl (fun _ _ _ _ _ h => h) HX5.out ?_
    apply Exists.intro
    refine ⟨⟨by kernel_rfl, fun wy hw => ?_⟩, ?_⟩
    · (have bw := hw.below; go_simp; try (first | (with_reducible rfl) | (with_reducible exact ⟨rfl, rfl⟩)))
    go_simp
    refine wpAnyK_ex (i := 45) rfl (by kernel_rfl) (listed' := #[true, true, true, true, true, true, true, true, true, true, true, true, true, true, true, true, true, true, true, true, true, true, true, true, true, true, true, true, true, true, true, true, true, true, true, true, true, true, true, true, true, true, true, true, false, true, false, false, false, false, false, false, false, false, false, false, false, false, false, false, false, false, false, false, false, false, false, false, false, false]) rfl (fun _ _ _ _ _ h => h) HX5.out ?_
    apply Exists.intro
    refine ⟨⟨by kernel_rfl, fun wy hw => ?_⟩, ?_⟩
    · (have bw := hw.below; go_simp; try (first | (with_reducible rfl) | (with_reducible exact ⟨rfl, rfl⟩)))
    go_simp
    refine wpAnyK_fork1 44 (by kernel_rfl) ?_
    refine wpOpK_step rfl (by kernel_rfl) (listed' := #[true, true, true, true, true, true, true, true, true, true, true, true, true, true, true, true, true, true, true, true, true, true, true, true, true, true, true, true, true, true, true, true, true, true, true, true, true, true, true, true, true, true, true, true, true, true, false, false, false, false, false, false, false, false, false, false, false, false, false, false, false, false, false, false, false, false, false, false, false, false]) rfl (by kernel_rfl) (fun K hK => ?_)
    go_simp
    refine (HS.out _).mono ?_
    rintro e x6 ⟨v2, rfl, hv, hb⟩
    have HX6 := Lib.hid (HX5.out.trans (hb.mono HX5.out.size))
    refine hK _ _ HX6.out ?_
    clear hK K
    go_simp
    clear hb
    refine wpAnyK_fork1 46 (by kernel_rfl) ?_
    refine wpOpK_step rfl (by kernel_rfl) (listed' := #[true, true, true, true, true, true, true, true, true, true, true, true, true, true, true, true, true, true, true, true, true, true, true, true, true, true, true, true, true, true, true, true, true, true, true, true, true, true, true, true, true, true, true, true, true, true, true, false, false, false, false, false, false, false, false, false, false, false, false, false, false, false, false, false, false, false, false, false, false, false]) rfl (by kernel_rfl) (fun K hK => ?_)
    go_simp
    refine (CES.out _ _ [sE0, sE1] true _ rfl s_evs s_wf (HRY.out _ HX6.out) hv (HLX.out _ HX6.out)).mono ?_
    rintro e x7 ⟨rfl, hb⟩
    have HX7 := Lib.hid (HX6.out.trans (hb.mono HX6.out.size))
    refine hK _ _ HX7.out ?_
    clear hK K
    go_simp
    clear hb hv
    refine wpAnyK_ex (i := 47) rfl (by kernel_rfl) (listed' := #[true, true, true, true, true, true, true, true, true, true, true, true, true, true, true, true, true, true, true, true, true, true, true, true, true, true, true, true, true, true, true, true, true, true, true, true, true, true, true, true, true, true, true, true, true, true, true, true, false, false, false, false, false, false, false, false, false, false, false, false, false, false, false, false, false, false, false, false, false, false]) rfl (fun _ _ _ _ _ h => h) HX7.out ?_
    apply Exists.intro
    refine ⟨⟨by kernel_rfl, fun wy hw => ?_⟩, ?_⟩
    · (have bw := hw.below; go_simp; try (first | (with_reducible rfl) | (with_reducible exact ⟨rfl, rfl⟩)))
    go_simp
    refine wpAnyK_ex (i := 48) rfl (by kernel_rfl) (listed' := #[true, true, true, true, true, true, true, true, true, true, true, true, true, true, true, true, true, true, true, true, true, true, true, true, true, true, true, true, true, true, true, true, true, true, true, true, true, true, true, true, true, true, true, true, true, true, true, true, true, false, false, false, false, false, false, false, false, false, false, false, false, false, false, false, false, false, false, false, false, false]) rfl (fun _ _ _ _ _ h => h) HX7.out ?_
    apply Exists.intro
    refine ⟨⟨by kernel_rfl, fun wy hw => ?_⟩, ?_⟩
    · (have bw := hw.below; go_simp; try (first | (with_reducible rfl) | (with_reducible exact ⟨rfl, rfl⟩)))
    go_simp
    refine wpAnyK_ex (i := 50) rfl (by kernel_rfl) (listed' := #[true, true, true, true, true, true, true, true, true, true, true, true, true, true, true, true, true, true, true, true, true, true, true, true, true, true, true, true, true, true, true, true, true, true, true, true, true, true, true, true, true, true, true, true, true, true, true, true, true, false, true, false, false, false, false, false, false, false, false, false, false, false, false, false, false, false, false, false, false, false]) rfl (fun _ _ _ _ _ h => h) HX7.out ?_
    apply Exists.intro
    refine ⟨⟨by kernel_rfl, fun wy hw => ?_⟩, ?_⟩
    · (have bw := hw.below; go_simp; try (first | (with_reducible rfl) | (with_reducible exact ⟨rfl, rfl⟩)))
    go_simp
    refine wpAnyK_ex (i := 51) rfl (by kernel_rfl) (listed' := #[true, true, true, true, true, true, true, true, true, true, true, true, true, true, true, true, true, true, true, true, true, true, true, true, true, true, true, true, true, true, true, true, true, true, true, true, true, true, true, true, true, true, true, true, true, true, true, true, true, false, true, true, false, false, false, false, false, false, false, false, false, false, false, false, false, false, false, false, false, false]) rfl (fun _ _ _ _ _ h => h) HX7.out ?_
    apply Exists.intro
    refine ⟨⟨by kernel_rfl, fun wy hw => ?_⟩, ?_⟩
    · (have bw := hw.below; go_simp; try (first | (with_reducible rfl) | (with_reducible exact ⟨rfl, rfl⟩)))
    go_simp
    refine wpAnyK_ex (i := 52) rfl (by kernel_rfl) (listed' := #[true, true, true, true, true, true, true, true, true, true, true, true, true, true, true, true, true, true, true, true, true, true, true, true, true, true, true, true, true, true, true, true, true, true, true, true, true, true, true, true, true, true, true, true, true, true, true, true, true, false, true, true, true, false, false, false, false, false, false, false, false, false, false, false, false, false, false, false, false, false]) rfl (fun _ _ _ _ _ h => h) HX7.out ?_
    apply Exists.intro
    refine ⟨⟨by kernel_rfl, fun wy hw => ?_⟩, ?_⟩
    · (have bw := hw.below; have e12 := (show wy.cell? ⟨w.heap.size, 12, none⟩ = some (.int .i64 0) from (HEX.out _ bw 12 (by simp)).1); have e13 := (show wy.cell? ⟨w.heap.size, 13, none⟩ = some (.int .i64 1) from (HEX.out _ bw 13 (by simp)).1); have e14 := (show wy.cell? ⟨w.heap.size, 14, none⟩ = some (.int .i64 7) from (HEX.out _ bw 14 (by simp)).1); have e15 := (show wy.cell? ⟨w.heap.size, 15, none⟩ = some (.int .i64 2) from (HEX.out _ bw 15 (by simp)).1); have e16 := (show wy.cell? ⟨w.heap.size, 16, none⟩ = some (.int .i64 0) from (HEX.out _ bw 16 (by simp)).1); have e17 := (show wy.cell? ⟨w.heap.size, 17, none⟩ = some (.int .i64 0) from (HEX.out _ bw 17 (by simp)).1); have e18 := (show wy.cell? ⟨w.heap.size, 18, none⟩ = some (.int .i64 0) from (HEX.out _ bw 18 (by simp)).1); have e19 := (show wy.cell? ⟨w.heap.size, 19, none⟩ = some (.int .i64 0) from (HEX.out _ bw 19 (by simp)).1); have e20 := (show wy.cell? ⟨w.heap.size, 20, none⟩ = some (.int .i64 0) from (HEX.out _ bw 20 (by simp)).1); have e21 := (show wy.cell? ⟨w.heap.size, 21, none⟩ = some (.int .i64 0) from (HEX.out _ bw 21 (by simp)).1); have e22 := (show wy.cell? ⟨w.heap.size, 22, none⟩ = some (.int .i64 0) from (HEX.out _ bw 22 (by simp)).1); have e23 := (show wy.cell? ⟨w.heap.size, 23, none⟩ = some (.int .i64 0) from (HEX.out _ bw 23 (by simp)).1); go_simp; try (first | (with_reducible rfl) | (with_reducible exact ⟨rfl, rfl⟩)))
    go_simp
    refine wpAnyK_ex (i := 53) rfl (by kernel_rfl) (listed' := #[true, true, true, true, true, true, true, true, true, true, true, true, true, true, true, true, true, true, true, true, true, true, true, true, true, true, true, true, true, true, true, true, true, true, true, true, true, true, true, true, true, true, true, true, true, true, true, true, true, false, true, true, true, true, false, false, false, false, false, false, false, false, false, false, false, false, false, false, false, false]) rfl (fun _ _ _ _ _ h => h) HX7.out ?_
    apply Exists.intro
    refine ⟨⟨by kernel_rfl, fun wy hw => ?_⟩, ?_⟩
    · (have bw := hw.below; go_simp; try (first | (with_reducible rfl) | (with_reducible exact ⟨rfl, rfl⟩)))
    go_simp
    refine wpAnyK_ex (i := 54) rfl (by kernel_rfl) (listed' := #[true, true, true, true, true, true, true, true, true, true, true, true, true, true, true, true, true, true, true, true, true, true, true, true, true, true, true, true, true, true, true, true, true, true, true, true, true, true, true, true, true, true, true, true, true, true, true, true, true, false, true, true, true, true, true, false, false, false, false, false, false, false, false, false, false, false, false, false, false, false]) rfl (fun _ _ _ _ _ h => h) HX7.out ?_
    apply Exists.intro
    refine ⟨⟨by kernel_rfl, fun wy hw => ?_⟩, ?_⟩
    · (have bw := hw.below; go_simp; try (first | (with_reducible rfl) | (with_reducible exact ⟨rfl, rfl⟩)))
    go_simp
    refine wpAnyK_ex (i := 55) rfl (by kernel_rfl) (listed' := #[true, true, true, true, true, true, true, true, true, true, true, true, true, true, true, true, true, true, true, true, true, true, true, true, true, true, true, true, true, true, true, true, true, true, true, true, true, true, true, true, true, true, true, true, true, true, true, true, true, false, true, true, true, true, true, true, false, false, false, false, false, false, false, false, false, false, false, false, false, false]) rfl (fun _ _ _ _ _ h => h) HX7.out ?_
    apply Exists.intro
    refine ⟨⟨by kernel_rfl, fun wy hw => ?_⟩, ?_⟩
    · (have bw := hw.below; have e0 := (show wy.cell? ⟨w.heap.size, 0, none⟩ = some (.int .i64 0) from (HEX.out _ bw 0 (by simp)).1); have e1 := (show wy.cell? ⟨w.heap.size, 1, none⟩ = some (.int .i64 0) from (HEX.out _ bw 1 (by simp)).1); have e2 := (show wy.cell? ⟨w.heap.size, 2, none⟩ = some (.int .i64 5) from (HEX.out _ bw 2 (by simp)).1); have e3 := (show wy.cell? ⟨w.heap.size, 3, none⟩ = some (.int .i64 1) from (HEX.out _ bw 3 (by simp)).1); have e4 := (show wy.cell? ⟨w.heap.size, 4, none⟩ = some (.int .i64 0) from (HEX.out _ bw 4 (by simp)).1); have e5 := (show wy.cell? ⟨w.heap.size, 5, none⟩ = some (.int .i64 0) from (HEX.out _ bw 5 (by simp)).1); have e6 := (show wy.cell? ⟨w.heap.size, 6, none⟩ = some (.int .i64 (-1)) from (HEX.out _ bw 6 (by simp)).1); have e7 := (show wy.cell? ⟨w.heap.size, 7, none⟩ = some (.int .i64 0) from (HEX.out _ bw 7 (by simp)).1); have e8 := (show wy.cell? ⟨w.heap.size, 8, none⟩ = some (.int .i64 0) from (HEX.out _ bw 8 (by simp)).1); have e9 := (show wy.cell? ⟨w.heap.size, 9, none⟩ = some (.int .i64 0) from (HEX.out _ bw 9 (by simp)).1); have e10 := (show wy.cell? ⟨w.heap.size, 10, none⟩ = some (.int .i64 0) from (HEX.out _ bw 10 (by simp)).1); have e11 := (show wy.cell? ⟨w.heap.size, 11, none⟩ = some (.int .i64 0) from (HEX.out _ bw 11 (by simp)).1); go_simp; try (first | (with_reducible rfl) | (with_reducible exact ⟨rfl, rfl⟩)))
    go_simp
    refine wpAnyK_fork2 49 56 (by kernel_rfl) ?_ ?_
    · skip
      refine wpOpK_step rfl (by kernel_rfl) (listed' := #[true, true, true, true, true, true, true, true, true, true, true, true, true, true, true, true, true, true, true, true, true, true, true, true, true, true, true, true, true, true, true, true, true, true, true, true, true, true, true, true, true, true, true, true, true, true, true, true, true, true, true, true, true, true, true, true, false, false, false, false, false, false, false, false, false, false, false, false, false, false]) rfl (by kernel_rfl) (fun K hK => ?_)
      go_simp
      refine (HS.out _).mono ?_
      rintro e x8 ⟨v3, rfl, hv, hb⟩
      have HX8 := Lib.hid (HX7.out.trans (hb.mono HX7.out.size))
      refine hK _ _ HX8.out ?_
      clear hK K
      go_simp
      clear hb
      obtain ⟨xl, VL, ZL, KL, BL⟩ := lay8 x8 (KE.vs [sE1, sE0]) 46
      have VL := (show x8.alloc (.cells #[.int .i64 0, .int .i64 1, .int .i64 7, .int .i64 2, .int .i64 0, .int .i64 0, .int .i64 0, .int .i64 0, .int .i64 0, .int .i64 0, .int .i64 0, .int .i64 0, .int .i64 0, .int .i64 0, .int .i64 5, .int .i64 1, .int .i64 0, .int .i64 0, .int .i64 (-1), .int .i64 0, .int .i64 0, .int .i64 0, .int .i64 0, .int .i64 0] 46) = xl from VL)
      have hx := (CellsAt.rnK KE (l := [sE1, sE0]) (base := x8.heap.size) KL (Nat.le_refl _) (by omega)).rl
      have HY := Lib.hid (HX8.out.trans (BL.mono HX8.out.size))
      replace hv := hv.below BL
      refine wpAnyK_fork1 56 (by kernel_rfl) ?_
      refine wpOpK_step rfl (by kernel_rfl) (listed' := #[true, true, true, true, true, true, true, true, true, true, true, true, true, true, true, true, true, true, true, true, true, true, true, true, true, true, true, true, true, true, true, true, true, true, true, true, true, true, true, true, true, true, true, true, true, true, true, true, true, true, true, true, true, true, true, true, true, false, false, false, false, false, false, false, false, false, false, false, false, false]) rfl (by kernel_rfl) (fun K hK => ?_)
      go_simp
      refine hK _ _ (HY.out) ?_
      clear hK K
      go_simp
      clear VL KL BL ZL
      refine wpAnyK_fork1 57 (by kernel_rfl) ?_
      refine wpOpK_step rfl (by kernel_rfl) (listed' := #[true, true, true, true, true, true, true, true, true, true, true, true, true, true, true, true, true, true, true, true, true, true, true, true, true, true, true, true, true, true, true, true, true, true, true, true, true, true, true, true, true, true, true, true, true, true, true, true, true, true, true, true, true, true, true, true, true, true, false, false, false, false, false, false, false, false, false, false, false, false]) rfl (by kernel_rfl) (fun K hK => ?_)
      go_simp
      refine (CES.out _ _ [sE1, sE0] false _ rfl s_evs2 s_wf2 (HRY.out _ HY.out) hv hx).mono ?_
      rintro e x9 ⟨rfl, hb⟩
      have HX9 := Lib.hid (HY.out.trans (hb.mono HY.out.size))
      refine hK _ _ HX9.out ?_
      clear hK K
      go_simp
      clear hb hv hx
      refine wpAnyK_ex (i := 58) rfl (by kernel_rfl) (listed' := #[true, true, true, true, true, true, true, true, true, true, true, true, true, true, true, true, true, true, true, true, true, true, true, true, true, true, true, true, true, true, true, true, true, true, true, true, true, true, true, true, true, true, true, true, true, true, true, true, true, true, true, true, true, true, true, true, true, true, true, false, false, false, false, false, false, false, false, false, false, false]) rfl (fun _ _ _ _ _ h => h) HX9.out ?_
      apply Exists.intro
      refine ⟨⟨by kernel_rfl, fun wy hw => ?_⟩, ?_⟩
      · (have bw := hw.below; go_simp; try (first | (with_reducible rfl) | (with_reducible exact ⟨rfl, rfl⟩)))
      go_simp
      refine wpAnyK_ex (i := 59) rfl (by kernel_rfl) (listed' := #[true, true, true, true, true, true, true, true, true, true, true, true, true, true, true, true, true, true, true, true, true, true, true, true, true, true, true, true, true, true, true, true, true, true, true, true, true, true, true, true, true, true, true, true, true, true, true, true, true, true, true, true, true, true, true, true, true, true, true, true, false, false, false, false, false, false, false, false, false, false]) rfl (fun _ _ _ _ _ h => h) HX9.out ?_
      apply Exists.intro
      refine ⟨⟨by kernel_rfl, fun wy hw => ?_⟩, ?_⟩
      · (have bw := hw.below; go_simp; try (first | (with_reducible rfl) | (with_reducible exact ⟨rfl, rfl⟩)))
      go_simp
      refine wpAnyK_ex (i := 60) rfl (by kernel_rfl) (listed' := #[true, true, true, true, true, true, true, true, true, true, true, true, true, true, true, true, true, true, true, true, true, true, true, true, true, true, true, true, true, true, true, true, true, true, true, true, true, true, true, true, true, true, true, true, true, true, true, true, true, true, true, true, true, true, true, true, true, true, true, true, true, false, false, false, false, false, false, false, false, false]) rfl (fun _ _ _ _ _ h => h) HX9.out ?_
      apply Exists.intro
      refine ⟨⟨by kernel_rfl, fun wy hw => ?_⟩, ?_⟩
      · (have bw := hw.below; go_simp; try (first | (with_reducible rfl) | (with_reducible exact ⟨rfl, rfl⟩)))
      go_simp
      refine wpAnyK_ex (i := 61) rfl (by kernel_rfl) (listed' := #[true, true, true, true, true, true, true, true, true, true, true, true, true, true, true, true, true, true, true, true, true, true, true, true, true, true, true, true, true, true, true, true, true, true, true, true, true, true, true, true, true, true, true, true, true, true, true, true, true, true, true, true, true, true, true, true, true, true, true, true, true, true, false, false, false, false, false, false, false, false]) rfl (fun _ _ _ _ _ h => h) HX9.out ?_
      apply Exists.intro
      refine ⟨⟨by kernel_rfl, fun wy hw => ?_⟩, ?_⟩
      · (have bw := hw.below; have y0 := (show wy.cell? ⟨w3.heap.size + 1, 0, none⟩ = some (.int .i64 0) from (HKX.out _ bw 0 (by simp)).1); have y1 := (show wy.cell? ⟨w3.heap.size + 1, 1, none⟩ = some (.slice (some ⟨w3.heap.size, 0, none⟩) 1 1) from (HKX.out _ bw 1 (by simp)).1); go_simp; try (first | (with_reducible rfl) | (with_reducible exact ⟨rfl, rfl⟩)))
      go_simp
      refine wpAnyK_fork1 62 (by kernel_rfl) ?_
      refine wpOpK_step rfl (by kernel_rfl) (listed' := #[true, true, true, true, true, true, true, true, true, true, true, true, true, true, true, true, true, true, true, true, true, true, true, true, true, true, true, true, true, true, true, true, true, true, true, true, true, true, true, true, true, true, true, true, true, true, true, true, true, true, true, true, true, true, true, true, true, true, true, true, true, true, true, false, false, false, false, false, false, false]) rfl (by kernel_rfl) (fun K hK => ?_)
      go_simp
      refine (CVC.out _ _ (HRX.out _ HX9.out)).mono ?_
      rintro e x10 ⟨rfl, hb⟩
      have HX10 := Lib.hid (HX9.out.trans (hb.mono HX9.out.size))
      refine hK _ _ HX10.out ?_
      clear hK K
      go_simp
      clear hb
      refine wpAnyK_ex (i := 63) rfl (by kernel_rfl) (listed' := #[true, true, true, true, true, true, true, true, true, true, true, true, true, true, true, true, true, true, true, true, true, true, true, true, true, true, true, true, true, true, true, true, true, true, true, true, true, true, true, true, true, true, true, true, true, true, true, true, true, true, true, true, true, true, true, true, true, true, true, true, true, true, true, true, false, false, false, false, false, false]) rfl (fun _ _ _ _ _ h => h) HX10.out ?_
      apply Exists.intro
      refine ⟨⟨by kernel_rfl, fun wy hw => ?_⟩, ?_⟩
      · (have bw := hw.below; go_simp; try (first | (with_reducible rfl) | (with_reducible exact ⟨rfl, rfl⟩)))
      go_simp
      refine wpAnyK_ex (i := 64) rfl (by kernel_rfl) (listed' := #[true, true, true, true, true, true, true, true, true, true, true, true, true, true, true, true, true, true, true, true, true, true, true, true, true, true, true, true, true, true, true, true, true, true, true, true, true, true, true, true, true, true, true, true, true, true, true, true, true, true, true, true, true, true, true, true, true, true, true, true, true, true, true, true, true, false, false, false, false, false]) rfl (fun _ _ _ _ _ h => h) HX10.out ?_
      apply Exists.intro
      refine ⟨⟨by kernel_rfl, fun wy hw => ?_⟩, ?_⟩
      · (have bw := hw.below; go_simp; try (first | (with_reducible rfl) | (with_reducible exact ⟨rfl, rfl⟩)))
      go_simp
      refine wpAnyK_ex (i := 65) rfl (by kernel_rfl) (listed' := #[true, true, true, true, true, true, true, true, true, true, true, true, true, true, true, true, true, true, true, true, true, true, true, true, true, true, true, true, true, true, true, true, true, true, true, true, true, true, true, true, true, true, true, true, true, true, true, true, true, true, true, true, true, true, true, true, true, true, true, true, true, true, true, true, true, true, false, false, false, false]) rfl (fun _ _ _ _ _ h => h) HX10.out ?_
      apply Exists.intro
      refine ⟨⟨by kernel_rfl, fun wy hw => ?_⟩, ?_⟩
      · (have bw := hw.below; go_simp; try (first | (with_reducible rfl) | (with_reducible exact ⟨rfl, rfl⟩)))
      go_simp
      refine wpAnyK_fork1 66 (by kernel_rfl) ?_
      refine wpOpK_step rfl (by kernel_rfl) (listed' := #[true, true, true, true, true, true, true, true, true, true, true, true, true, true, true, true, true, true, true, true, true, true, true, true, true, true, true, true, true, true, true, true, true, true, true, true, true, true, true, true, true, true, true, true, true, true, true, true, true, true, true, true, true, true, true, true, true, true, true, true, true, true, true, true, true, true, true, false, false, false]) rfl (by kernel_rfl) (fun K hK => ?_)
      go_simp
      refine (CVZ.out _).mono ?_
      rintro e x11 ⟨rfl, hb⟩
      have HX11 := Lib.hid (HX10.out.trans (hb.mono HX10.out.size))
      refine hK _ _ HX11.out ?_
      clear hK K
      go_simp
      clear hb
      refine wpAnyK_ex (i := 67) rfl (by kernel_rfl) (listed' := #[true, true, true, true, true, true, true, true, true, true, true, true, true, true, true, true, true, true, true, true, true, true, true, true, true, true, true, true, true, true, true, true, true, true, true, true, true, true, true, true, true, true, true, true, true, true, true, true, true, true, true, true, true, true, true, true, true, true, true, true, true, true, true, true, true, true, true, true, false, false]) rfl (fun _ _ _ _ _ h => h) HX11.out ?_
      apply Exists.intro
      refine ⟨⟨by kernel_rfl, fun wy hw => ?_⟩, ?_⟩
      · (have bw := hw.below; go_simp; try (first | (with_reducible rfl) | (with_reducible exact ⟨rfl, rfl⟩)))
      go_simp
      refine wpAnyK_ex (i := 68) rfl (by kernel_rfl) (listed' := #[true, true, true, true, true, true, true, true, true, true, true, true, true, true, true, true, true, true, true, true, true, true, true, true, true, true, true, true, true, true, true, true, true, true, true, true, true, true, true, true, true, true, true, true, true, true, true, true, true, true, true, true, true, true, true, true, true, true, true, true, true, true, true, true, true, true, true, true, true, false]) rfl (fun _ _ _ _ _ h => h) HX11.out ?_
      apply Exists.intro
      refine ⟨⟨by kernel_rfl, fun wy hw => ?_⟩, ?_⟩
      · (have bw := hw.below; go_simp; try (first | (with_reducible rfl) | (with_reducible exact ⟨rfl, rfl⟩)))
      go_simp
      refine wpAnyK_end (by kernel_rfl) ?_
      try simp only [pickOps, List.filterMap_cons, List.filterMap_nil, List.getElem?_toArray, List.getElem?_cons_succ, List.getElem?_cons_zero]
      go_wp2_with fail
      refine NoPanic.normal ?_
      go_wp2_with fail
      go_ret
      exact ⟨rfl, HBW.out.trans (HX11.out.mono hz)⟩
    · skip
      obtain ⟨xl, VL, ZL, KL, BL⟩ := lay8 x7 (KE.vs [sE1, sE0]) 46
      have VL := (show x7.alloc (.cells #[.int .i64 0, .int .i64 1, .int .i64 7, .int .i64 2, .int .i64 0, .int .i64 0, .int .i64 0, .int .i64 0, .int .i64 0, .int .i64 0, .int .i64 0, .int .i64 0, .int .i64 0, .int .i64 0, .int .i64 5, .int .i64 1, .int .i64 0, .int .i64 0, .int .i64 (-1), .int .i64 0, .int .i64 0, .int .i64 0, .int .i64 0, .int .i64 0] 46) = xl from VL)
      have hx := (CellsAt.rnK KE (l := [sE1, sE0]) (base := x7.heap.size) KL (Nat.le_refl _) (by omega)).rl
      have HY := Lib.hid (HX7.out.trans (BL.mono HX7.out.size))
      refine wpOpK_step rfl (by kernel_rfl) (listed' := #[true, true, true, true, true, true, true, true, true, true, true, true, true, true, true, true, true, true, true, true, true, true, true, true, true, true, true, true, true, true, true, true, true, true, true, true, true, true, true, true, true, true, true, true, true, true, true, true, true, false, true, true, true, true, true, true, true, false, false, false, false, false, false, false, false, false, false, false, false, false]) rfl (by kernel_rfl) (fun K hK => ?_)
      go_simp
      refine hK _ _ (HY.out) ?_
      clear hK K
      go_simp
      clear VL KL BL ZL
      refine wpAnyK_fork1 49 (by kernel_rfl) ?_
      refine wpOpK_step rfl (by kernel_rfl) (listed' := #[true, true, true, true, true, true, true, true, true, true, true, true, true, true, true, true, true, true, true, true, true, true, true, true, true, true, true, true, true, true, true, true, true, true, true, true, true, true, true, true, true, true, true, true, true, true, true, true, true, true, true, true, true, true, true, true, true, false, false, false, false, false, false, false, false, false, false, false, false, false]) rfl (by kernel_rfl) (fun K hK => ?_)
      go_simp
      refine (HS.out _).mono ?_
      rintro e x12 ⟨v3, rfl, hv, hb⟩
      have HX12 := Lib.hid (HY.out.trans (hb.mono HY.out.size))
      refine hK _ _ HX12.out ?_
      clear hK K
      go_simp
      replace hx := hx.below hb
      clear hb
      refine wpAnyK_fork1 57 (by kernel_rfl) ?_
      refine wpOpK_step rfl (by kernel_rfl) (listed' := #[true, true, true, true, true, true, true, true, true, true, true, true, true, true, true, true, true, true, true, true, true, true, true, true, true, true, true, true, true, true, true, true, true, true, true, true, true, true, true, true, true, true, true, true, true, true, true, true, true, true, true, true, true, true, true, true, true, true, false, false, false, false, false, false, false, false, false, false, false, false]) rfl (by kernel_rfl) (fun K hK => ?_)
      go_simp
      refine (CES.out _ _ [sE1, sE0] false _ rfl s_evs2 s_wf2 (HRY.out _ HX12.out) hv hx).mono ?_
      rintro e x13 ⟨rfl, hb⟩
      have HX13 := Lib.hid (HX12.out.trans (hb.mono HX12.out.size))
      refine hK _ _ HX13.out ?_
      clear hK K
      go_simp
      clear hb hv hx
      refine wpAnyK_ex (i := 58) rfl (by kernel_rfl) (listed' := #[true, true, true, true, true, true, true, true, true, true, true, true, true, true, true, true, true, true, true, true, true, true, true, true, true, true, true, true, true, true, true, true, true, true, true, true, true, true, true, true, true, true, true, true, true, true, true, true, true, true, true, true, true, true, true, true, true, true, true, false, false, false, false, false, false, false, false, false, false, false]) rfl (fun _ _ _ _ _ h => h) HX13.out ?_
      apply Exists.intro
      refine ⟨⟨by kernel_rfl, fun wy hw => ?_⟩, ?_⟩
      · (have bw := hw.below; go_simp; try (first | (with_reducible rfl) | (with_reducible exact ⟨rfl, rfl⟩)))
      go_simp
      refine wpAnyK_ex (i := 59) rfl (by kernel_rfl) (listed' := #[true, true, true, true, true, true, true, true, true, true, true, true, true, true, true, true, true, true, true, true, true, true, true, true, true, true, true, true, true, true, true, true, true, true, true, true, true, true, true, true, true, true, true, true, true, true, true, true, true, true, true, true, true, true, true, true, true, true, true, true, false, false, false, false, false, false, false, false, false, false]) rfl (fun _ _ _ _ _ h => h) HX13.out ?_
      apply Exists.intro
      refine ⟨⟨by kernel_rfl, fun wy hw => ?_⟩, ?_⟩
      · (have bw := hw.below; go_simp; try (first | (with_reducible rfl) | (with_reducible exact ⟨rfl, rfl⟩)))
      go_simp
      refine wpAnyK_ex (i := 60) rfl (by kernel_rfl) (listed' := #[true, true, true, true, true, true, true, true, true, true, true, true, true, true, true, true, true, true, true, true, true, true, true, true, true, true, true, true, true, true, true, true, true, true, true, true, true, true, true, true, true, true, true, true, true, true, true, true, true, true, true, true, true, true, true, true, true, true, true, true, true, false, false, false, false, false, false, false, false, false]) rfl (fun _ _ _ _ _ h => h) HX13.out ?_
      apply Exists.intro
      refine ⟨⟨by kernel_rfl, fun wy hw => ?_⟩, ?_⟩
      · (have bw := hw.below; go_simp; try (first | (with_reducible rfl) | (with_reducible exact ⟨rfl, rfl⟩)))
      go_simp
      refine wpAnyK_ex (i := 61) rfl (by kernel_rfl) (listed' := #[true, true, true, true, true, true, true, true, true, true, true, true, true, true, true, true, true, true, true, true, true, true, true, true, true, true, true, true, true, true, true, true, true, true, true, true, true, true, true, true, true, true, true, true, true, true, true, true, true, true, true, true, true, true, true, true, true, true, true, true, true, true, false, false, false, false, false, false, false, false]) rfl (fun _ _ _ _ _ h => h) HX13.out ?_
      apply Exists.intro
      refine ⟨⟨by kernel_rfl, fun wy hw => ?_⟩, ?_⟩
      · (have bw := hw.below; have y0 := (show wy.cell? ⟨w3.heap.size + 1, 0, none⟩ = some (.int .i64 0) from (HKX.out _ bw 0 (by simp)).1); have y1 := (show wy.cell? ⟨w3.heap.size + 1, 1, none⟩ = some (.slice (some ⟨w3.heap.size, 0, none⟩) 1 1) from (HKX.out _ bw 1 (by simp)).1); go_simp; try (first | (with_reducible rfl) | (with_reducible exact ⟨rfl, rfl⟩)))
      go_simp
      refine wpAnyK_fork1 62 (by kernel_rfl) ?_
      refine wpOpK_step rfl (by kernel_rfl) (listed' := #[true, true, true, true, true, true, true, true, true, true, true, true, true, true, true, true, true, true, true, true, true, true, true, true, true, true, true, true, true, true, true, true, true, true, true, true, true, true, true, true, true, true, true, true, true, true, true, true, true, true, true, true, true, true, true, true, true, true, true, true, true, true, true, false, false, false, false, false, false, false]) rfl (by kernel_rfl) (fun K hK => ?_)
      go_simp
      refine (CVC.out _ _ (HRX.out _ HX13.out)).mono ?_
      rintro e x14 ⟨rfl, hb⟩
      have HX14 := Lib.hid (HX13.out.trans (hb.mono HX13.out.size))
      refine hK _ _ HX14.out ?_
      clear hK K
      go_simp
      clear hb
      refine wpAnyK_ex (i := 63) rfl (by kernel_rfl) (listed' := #[true, true, true, true, true, true, true, true, true, true, true, true, true, true, true, true, true, true, true, true, true, true, true, true, true, true, true, true, true, true, true, true, true, true, true, true, true, true, true, true, true, true, true, true, true, true, true, true, true, true, true, true, true, true, true, true, true, true, true, true, true, true, true, true, false, false, false, false, false, false]) rfl (fun _ _ _ _ _ h => h) HX14.out ?_
      apply Exists.intro
      refine ⟨⟨by kernel_rfl, fun wy hw => ?_⟩, ?_⟩
      · (have bw := hw.below; go_simp; try (first | (with_reducible rfl) | (with_reducible exact ⟨rfl, rfl⟩)))
      go_simp
      refine wpAnyK_ex (i := 64) rfl (by kernel_rfl) (listed' := #[true, true, true, true, true, true, true, true, true, true, true, true, true, true, true, true, true, true, true, true, true, true, true, true, true, true, true, true, true, true, true, true, true, true, true, true, true, true, true, true, true, true, true, true, true, true, true, true, true, true, true, true, true, true, true, true, true, true, true, true, true, true, true, true, true, false, false, false, false, false]) rfl (fun _ _ _ _ _ h => h) HX14.out ?_
      apply Exists.intro
      refine ⟨⟨by kernel_rfl, fun wy hw => ?_⟩, ?_⟩
      · (have bw := hw.below; go_simp; try (first | (with_reducible rfl) | (with_reducible exact ⟨rfl, rfl⟩)))
      go_simp
      refine wpAnyK_ex (i := 65) rfl (by kernel_rfl) (listed' := #[true, true, true, true, true, true, true, true, true, true, true, true, true, true, true, true, true, true, true, true, true, true, true, true, true, true, true, true, true, true, true, true, true, true, true, true, true, true, true, true, true, true, true, true, true, true, true, true, true, true, true, true, true, true, true, true, true, true, true, true, true, true, true, true, true, true, false, false, false, false]) rfl (fun _ _ _ _ _ h => h) HX14.out ?_
      apply Exists.intro
      refine ⟨⟨by kernel_rfl, fun wy hw => ?_⟩, ?_⟩
      · (have bw := hw.below; go_simp; try (first | (with_reducible rfl) | (with_reducible exact ⟨rfl, rfl⟩)))
      go_simp
      refine wpAnyK_fork1 66 (by kernel_rfl) ?_
      refine wpOpK_step rfl (by kernel_rfl) (listed' := #[true, true, true, true, true, true, true, true, true, true, true, true, true, true, true, true, true, true, true, true, true, true, true, true, true, true, true, true, true, true, true, true, true, true, true, true, true, true, true, true, true, true, true, true, true, true, true, true, true, true, true, true, true, true, true, true, true, true, true, true, true, true, true, true, true, true, true, false, false, false]) rfl (by kernel_rfl) (fun K hK => ?_)
      go_simp
      refine (CVZ.out _).mono ?_
      rintro e x15 ⟨rfl, hb⟩
      have HX15 := Lib.hid (HX14.out.trans (hb.mono HX14.out.size))
      refine hK _ _ HX15.out ?_
      clear hK K
      go_simp
      clear hb
      refine wpAnyK_ex (i := 67) rfl (by kernel_rfl) (listed' := #[true, true, true, true, true, true, true, true, true, true, true, true, true, true, true, true, true, true, true, true, true, true, true, true, true, true, true, true, true, true, true, true, true, true, true, true, true, true, true, true, true, true, true, true, true, true, true, true, true, true, true, true, true, true, true, true, true, true, true, true, true, true, true, true, true, true, true, true, false, false]) rfl (fun _ _ _ _ _ h => h) HX15.out ?_
      apply Exists.intro
      refine ⟨⟨by kernel_rfl, fun wy hw => ?_⟩, ?_⟩
      · (have bw := hw.below; go_simp; try (first | (with_reducible rfl) | (with_reducible exact ⟨rfl, rfl⟩)))
      go_simp
      refine wpAnyK_ex (i := 68) rfl (by kernel_rfl) (listed' := #[true, true, true, true, true, true, true, true, true, true, true, true, true, true, true, true, true, true, true, true, true, true, true, true, true, true, true, true, true, true, true, true, true, true, true, true, true, true, true, true, true, true, true, true, true, true, true, true, true, true, true, true, true, true, true, true, true, true, true, true, true, true, true, true, true, true, true, true, true, false]) rfl (fun _ _ _ _ _ h => h) HX15.out ?_
      apply Exists.intro
      refine ⟨⟨by kernel_rfl, fun wy hw => ?_⟩, ?_⟩
      · (have bw := hw.below; go_simp; try (first | (with_reducible rfl) | (with_reducible exact ⟨rfl, rfl⟩)))
      go_simp
      refine wpAnyK_end (by kernel_rfl) ?_
      try simp only [pickOps, List.filterMap_cons, List.filterMap_nil, List.getElem?_toArray, List.getElem?_cons_succ, List.getElem?_cons_zero]
      go_wp2_with fail
      refine NoPanic.normal ?_
      go_wp2_with fail
      go_ret
      exact ⟨rfl, HBW.out.trans (HX15.out.mono hz)⟩
end Go.Proofs.YtamefmojocegkaaDoor
