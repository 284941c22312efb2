/-
  Layer 8, the program: Event, Events.
-/
import Derived.Test.YtifdcfjllonmgaaDoorNf
import Derived.Test.YtifdcfjllonmgaaDoorNg
import Derived.Test.YtifdcfjllonmgaaDoorNc
import Derived.Test.YtifdcfjllonmgaaDoorHl
namespace Go.Proofs.YtifdcfjllonmgaaDoor
open Go Go.Proofs Go.RowKit Go.Lib Go.Maps

def Ev.wf (x : Ev) : Prop := (Lit.int .i64 x.kd).wf = true
def evsW (l : List Ev) : Prop := ∀ x ∈ l, x.wf
set_option maxRecDepth 100000 in
set_option maxHeartbeats 8000000 in
theorem event_u (x : Ev) (hk : x.wf) (w : World) (hR : Rdy w) : Calls Tryd.prog 23 #[x.val] w fun e w' => e = .returned (.bool (evB x)) ∧ Below w.heap.size w w' := by
  obtain ⟨w1, V1, Z1, K1, B1⟩ := lay8 w x.cells 46
  have HZ := Lib.hid B1
  have HR1 := Lib.hid (hR.below B1)
  have HKB := Lib.hid (show ∀ W, Below w1.heap.size w1 W → EvBox W w.heap.size x from fun W b => CellsAt.ev (CellsAt.below K1 b))
  have CE := Lib.hid (fun b W h => isEvent_u x hk b W h)
  generalize evB x = R at *
  have hz := B1.size
  clear hR K1 B1 hk
  have hXV := Lib.hid (Ev.val_mk x)
  rw [hXV.out] at CE ⊢
  have V1 := (show w.alloc (.cells #[.int .i64 x.ag, .int .i64 x.sq, .int .i64 x.tm, .int .i64 x.kd, .int .i64 x.tr, .int .i64 x.sp, .int .i64 x.lk, .int .i64 x.gn, .int .i64 x.op, .int .i64 x.vr, .int .i64 x.pe, .int .i64 x.bt] 46) = w1 from V1)
  go_enter Tryd.func23, Tryd.ntmps23
  go_upto_region 1 with fail
  clear V1
  refine wp_region_noPanic ?_
  refine wp_region_Kx (C := NewC w1) [3] 3 #[false, false, false, false] (by kernel_rfl) (by kernel_rfl) (by kernel_rfl) (newC0 _) ?_
  intro wx hwx
  refine wpAnyK_ex (i := 0) rfl (by kernel_rfl) (listed' := #[true, false, false, false]) rfl (fun _ _ _ _ _ h => h) hwx ?_
  apply Exists.intro
  refine ⟨⟨by rfl, fun wy hw => ?_⟩, ?_⟩
  · (have bw := hw.below; obtain ⟨e0, e1, e2, e3, e4, e5, e6, e7, e8, e9, e10, e11⟩ := HKB.out _ bw; go_simp; try (first | (with_reducible rfl) | (with_reducible exact ⟨rfl, rfl⟩)))
  try simp only [Act.put]
  have HX0 := Lib.hid hwx.below
  refine wpAnyK_fork1 1 (by kernel_rfl) ?_
  refine wpOpK_step rfl (by kernel_rfl) (listed' := #[true, true, false, false]) rfl (by rfl) (fun K hK => ?_)
  go_simp
  refine (fieldTests_u _ (HR1.out.below HX0.out)).mono ?_
  rintro e x1 ⟨b, rfl, hF, hb⟩
  have HX1 := Lib.hid (HX0.out.trans (hb.mono HX0.out.size))
  refine hK _ _ HX1.out ?_
  clear hK K
  try simp only [Act.put]
  clear hb
  refine wpAnyK_fork1 2 (by kernel_rfl) ?_
  refine wpOpK_step rfl (by kernel_rfl) (listed' := #[true, true, true, false]) rfl (by rfl) (fun K hK => ?_)
  go_simp
  refine (CE.out b _ hF).mono ?_
  rintro e x2 ⟨rfl, hb⟩
  have HX2 := Lib.hid (HX1.out.trans (hb.mono HX1.out.size))
  refine hK _ _ HX2.out ?_
  clear hK K
  try simp only [Act.put]
  clear hb
  refine wpAnyK_end (by kernel_rfl) ?_
  try simp only [pickOps, List.filterMap_cons, List.filterMap_nil, List.getElem?_toArray, List.getElem?_cons_succ, List.getElem?_cons_zero]
  go_wp2_with fail
  refine NoPanic.normal ?_
  go_wp2_with fail
  go_ret
  exact ⟨rfl, HZ.out.trans (HX2.out.mono hz)⟩
/-- What the program asks of an event behind another one. -/
theorem folw_step {f : Fl} {l : List Ev} {k : Nat} (hk : 0 < k) (hs : ∀ j, j < k → StepOk f l j) (he : evB (evD l k) = true) (ha : (evD l k).ag < (f.dr.length : Int)) (ho : (evD l k).op < (f.sv.length : Int)) :
    folwB (evD l (k - 1)) (evD l k) = true ↔ StepOk f l k := by
  have hp := (hs (k - 1) (by omega)).2.2.1
  unfold folwB StepOk
  simp only [Bool.and_eq_true, Bool.or_eq_true, beq_iff_eq, decide_eq_true_eq]
  constructor
  · rintro ⟨h1, h2⟩
    exact ⟨he, ha, by rw [← h1, hp], fun h => by omega, fun _ => ⟨by omega, fun h => by omega⟩⟩
  · rintro ⟨_, _, h3, _, h5⟩
    obtain ⟨h6, h7⟩ := h5 hk
    refine ⟨by rw [hp, h3], ?_⟩
    by_cases e : (evD l (k - 1)).ag = (evD l k).ag
    · exact .inr ⟨e, by have := fun h => h7 ⟨e.symm, h⟩; omega⟩
    · exact .inl (by omega)
theorem step_zero {f : Fl} {l : List Ev} (he : evB (evD l 0) = true) (ha : (evD l 0).ag < (f.dr.length : Int)) (ho : (evD l 0).op < (f.sv.length : Int)) : StepOk f l 0 :=
  ⟨he, ha, rfl, fun h => by omega, fun h => absurd h (Nat.lt_irrefl _)⟩
theorem op_of {f : Fl} {x : Ev} (hf : flB f = true) (he : evB x = true) (h : ¬ (x.kd = 1 ∧ (f.sv.length : Int) ≤ x.op)) : x.op < (f.sv.length : Int) := by
  obtain ⟨_, _, _, _, _, _, hs, _⟩ := flB_of hf
  by_cases h1 : x.kd = 1
  · have := fun h2 => h ⟨h1, h2⟩; omega
  · rw [evB_tst] at he
    have ht := (Bool.and_eq_true_iff.1 he).1
    have : x.op = 0 := by
      unfold tstB linkB at ht
      rw [if_neg h1] at ht
      repeat' (split at ht)
      all_goals first | (simp at ht; omega) | (cases ht)
    omega
set_option maxRecDepth 100000 in
set_option maxHeartbeats 16000000 in
theorem events_u (v : Value) (f : Fl) (ad : Option Addr) (c : Nat) (l : List Ev) (hfit : f.fit) (hl : l.length ≤ maxLen) (hw : evsW l) (w : World) (hR : Rdy w) (hf : FlAt w v f) (hI : RL KE w ad l) :
    Calls Tryd.prog 18 #[v, .slice ad l.length c] w fun e w' => e = .returned (.bool (evsB f l)) ∧ Below w.heap.size w w' := by
  unfold maxLen at hl
  have HFA := Lib.hid (fun W (b : Below w.heap.size w W) => hf.below b)
  obtain ⟨x1, c1, x2, c2, x3, c3, rfl, _, _, _⟩ := hf
  have CV := Lib.hid (fun W h => valid_u (.agg #[.slice x1 f.dr.length c1, .int .i64 f.lat, .int .i64 f.lia, .slice x2 f.sv.length c2, .slice x3 f.tm.length c3]) f W hfit h)
  have HWF := Lib.hid (show ∀ k, k < l.length → (evD l k).wf from fun k hk => by rw [evD_of hk]; exact hw _ (List.getElem_mem hk))
  have HRD := Lib.hid hR
  obtain ⟨f1, f2, f3⟩ := hfit
  obtain ⟨B, hB⟩ : ∃ B, evsB f l = B := ⟨_, rfl⟩
  rw [hB]
  have HNO := Lib.hid (fun h : ¬ EvsOk f l => show B = false by rw [← hB]; exact evsB_no h)
  have HYES := Lib.hid (fun h : EvsOk f l => show B = true by rw [← hB]; exact evsB_yes h)
  have HC := Lib.hid (fun h => hI.evs h)
  obtain ⟨w0, V0, Z0, K0, B0⟩ := lay8 w [.slice x1 f.dr.length c1, .int .i64 f.lat, .int .i64 f.lia, .slice x2 f.sv.length c2, .slice x3 f.tm.length c3] 24
  have HB0 := Lib.hid B0
  obtain ⟨y0, _⟩ := K0 0 (by simp); obtain ⟨y1, _⟩ := K0 1 (by simp); obtain ⟨y2, _⟩ := K0 2 (by simp); obtain ⟨y3, _⟩ := K0 3 (by simp); obtain ⟨y4, _⟩ := K0 4 (by simp)
  simp only [List.getElem_cons_zero, List.getElem_cons_succ] at y0 y1 y2 y3 y4
  have HKX := Lib.hid (show ∀ W, Below (w.heap.size + 1) w0 W → W.cell? ⟨w.heap.size, 0, none⟩ = some (.slice x1 f.dr.length c1) ∧ W.cell? ⟨w.heap.size, 3, none⟩ = some (.slice x2 f.sv.length c2) from fun W b => ⟨(K0.up b (by omega) 0 (by simp)).1, (K0.up b (by omega) 3 (by simp)).1⟩)
  clear hB hI hR hw K0 B0
  go_enter Tryd.func18, Tryd.ntmps18
  go_wp2_with fail
  refine (CV.out _ (HFA.out _ HB0.out)).mono ?_
  rintro e w1 ⟨rfl, hb⟩
  have HB := Lib.hid (HB0.out.trans (hb.mono HB0.out.size))
  have HU := Lib.hid (show Below (w.heap.size + 1) w0 w1 from by rw [← Z0]; exact hb)
  clear hb V0 y0 y1 y2 y3 y4
  cases hv : flB f with
  | false =>
    have HF := Lib.hid (HNO.out (fun h => by rw [h.1] at hv; cases hv))
    clear hv
    go_wp2_with fail
    go_ret
    exact ⟨by rw [HF.out]; rfl, HB.out⟩
  | true =>
    have HV := Lib.hid hv
    clear hv
    by_cases h24 : (24 : Int) < (l.length : Int)
    · have HF := Lib.hid (HNO.out (fun h => by have := h.2.1; omega))
      go_wp2_with fail
      go_ret
      exact ⟨by rw [HF.out]; rfl, HB.out⟩
    · go_wp2_with fail
      refine (fieldTests_u _ (HRD.out.below HB.out)).mono ?_
      rintro e w2 ⟨tb, rfl, hF, hb⟩
      have HB2 := Lib.hid (HB.out.trans (hb.mono HB.out.size))
      have HU2 := Lib.hid (show Below (w.heap.size + 1) w0 w2 from HU.out.trans (hb.mono (by have := HU.out.size; omega)))
      have HF2 := Lib.hid hF
      clear hb hF HB HU
      go_wp2_with fail
      go_loopw [19] (fun i wr => ∃ k : Nat, k ≤ l.length ∧ i = .int .i64 k ∧ Hid (∀ j, j < k → StepOk f l j) ∧ Hid (Below w.heap.size w wr) ∧ Hid (Below (w.heap.size + 1) w0 wr) ∧ Hid (FtAt 6 wr tb)) (fun i _ => l.length - (RowKit.intOf i).toNat)
      case atStart => exact ⟨0, Nat.zero_le _, rfl, Lib.hid (fun j h => absurd h (Nat.not_lt_zero _)), HB2, HU2, HF2⟩
      case round =>
        clear HB2 HU2 HF2
        obtain ⟨k, hk, rfl, HS, HB, HU, HFT⟩ := hrel
        by_cases hlt : k < l.length
        · have hki : (k : Int) < (l.length : Int) := by omega
          obtain ⟨eb, eo, rfl, heb, hcc⟩ := HC.out (by omega)
          obtain ⟨d0, d1, d2, d3, d4, d5, d6, d7, d8, d9, d10, d11⟩ := hcc k hlt wr HB.out
          have HCP := Lib.hid (fun (h : 0 < k) => hcc (k - 1) (by omega))
          have hik := fun W => at_ev8 eb eo l.length c k hlt W
          have HLT := Lib.hid hlt
          have HNX := Lib.hid (fun h : ¬ StepOk f l k => HNO.out (fun h9 => h (h9.2.2 k HLT.out)))
          have HST := Lib.hid (show StepOk f l k → ∀ j, j < k + 1 → StepOk f l j from fun h j hj => by
            rcases Nat.lt_or_ge j k with h9 | h9
            · exact HS.out j h9
            · obtain rfl : j = k := by omega
              exact h)
          have HSO := Lib.hid (show evB (evD l k) = true → (evD l k).ag < (f.dr.length : Int) → (evD l k).op < (f.sv.length : Int) → (0 < k → (folwB (evD l (k - 1)) (evD l k) = true ↔ StepOk f l k)) ∧ (k = 0 → StepOk f l k) from fun a b c => ⟨fun hk => folw_step hk HS.out a b c, fun e => by subst e; exact step_zero a b c⟩)
          have HSN := Lib.hid (show StepOk f l k → evB (evD l k) = true ∧ (evD l k).ag < (f.dr.length : Int) ∧ (evD l k).op < (f.sv.length : Int) from fun h => ⟨h.1, h.2.1, op_of HV.out h.1 h.2.2.2.1⟩)
          have HW := Lib.hid (HWF.out k hlt)
          generalize StepOk f l k = SK at *
          generalize evD l k = x at *
          generalize evD l (k - 1) = xp at *
          obtain ⟨w3, V3, Z3, K3, B3⟩ := lay8 wr zE.cells 46
          have V3 := (show wr.alloc (.cells #[.int .i64 0, .int .i64 0, .int .i64 0, .int .i64 0, .int .i64 0, .int .i64 0, .int .i64 0, .int .i64 0, .int .i64 0, .int .i64 0, .int .i64 0, .int .i64 0] 46) = w3 from V3)
          have K3 := (show CellsAt w3 wr.heap.size [.int .i64 0, .int .i64 0, .int .i64 0, .int .i64 0, .int .i64 0, .int .i64 0, .int .i64 0, .int .i64 0, .int .i64 0, .int .i64 0, .int .i64 0, .int .i64 0] from K3)
          obtain ⟨w4, V4, K4, B4⟩ : ∃ w4, ((((((((((((w3.setCell ⟨wr.heap.size, 0, none⟩ (.int .i64 x.ag)).setCell ⟨wr.heap.size, 1, none⟩ (.int .i64 x.sq)).setCell ⟨wr.heap.size, 2, none⟩ (.int .i64 x.tm)).setCell ⟨wr.heap.size, 3, none⟩ (.int .i64 x.kd)).setCell ⟨wr.heap.size, 4, none⟩ (.int .i64 x.tr)).setCell ⟨wr.heap.size, 5, none⟩ (.int .i64 x.sp)).setCell ⟨wr.heap.size, 6, none⟩ (.int .i64 x.lk)).setCell ⟨wr.heap.size, 7, none⟩ (.int .i64 x.gn)).setCell ⟨wr.heap.size, 8, none⟩ (.int .i64 x.op)).setCell ⟨wr.heap.size, 9, none⟩ (.int .i64 x.vr)).setCell ⟨wr.heap.size, 10, none⟩ (.int .i64 x.pe)).setCell ⟨wr.heap.size, 11, none⟩ (.int .i64 x.bt)) = w4 ∧ CellsAt w4 wr.heap.size x.cells ∧ Below wr.heap.size wr w4 := ⟨_, rfl, ((((((((((((K3.put 0 _).put 1 _).put 2 _).put 3 _).put 4 _).put 5 _).put 6 _).put 7 _).put 8 _).put 9 _).put 10 _).put 11 _), ((((((((((((B3.setCell (Nat.le_refl _) _).setCell (Nat.le_refl _) _).setCell (Nat.le_refl _) _).setCell (Nat.le_refl _) _).setCell (Nat.le_refl _) _).setCell (Nat.le_refl _) _).setCell (Nat.le_refl _) _).setCell (Nat.le_refl _) _).setCell (Nat.le_refl _) _).setCell (Nat.le_refl _) _).setCell (Nat.le_refl _) _).setCell (Nat.le_refl _) _)⟩
          obtain ⟨g0, g0'⟩ := K3 0 (by simp)
          obtain ⟨g1, g1'⟩ := K3 1 (by simp)
          obtain ⟨g2, g2'⟩ := K3 2 (by simp)
          obtain ⟨g3, g3'⟩ := K3 3 (by simp)
          obtain ⟨g4, g4'⟩ := K3 4 (by simp)
          obtain ⟨g5, g5'⟩ := K3 5 (by simp)
          obtain ⟨g6, g6'⟩ := K3 6 (by simp)
          obtain ⟨g7, g7'⟩ := K3 7 (by simp)
          obtain ⟨g8, g8'⟩ := K3 8 (by simp)
          obtain ⟨g9, g9'⟩ := K3 9 (by simp)
          obtain ⟨g10, g10'⟩ := K3 10 (by simp)
          obtain ⟨g11, g11'⟩ := K3 11 (by simp)
          simp only [List.getElem_cons_zero, List.getElem_cons_succ] at g0 g1 g2 g3 g4 g5 g6 g7 g8 g9 g10 g11
          have HB4 := Lib.hid B4
          have HBW := Lib.hid (HB.out.trans (B4.mono HB.out.size))
          have hsz := HU.out.size
          have SX := Lib.hid (show ∀ W, Below w4.heap.size w4 W → EvBox W wr.heap.size x ∧ W.cell? ⟨w.heap.size, 0, none⟩ = some (.slice x1 f.dr.length c1) ∧ W.cell? ⟨w.heap.size, 3, none⟩ = some (.slice x2 f.sv.length c2) from fun W b =>
            ⟨CellsAt.ev (CellsAt.below K4 b), HKX.out W (HU.out.trans ((HB4.out.trans (b.mono HB4.out.size)).mono (by omega)))⟩)
          have HF4 := Lib.hid (HFT.out.below B4)
          have CX0 := Lib.hid (show ∀ (r : Bool), evB x = r → ∀ W, Below w4.heap.size w4 W → Calls Tryd.prog 48 #[.agg #[.int .i64 x.ag, .int .i64 x.sq, .int .i64 x.tm, .int .i64 x.kd, .int .i64 x.tr, .int .i64 x.sp, .int .i64 x.lk, .int .i64 x.gn, .int .i64 x.op, .int .i64 x.vr, .int .i64 x.pe, .int .i64 x.bt], .map (some tb)] W fun e w' => e = .returned (.bool r) ∧ Below W.heap.size W w' from fun r hr W b => by
            have := isEvent_u x HW.out tb W (HF4.out.below b)
            rw [hr] at this
            exact this)
          have CF0 := Lib.hid (show ∀ (r : Bool), folwB xp x = r → ∀ W, Calls Tryd.prog 49 #[.agg #[.int .i64 xp.ag, .int .i64 xp.sq, .int .i64 xp.tm, .int .i64 xp.kd, .int .i64 xp.tr, .int .i64 xp.sp, .int .i64 xp.lk, .int .i64 xp.gn, .int .i64 xp.op, .int .i64 xp.vr, .int .i64 xp.pe, .int .i64 xp.bt], .agg #[.int .i64 x.ag, .int .i64 x.sq, .int .i64 x.tm, .int .i64 x.kd, .int .i64 x.tr, .int .i64 x.sp, .int .i64 x.lk, .int .i64 x.gn, .int .i64 x.op, .int .i64 x.vr, .int .i64 x.pe, .int .i64 x.bt]] W fun e w' => e = .returned (.bool r) ∧ Below W.heap.size W w' from fun r hr W => by
            have := follows_u xp x W
            rw [hr] at this
            exact this)
          clear K3 K4 B3 B4 hcc hlt heb
          go_upto_region 7 with fail
          clear V3 V4 d0 d1 d2 d3 d4 d5 d6 d7 d8 d9 d10 d11 g0 g0' g1 g1' g2 g2' g3 g3' g4 g4' g5 g5' g6 g6' g7 g7' g8 g8' g9 g9' g10 g10' g11 g11'
          cases hev : evB x with
          | false =>
            have HF := Lib.hid (HNX.out (fun h => by have := (HSN.out h).1; rw [hev] at this; cases this))
            have CX := Lib.hid (CX0.out false hev)
            clear hev
            go_cut [57] from 24 to 57 (fun xv wx => xv = .bool true ∧ Hid (Below w4.heap.size w4 wx))
            case first =>
              have d0 := fun d os => (SX.out _ (below_regrown w4 d os)).1.1
              have d1 := fun d os => (SX.out _ (below_regrown w4 d os)).1.2.1
              have d2 := fun d os => (SX.out _ (below_regrown w4 d os)).1.2.2.1
              have d3 := fun d os => (SX.out _ (below_regrown w4 d os)).1.2.2.2.1
              have d4 := fun d os => (SX.out _ (below_regrown w4 d os)).1.2.2.2.2.1
              have d5 := fun d os => (SX.out _ (below_regrown w4 d os)).1.2.2.2.2.2.1
              have d6 := fun d os => (SX.out _ (below_regrown w4 d os)).1.2.2.2.2.2.2.1
              have d7 := fun d os => (SX.out _ (below_regrown w4 d os)).1.2.2.2.2.2.2.2.1
              have d8 := fun d os => (SX.out _ (below_regrown w4 d os)).1.2.2.2.2.2.2.2.2.1
              have d9 := fun d os => (SX.out _ (below_regrown w4 d os)).1.2.2.2.2.2.2.2.2.2.1
              have d10 := fun d os => (SX.out _ (below_regrown w4 d os)).1.2.2.2.2.2.2.2.2.2.2.1
              have d11 := fun d os => (SX.out _ (below_regrown w4 d os)).1.2.2.2.2.2.2.2.2.2.2.2
              have d12 := fun d os => (SX.out _ (below_regrown w4 d os)).2.1
              have d13 := fun d os => (SX.out _ (below_regrown w4 d os)).2.2
              refine wp_region_quiet_below (by kernel_rfl) (by kernel_rfl) ?_
              repeat (first | go_big_quiet_step ((first | (go_at_call 48; exact Calls.regrown_of (CX.out _ (below_regrown _ _ _))) | (go_at_call 49; exact Calls.regrown_of (CF.out _)))) | quiet_step ((first | (go_at_call 48; exact Calls.regrown_of (CX.out _ (below_regrown _ _ _))) | (go_at_call 49; exact Calls.regrown_of (CF.out _)))))
              refine wpQuiet_nil ?_
              intro _ hw'
              obtain ⟨⟨dq, osq⟩, hw''⟩ := hw'
              subst hw''
              go_wp2_with fail
              go_meet
              exact ⟨rfl, Lib.hid (below_regrown _ _ _)⟩
            case rest =>
              obtain ⟨rfl, HB5⟩ := hcut
              generalize wc = w5 at *
              go_wp2_with fail
              go_ret
              exact ⟨by rw [HF.out]; rfl, HBW.out.trans (HB5.out.mono HBW.out.size)⟩
          | true =>
            have CX := Lib.hid (CX0.out true hev)
            have HEV := Lib.hid hev
            clear hev CX0
            by_cases hag : x.ag < (f.dr.length : Int)
            · have HAG := Lib.hid hag
              have e1 : decide ((f.dr.length : Int) ≤ x.ag) = false := decide_eq_false (by omega)
              clear hag
              by_cases hop : x.op < (f.sv.length : Int)
              · have HOP := Lib.hid hop
                have e2 : decide ((f.sv.length : Int) ≤ x.op) = false := decide_eq_false (by omega)
                clear hop
                rcases Nat.eq_zero_or_pos k with hk0 | hk0
                · have HOK := Lib.hid ((HSO.out HEV.out HAG.out HOP.out).2 hk0)
                  have z0 : decide ((0 : Int) < (k : Int)) = false := decide_eq_false (by omega)
                  have z1 : decide (0 < k) = false := decide_eq_false (by omega)
                  clear hk0
                  go_cut [57] from 24 to 57 (fun xv wx => xv = .bool false ∧ Hid (Below w4.heap.size w4 wx))
                  case first =>
                    have d0 := fun d os => (SX.out _ (below_regrown w4 d os)).1.1
                    have d1 := fun d os => (SX.out _ (below_regrown w4 d os)).1.2.1
                    have d2 := fun d os => (SX.out _ (below_regrown w4 d os)).1.2.2.1
                    have d3 := fun d os => (SX.out _ (below_regrown w4 d os)).1.2.2.2.1
                    have d4 := fun d os => (SX.out _ (below_regrown w4 d os)).1.2.2.2.2.1
                    have d5 := fun d os => (SX.out _ (below_regrown w4 d os)).1.2.2.2.2.2.1
                    have d6 := fun d os => (SX.out _ (below_regrown w4 d os)).1.2.2.2.2.2.2.1
                    have d7 := fun d os => (SX.out _ (below_regrown w4 d os)).1.2.2.2.2.2.2.2.1
                    have d8 := fun d os => (SX.out _ (below_regrown w4 d os)).1.2.2.2.2.2.2.2.2.1
                    have d9 := fun d os => (SX.out _ (below_regrown w4 d os)).1.2.2.2.2.2.2.2.2.2.1
                    have d10 := fun d os => (SX.out _ (below_regrown w4 d os)).1.2.2.2.2.2.2.2.2.2.2.1
                    have d11 := fun d os => (SX.out _ (below_regrown w4 d os)).1.2.2.2.2.2.2.2.2.2.2.2
                    have d12 := fun d os => (SX.out _ (below_regrown w4 d os)).2.1
                    have d13 := fun d os => (SX.out _ (below_regrown w4 d os)).2.2
                    refine wp_region_quiet_below (by kernel_rfl) (by kernel_rfl) ?_
                    repeat (first | go_big_quiet_step ((first | (go_at_call 48; exact Calls.regrown_of (CX.out _ (below_regrown _ _ _))) | (go_at_call 49; exact Calls.regrown_of (CF.out _)))) | quiet_step ((first | (go_at_call 48; exact Calls.regrown_of (CX.out _ (below_regrown _ _ _))) | (go_at_call 49; exact Calls.regrown_of (CF.out _)))))
                    refine wpQuiet_nil ?_
                    intro _ hw'
                    obtain ⟨⟨dq, osq⟩, hw''⟩ := hw'
                    subst hw''
                    go_wp2_with fail
                    go_meet
                    exact ⟨rfl, Lib.hid (below_regrown _ _ _)⟩
                  case rest =>
                    obtain ⟨rfl, HB5⟩ := hcut
                    generalize wc = w5 at *
                    have HB6 := Lib.hid (HB4.out.trans (HB5.out.mono HB4.out.size))
                    go_wp2_with fail
                    go_roundw
                    case rel => exact ⟨k + 1, HLT.out, by go_num, HST.out HOK.out, Lib.hid (HBW.out.trans (HB5.out.mono HBW.out.size)), Lib.hid (HU.out.trans (HB6.out.mono (by omega))), Lib.hid (HF4.out.below HB5.out)⟩
                    case measure => have h9 := HLT.out; simp [RowKit.intOf]; omega
                · obtain ⟨kp, hkp⟩ : ∃ kp, k - 1 = kp := ⟨_, rfl⟩
                  have hkp2 : kp < l.length := by have := HLT.out; omega
                  have SP := Lib.hid (show ∀ W, Below w4.heap.size w4 W → EvCells W eb (eo + 12 * kp) xp from fun W b => by
                    have h := HCP.out hk0 W (HBW.out.trans (b.mono HBW.out.size))
                    rw [hkp] at h
                    exact h)
                  have hip := fun W => at_ev8 eb eo l.length c kp hkp2 W
                  have hw1 : IntKind.i64.wrap ((k : Int) - 1) = (kp : Int) := by rw [IntWalk.i64_in _ (by omega)]; omega
                  have hw2 : (k : Int) - 1 = (kp : Int) := by omega
                  have z0 : decide ((0 : Int) < (k : Int)) = true := decide_eq_true (by omega)
                  have z1 : decide (0 < k) = true := decide_eq_true hk0
                  have HFW := Lib.hid ((HSO.out HEV.out HAG.out HOP.out).1 hk0)
                  clear hk0 hkp
                  cases hfw : folwB xp x with
                  | false =>
                    have HF := Lib.hid (HNX.out (fun h => by have := HFW.out.2 h; rw [hfw] at this; cases this))
                    have CF := Lib.hid (CF0.out false hfw)
                    clear hfw
                    go_cut [57] from 24 to 57 (fun xv wx => xv = .bool true ∧ Hid (Below w4.heap.size w4 wx))
                    case first =>
                      have d0 := fun d os => (SX.out _ (below_regrown w4 d os)).1.1
                      have d1 := fun d os => (SX.out _ (below_regrown w4 d os)).1.2.1
                      have d2 := fun d os => (SX.out _ (below_regrown w4 d os)).1.2.2.1
                      have d3 := fun d os => (SX.out _ (below_regrown w4 d os)).1.2.2.2.1
                      have d4 := fun d os => (SX.out _ (below_regrown w4 d os)).1.2.2.2.2.1
                      have d5 := fun d os => (SX.out _ (below_regrown w4 d os)).1.2.2.2.2.2.1
                      have d6 := fun d os => (SX.out _ (below_regrown w4 d os)).1.2.2.2.2.2.2.1
                      have d7 := fun d os => (SX.out _ (below_regrown w4 d os)).1.2.2.2.2.2.2.2.1
                      have d8 := fun d os => (SX.out _ (below_regrown w4 d os)).1.2.2.2.2.2.2.2.2.1
                      have d9 := fun d os => (SX.out _ (below_regrown w4 d os)).1.2.2.2.2.2.2.2.2.2.1
                      have d10 := fun d os => (SX.out _ (below_regrown w4 d os)).1.2.2.2.2.2.2.2.2.2.2.1
                      have d11 := fun d os => (SX.out _ (below_regrown w4 d os)).1.2.2.2.2.2.2.2.2.2.2.2
                      have d12 := fun d os => (SX.out _ (below_regrown w4 d os)).2.1
                      have d13 := fun d os => (SX.out _ (below_regrown w4 d os)).2.2
                      have p0 := fun d os => (SP.out _ (below_regrown w4 d os)).1
                      have p1 := fun d os => (SP.out _ (below_regrown w4 d os)).2.1
                      have p2 := fun d os => (SP.out _ (below_regrown w4 d os)).2.2.1
                      have p3 := fun d os => (SP.out _ (below_regrown w4 d os)).2.2.2.1
                      have p4 := fun d os => (SP.out _ (below_regrown w4 d os)).2.2.2.2.1
                      have p5 := fun d os => (SP.out _ (below_regrown w4 d os)).2.2.2.2.2.1
                      have p6 := fun d os => (SP.out _ (below_regrown w4 d os)).2.2.2.2.2.2.1
                      have p7 := fun d os => (SP.out _ (below_regrown w4 d os)).2.2.2.2.2.2.2.1
                      have p8 := fun d os => (SP.out _ (below_regrown w4 d os)).2.2.2.2.2.2.2.2.1
                      have p9 := fun d os => (SP.out _ (below_regrown w4 d os)).2.2.2.2.2.2.2.2.2.1
                      have p10 := fun d os => (SP.out _ (below_regrown w4 d os)).2.2.2.2.2.2.2.2.2.2.1
                      have p11 := fun d os => (SP.out _ (below_regrown w4 d os)).2.2.2.2.2.2.2.2.2.2.2
                      refine wp_region_quiet_below (by kernel_rfl) (by kernel_rfl) ?_
                      repeat (first | go_big_quiet_step ((first | (go_at_call 48; exact Calls.regrown_of (CX.out _ (below_regrown _ _ _))) | (go_at_call 49; exact Calls.regrown_of (CF.out _)))) | quiet_step ((first | (go_at_call 48; exact Calls.regrown_of (CX.out _ (below_regrown _ _ _))) | (go_at_call 49; exact Calls.regrown_of (CF.out _)))))
                      refine wpQuiet_nil ?_
                      intro _ hw'
                      obtain ⟨⟨dq, osq⟩, hw''⟩ := hw'
                      subst hw''
                      go_wp2_with fail
                      go_meet
                      exact ⟨rfl, Lib.hid (below_regrown _ _ _)⟩
                    case rest =>
                      obtain ⟨rfl, HB5⟩ := hcut
                      generalize wc = w5 at *
                      go_wp2_with fail
                      go_ret
                      exact ⟨by rw [HF.out]; rfl, HBW.out.trans (HB5.out.mono HBW.out.size)⟩
                  | true =>
                    have HOK := Lib.hid (HFW.out.1 hfw)
                    have CF := Lib.hid (CF0.out true hfw)
                    clear hfw
                    go_cut [57] from 24 to 57 (fun xv wx => xv = .bool false ∧ Hid (Below w4.heap.size w4 wx))
                    case first =>
                      have d0 := fun d os => (SX.out _ (below_regrown w4 d os)).1.1
                      have d1 := fun d os => (SX.out _ (below_regrown w4 d os)).1.2.1
                      have d2 := fun d os => (SX.out _ (below_regrown w4 d os)).1.2.2.1
                      have d3 := fun d os => (SX.out _ (below_regrown w4 d os)).1.2.2.2.1
                      have d4 := fun d os => (SX.out _ (below_regrown w4 d os)).1.2.2.2.2.1
                      have d5 := fun d os => (SX.out _ (below_regrown w4 d os)).1.2.2.2.2.2.1
                      have d6 := fun d os => (SX.out _ (below_regrown w4 d os)).1.2.2.2.2.2.2.1
                      have d7 := fun d os => (SX.out _ (below_regrown w4 d os)).1.2.2.2.2.2.2.2.1
                      have d8 := fun d os => (SX.out _ (below_regrown w4 d os)).1.2.2.2.2.2.2.2.2.1
                      have d9 := fun d os => (SX.out _ (below_regrown w4 d os)).1.2.2.2.2.2.2.2.2.2.1
                      have d10 := fun d os => (SX.out _ (below_regrown w4 d os)).1.2.2.2.2.2.2.2.2.2.2.1
                      have d11 := fun d os => (SX.out _ (below_regrown w4 d os)).1.2.2.2.2.2.2.2.2.2.2.2
                      have d12 := fun d os => (SX.out _ (below_regrown w4 d os)).2.1
                      have d13 := fun d os => (SX.out _ (below_regrown w4 d os)).2.2
                      have p0 := fun d os => (SP.out _ (below_regrown w4 d os)).1
                      have p1 := fun d os => (SP.out _ (below_regrown w4 d os)).2.1
                      have p2 := fun d os => (SP.out _ (below_regrown w4 d os)).2.2.1
                      have p3 := fun d os => (SP.out _ (below_regrown w4 d os)).2.2.2.1
                      have p4 := fun d os => (SP.out _ (below_regrown w4 d os)).2.2.2.2.1
                      have p5 := fun d os => (SP.out _ (below_regrown w4 d os)).2.2.2.2.2.1
                      have p6 := fun d os => (SP.out _ (below_regrown w4 d os)).2.2.2.2.2.2.1
                      have p7 := fun d os => (SP.out _ (below_regrown w4 d os)).2.2.2.2.2.2.2.1
                      have p8 := fun d os => (SP.out _ (below_regrown w4 d os)).2.2.2.2.2.2.2.2.1
                      have p9 := fun d os => (SP.out _ (below_regrown w4 d os)).2.2.2.2.2.2.2.2.2.1
                      have p10 := fun d os => (SP.out _ (below_regrown w4 d os)).2.2.2.2.2.2.2.2.2.2.1
                      have p11 := fun d os => (SP.out _ (below_regrown w4 d os)).2.2.2.2.2.2.2.2.2.2.2
                      refine wp_region_quiet_below (by kernel_rfl) (by kernel_rfl) ?_
                      repeat (first | go_big_quiet_step ((first | (go_at_call 48; exact Calls.regrown_of (CX.out _ (below_regrown _ _ _))) | (go_at_call 49; exact Calls.regrown_of (CF.out _)))) | quiet_step ((first | (go_at_call 48; exact Calls.regrown_of (CX.out _ (below_regrown _ _ _))) | (go_at_call 49; exact Calls.regrown_of (CF.out _)))))
                      refine wpQuiet_nil ?_
                      intro _ hw'
                      obtain ⟨⟨dq, osq⟩, hw''⟩ := hw'
                      subst hw''
                      go_wp2_with fail
                      go_meet
                      exact ⟨rfl, Lib.hid (below_regrown _ _ _)⟩
                    case rest =>
                      obtain ⟨rfl, HB5⟩ := hcut
                      generalize wc = w5 at *
                      have HB6 := Lib.hid (HB4.out.trans (HB5.out.mono HB4.out.size))
                      go_wp2_with fail
                      go_roundw
                      case rel => exact ⟨k + 1, HLT.out, by go_num, HST.out HOK.out, Lib.hid (HBW.out.trans (HB5.out.mono HBW.out.size)), Lib.hid (HU.out.trans (HB6.out.mono (by omega))), Lib.hid (HF4.out.below HB5.out)⟩
                      case measure => have h9 := HLT.out; simp [RowKit.intOf]; omega
              · have HF := Lib.hid (HNX.out (fun h => hop (HSN.out h).2.2))
                have e2 : decide ((f.sv.length : Int) ≤ x.op) = true := decide_eq_true (by omega)
                clear hop
                go_cut [57] from 24 to 57 (fun xv wx => xv = .bool true ∧ Hid (Below w4.heap.size w4 wx))
                case first =>
                  have d0 := fun d os => (SX.out _ (below_regrown w4 d os)).1.1
                  have d1 := fun d os => (SX.out _ (below_regrown w4 d os)).1.2.1
                  have d2 := fun d os => (SX.out _ (below_regrown w4 d os)).1.2.2.1
                  have d3 := fun d os => (SX.out _ (below_regrown w4 d os)).1.2.2.2.1
                  have d4 := fun d os => (SX.out _ (below_regrown w4 d os)).1.2.2.2.2.1
                  have d5 := fun d os => (SX.out _ (below_regrown w4 d os)).1.2.2.2.2.2.1
                  have d6 := fun d os => (SX.out _ (below_regrown w4 d os)).1.2.2.2.2.2.2.1
                  have d7 := fun d os => (SX.out _ (below_regrown w4 d os)).1.2.2.2.2.2.2.2.1
                  have d8 := fun d os => (SX.out _ (below_regrown w4 d os)).1.2.2.2.2.2.2.2.2.1
                  have d9 := fun d os => (SX.out _ (below_regrown w4 d os)).1.2.2.2.2.2.2.2.2.2.1
                  have d10 := fun d os => (SX.out _ (below_regrown w4 d os)).1.2.2.2.2.2.2.2.2.2.2.1
                  have d11 := fun d os => (SX.out _ (below_regrown w4 d os)).1.2.2.2.2.2.2.2.2.2.2.2
                  have d12 := fun d os => (SX.out _ (below_regrown w4 d os)).2.1
                  have d13 := fun d os => (SX.out _ (below_regrown w4 d os)).2.2
                  refine wp_region_quiet_below (by kernel_rfl) (by kernel_rfl) ?_
                  repeat (first | go_big_quiet_step ((first | (go_at_call 48; exact Calls.regrown_of (CX.out _ (below_regrown _ _ _))) | (go_at_call 49; exact Calls.regrown_of (CF.out _)))) | quiet_step ((first | (go_at_call 48; exact Calls.regrown_of (CX.out _ (below_regrown _ _ _))) | (go_at_call 49; exact Calls.regrown_of (CF.out _)))))
                  refine wpQuiet_nil ?_
                  intro _ hw'
                  obtain ⟨⟨dq, osq⟩, hw''⟩ := hw'
                  subst hw''
                  go_wp2_with fail
                  go_meet
                  exact ⟨rfl, Lib.hid (below_regrown _ _ _)⟩
                case rest =>
                  obtain ⟨rfl, HB5⟩ := hcut
                  generalize wc = w5 at *
                  go_wp2_with fail
                  go_ret
                  exact ⟨by rw [HF.out]; rfl, HBW.out.trans (HB5.out.mono HBW.out.size)⟩
            · have HF := Lib.hid (HNX.out (fun h => hag (HSN.out h).2.1))
              have e1 : decide ((f.dr.length : Int) ≤ x.ag) = true := decide_eq_true (by omega)
              clear hag
              go_cut [57] from 24 to 57 (fun xv wx => xv = .bool true ∧ Hid (Below w4.heap.size w4 wx))
              case first =>
                have d0 := fun d os => (SX.out _ (below_regrown w4 d os)).1.1
                have d1 := fun d os => (SX.out _ (below_regrown w4 d os)).1.2.1
                have d2 := fun d os => (SX.out _ (below_regrown w4 d os)).1.2.2.1
                have d3 := fun d os => (SX.out _ (below_regrown w4 d os)).1.2.2.2.1
                have d4 := fun d os => (SX.out _ (below_regrown w4 d os)).1.2.2.2.2.1
                have d5 := fun d os => (SX.out _ (below_regrown w4 d os)).1.2.2.2.2.2.1
                have d6 := fun d os => (SX.out _ (below_regrown w4 d os)).1.2.2.2.2.2.2.1
                have d7 := fun d os => (SX.out _ (below_regrown w4 d os)).1.2.2.2.2.2.2.2.1
                have d8 := fun d os => (SX.out _ (below_regrown w4 d os)).1.2.2.2.2.2.2.2.2.1
                have d9 := fun d os => (SX.out _ (below_regrown w4 d os)).1.2.2.2.2.2.2.2.2.2.1
                have d10 := fun d os => (SX.out _ (below_regrown w4 d os)).1.2.2.2.2.2.2.2.2.2.2.1
                have d11 := fun d os => (SX.out _ (below_regrown w4 d os)).1.2.2.2.2.2.2.2.2.2.2.2
                have d12 := fun d os => (SX.out _ (below_regrown w4 d os)).2.1
                have d13 := fun d os => (SX.out _ (below_regrown w4 d os)).2.2
                refine wp_region_quiet_below (by kernel_rfl) (by kernel_rfl) ?_
                repeat (first | go_big_quiet_step ((first | (go_at_call 48; exact Calls.regrown_of (CX.out _ (below_regrown _ _ _))) | (go_at_call 49; exact Calls.regrown_of (CF.out _)))) | quiet_step ((first | (go_at_call 48; exact Calls.regrown_of (CX.out _ (below_regrown _ _ _))) | (go_at_call 49; exact Calls.regrown_of (CF.out _)))))
                refine wpQuiet_nil ?_
                intro _ hw'
                obtain ⟨⟨dq, osq⟩, hw''⟩ := hw'
                subst hw''
                go_wp2_with fail
                go_meet
                exact ⟨rfl, Lib.hid (below_regrown _ _ _)⟩
              case rest =>
                obtain ⟨rfl, HB5⟩ := hcut
                generalize wc = w5 at *
                go_wp2_with fail
                go_ret
                exact ⟨by rw [HF.out]; rfl, HBW.out.trans (HB5.out.mono HBW.out.size)⟩
        · have hke : k = l.length := by omega
          have HF := Lib.hid (HYES.out ⟨HV.out, by omega, fun i hi => HS.out i (by omega)⟩)
          have hki : ¬ (k : Int) < (l.length : Int) := by omega
          clear hlt
          go_wp2_with fail
          go_ret
          exact ⟨by rw [HF.out]; rfl, HB.out⟩
end Go.Proofs.YtifdcfjllonmgaaDoor
