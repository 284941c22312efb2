/-
  Layer 8: the reference's Events.
-/
import Derived.Test.YtamefmojocegkaaDoorE04
import Derived.Deep.RegionHeld3
import Derived.Lib.QuietBelow
import Derived.Deep.DeepCutAuto
import Derived.WalkKit
import Derived.WalkLawsBesides
import Derived.Outline
import Derived.Lib.Hide
import Derived.Below
import Derived.BigQuiet
import Derived.Deep.QuietTactic
import Derived.Laws.Rows
import Derived.Laws.OwnMore
import Derived.OwnWalk
namespace Go.Proofs.YtamefmojocegkaaDoor
open Go Go.Proofs Go.RowKit Go.Lib

theorem below_hid8 {w W W2 : World} (h : Hid (Below w.heap.size w W)) (h2 : Hid (Below W.heap.size W W2)) : Hid (Below w.heap.size w W2) := Lib.hid (below_up8 h.out h2.out)
set_option maxRecDepth 100000 in
set_option maxHeartbeats 16000000 in
theorem eventsR_any (v : Value) (f : Fl) (ad : Option Addr) (c : Nat) (l : List Ev) (hfit : f.fit) (hl : l.length ≤ maxLen) (w : World) (hf : FlAt w v f) (hI : RL KE w ad l) :
    Calls Tryd.prog 19 #[v, .slice ad l.length c] w fun e w' => e = .returned (.bool (evsB f l)) ∧ Below w.heap.size w w' := by
  unfold maxLen at hl
  have HFA := Lib.hid (fun W (b : Below w.heap.size w W) => hf.below b)
  obtain ⟨x1, c1, x2, c2, x3, c3, rfl, _, _, _⟩ := hf
  obtain ⟨f1, f2, f3⟩ := hfit
  have CV := Lib.hid (fun W h => validR_any (.agg #[.slice x1 f.dr.length c1, .int .i64 f.lat, .int .i64 f.lia, .slice x2 f.sv.length c2, .slice x3 f.tm.length c3]) f ⟨f1, f2, f3⟩ W h)
  have CE := Lib.hid (fun x W => eventR_any x W)
  obtain ⟨B, hB⟩ : ∃ B, evsB f l = B := ⟨_, rfl⟩
  rw [hB]
  have HNO := Lib.hid (fun h : ¬ EvsOk f l => show B = false by rw [← hB]; exact evsB_no h)
  have HYES := Lib.hid (fun h : EvsOk f l => show B = true by rw [← hB]; exact evsB_yes h)
  have HC := Lib.hid (fun h => hI.evs h)
  have HX := Lib.hid (fun o => (Below.refl w.heap.size w).alloc (Nat.le_refl _) o)
  clear hB hI
  go_enter Tryd.func19, Tryd.ntmps19
  go_wp2_with fail
  refine (CV.out _ (HFA.out _ (HX.out _))).mono ?_
  rintro e w1 ⟨rfl, hb⟩
  have HB := Lib.hid ((HX.out _).trans (hb.mono (by simp)))
  have HK := Lib.hid (show CellsAt w1 w.heap.size [.slice x1 f.dr.length c1, .int .i64 f.lat, .int .i64 f.lia, .slice x2 f.sv.length c2, .slice x3 f.tm.length c3] from (cellsAt_new rfl).below hb)
  have hz : w.heap.size < w1.heap.size := by have := hb.size; simp at this; omega
  clear hb
  cases hv : flB f with
  | false =>
    have HF := Lib.hid (HNO.out (fun h => by rw [h.1] at hv; cases hv))
    clear hv
    go_wp2_with fail
    go_ret
    exact ⟨by rw [HF.out]; rfl, HB.out⟩
  | true =>
    have HV := Lib.hid hv
    clear hv
    by_cases h24 : (24 : Int) < (l.length : Int)
    · have HF := Lib.hid (HNO.out (fun h => by have := h.2.1; omega))
      go_wp2_with fail
      go_ret
      exact ⟨by rw [HF.out]; rfl, HB.out⟩
    · go_wp2_with fail
      go_loopw [5] (fun i wr => ∃ k : Nat, k ≤ l.length ∧ i = .int .i64 k ∧ Hid (∀ j, j < k → StepOk f l j) ∧ Hid (Below w.heap.size w wr) ∧ Hid (CellsAt wr w.heap.size [.slice x1 f.dr.length c1, .int .i64 f.lat, .int .i64 f.lia, .slice x2 f.sv.length c2, .slice x3 f.tm.length c3] ∧ w.heap.size < wr.heap.size)) (fun i _ => l.length - (RowKit.intOf i).toNat)
      case atStart => exact ⟨0, Nat.zero_le _, rfl, Lib.hid (fun j h => absurd h (Nat.not_lt_zero _)), HB, Lib.hid ⟨HK.out, hz⟩⟩
      case round =>
        clear HK hz HB
        obtain ⟨k, hk, rfl, HS, HB, HK⟩ := hrel
        generalize wr = w2 at *
        by_cases hlt : k < l.length
        · have hki : (k : Int) < (l.length : Int) := by omega
          obtain ⟨eb, eo, rfl, _, hcc⟩ := HC.out (by omega)
          have hcE := hcc k hlt
          have hc0 := fun W' hb => (hcc 0 (by omega) W' hb).2.2.2.2.1
          simp only [Nat.mul_zero, Nat.add_zero] at hc0
          have hcP := fun (h : 0 < k) => hcc (k - 1) (by omega)
          have hik := fun W => at_ev8 eb eo l.length c k hlt W
          have hi0 := fun W => at_ev8 eb eo l.length c 0 (by omega) W
          have HLT := Lib.hid hlt
          have HNX := Lib.hid (fun h : ¬ StepOk f l k => HNO.out (fun h9 => h (h9.2.2 k HLT.out)))
          have HST := Lib.hid (show StepOk f l k → ∀ j, j < k + 1 → StepOk f l j from fun h j hj => by
            rcases Nat.lt_or_ge j k with h9 | h9
            · exact HS.out j h9
            · obtain rfl : j = k := by omega
              exact h)
          have HSK := Lib.hid (show StepOk f l k ↔ evB (evD l k) = true ∧ (evD l k).ag < (f.dr.length : Int) ∧ (evD l k).tr = (evD l 0).tr ∧ ¬ ((evD l k).kd = 1 ∧ (f.sv.length : Int) ≤ (evD l k).op) ∧
            (0 < k → ¬ (evD l k).ag < (evD l (k - 1)).ag ∧ ¬ ((evD l k).ag = (evD l (k - 1)).ag ∧ (evD l k).sq ≤ (evD l (k - 1)).sq)) from Iff.rfl)
          generalize evD l k = x at *
          generalize hx0 : (evD l 0).tr = t0 at *
          generalize evD l (k - 1) = xp at *
          have KV := Lib.hid x.val_mk
          have CX := Lib.hid (CE.out x)
          rw [KV.out] at CX
          have HCE := Lib.hid hcE; have HC0 := Lib.hid hc0; have HCP := Lib.hid hcP
          have HKX := Lib.hid (fun (W : World) (b : Below w2.heap.size w2 W) => HK.out.1.below b)
          clear hcE hc0 hcP hcc hlt hx0
          have SX : ∀ W, Below w2.heap.size w2 W → (W.cell? ⟨eb, eo + 12 * k, none⟩ = some (.int .i64 x.ag) ∧ W.cell? ⟨eb, eo + 12 * k + 1, none⟩ = some (.int .i64 x.sq) ∧ W.cell? ⟨eb, eo + 12 * k + 2, none⟩ = some (.int .i64 x.tm) ∧ W.cell? ⟨eb, eo + 12 * k + 3, none⟩ = some (.int .i64 x.kd) ∧ W.cell? ⟨eb, eo + 12 * k + 4, none⟩ = some (.int .i64 x.tr) ∧ W.cell? ⟨eb, eo + 12 * k + 5, none⟩ = some (.int .i64 x.sp) ∧ W.cell? ⟨eb, eo + 12 * k + 6, none⟩ = some (.int .i64 x.lk) ∧ W.cell? ⟨eb, eo + 12 * k + 7, none⟩ = some (.int .i64 x.gn) ∧ W.cell? ⟨eb, eo + 12 * k + 8, none⟩ = some (.int .i64 x.op) ∧ W.cell? ⟨eb, eo + 12 * k + 9, none⟩ = some (.int .i64 x.vr) ∧ W.cell? ⟨eb, eo + 12 * k + 10, none⟩ = some (.int .i64 x.pe) ∧ W.cell? ⟨eb, eo + 12 * k + 11, none⟩ = some (.int .i64 x.bt)) ∧ W.cell? ⟨eb, eo + 4, none⟩ = some (.int .i64 t0) ∧ W.cell? ⟨w.heap.size, 0, none⟩ = some (.slice x1 f.dr.length c1) ∧ W.cell? ⟨w.heap.size, 3, none⟩ = some (.slice x2 f.sv.length c2) := fun W b => by
            obtain ⟨d0, d1, d2, d3, d4, d5, d6, d7, d8, d9, d10, d11⟩ := HCE.out W (below_up8 HB.out b)
            exact ⟨⟨d0, d1, d2, d3, d4, d5, d6, d7, d8, d9, d10, d11⟩, HC0.out W (below_up8 HB.out b), (HKX.out W b 0 (by simp)).1, (HKX.out W b 3 (by simp)).1⟩
          have SX := Lib.hid SX
          have CX0 := fun (b : Bool) (h : evB x = b) => Lib.hid (fun W => by have h2 := CX.out W; rw [h] at h2; exact h2)
          cases hev : evB x with
          | false =>
            have HF := Lib.hid (HNX.out (fun h => by have := (HSK.out.1 h).1; rw [hev] at this; cases this))
            have CX1 := CX0 false hev
            clear CX0 hev
            go_upto_region 6 with fail
            go_cut [48] from 20 to 48 (fun xv wx => xv = .bool true ∧ Hid (Below w2.heap.size w2 wx))
            case first =>
              skip
              have d0 := fun d os => (SX.out _ (below_regrown w2 d os)).1.1
              have d1 := fun d os => (SX.out _ (below_regrown w2 d os)).1.2.1
              have d2 := fun d os => (SX.out _ (below_regrown w2 d os)).1.2.2.1
              have d3 := fun d os => (SX.out _ (below_regrown w2 d os)).1.2.2.2.1
              have d4 := fun d os => (SX.out _ (below_regrown w2 d os)).1.2.2.2.2.1
              have d5 := fun d os => (SX.out _ (below_regrown w2 d os)).1.2.2.2.2.2.1
              have d6 := fun d os => (SX.out _ (below_regrown w2 d os)).1.2.2.2.2.2.2.1
              have d7 := fun d os => (SX.out _ (below_regrown w2 d os)).1.2.2.2.2.2.2.2.1
              have d8 := fun d os => (SX.out _ (below_regrown w2 d os)).1.2.2.2.2.2.2.2.2.1
              have d9 := fun d os => (SX.out _ (below_regrown w2 d os)).1.2.2.2.2.2.2.2.2.2.1
              have d10 := fun d os => (SX.out _ (below_regrown w2 d os)).1.2.2.2.2.2.2.2.2.2.2.1
              have d11 := fun d os => (SX.out _ (below_regrown w2 d os)).1.2.2.2.2.2.2.2.2.2.2.2
              have d12 := fun d os => (SX.out _ (below_regrown w2 d os)).2.1
              have d13 := fun d os => (SX.out _ (below_regrown w2 d os)).2.2.1
              have d14 := fun d os => (SX.out _ (below_regrown w2 d os)).2.2.2
              refine wp_region_quiet_below (by kernel_rfl) (by kernel_rfl) ?_
              repeat (first | go_big_quiet_step (((go_at_call 24; exact Calls.regrown_of (CX1.out _)))) | quiet_step (((go_at_call 24; exact Calls.regrown_of (CX1.out _)))))
              refine wpQuiet_nil ?_
              intro _ hw'
              obtain ⟨⟨dq, osq⟩, hw''⟩ := hw'
              subst hw''
              go_wp2_with fail
              go_meet
              exact ⟨rfl, Lib.hid (below_regrown _ _ _)⟩
            case rest =>
              obtain ⟨rfl, HB16⟩ := hcut
              generalize wc = w16 at *
              go_wp2_with fail
              go_ret
              exact ⟨by rw [HF.out]; rfl, below_up8 HB.out HB16.out⟩
          | true =>
            have HEV := Lib.hid hev
            have CX1 := CX0 true hev
            clear CX0 hev
            by_cases hag : x.ag < (f.dr.length : Int)
            · by_cases htr : x.tr = t0
              · have HTR := Lib.hid htr
                have ag1 : decide ((f.dr.length : Int) ≤ x.ag) = false := decide_eq_false (by omega)
                have tr1 : (x.tr != t0) = false := by rw [htr]; simp
                clear htr
                go_upto_region 6 with fail
                go_cut [48] from 20 to 48 (fun xv wx => xv = .bool false ∧ Hid (Below w2.heap.size w2 wx))
                case first =>
                  skip
                  have d0 := fun d os => (SX.out _ (below_regrown w2 d os)).1.1
                  have d1 := fun d os => (SX.out _ (below_regrown w2 d os)).1.2.1
                  have d2 := fun d os => (SX.out _ (below_regrown w2 d os)).1.2.2.1
                  have d3 := fun d os => (SX.out _ (below_regrown w2 d os)).1.2.2.2.1
                  have d4 := fun d os => (SX.out _ (below_regrown w2 d os)).1.2.2.2.2.1
                  have d5 := fun d os => (SX.out _ (below_regrown w2 d os)).1.2.2.2.2.2.1
                  have d6 := fun d os => (SX.out _ (below_regrown w2 d os)).1.2.2.2.2.2.2.1
                  have d7 := fun d os => (SX.out _ (below_regrown w2 d os)).1.2.2.2.2.2.2.2.1
                  have d8 := fun d os => (SX.out _ (below_regrown w2 d os)).1.2.2.2.2.2.2.2.2.1
                  have d9 := fun d os => (SX.out _ (below_regrown w2 d os)).1.2.2.2.2.2.2.2.2.2.1
                  have d10 := fun d os => (SX.out _ (below_regrown w2 d os)).1.2.2.2.2.2.2.2.2.2.2.1
                  have d11 := fun d os => (SX.out _ (below_regrown w2 d os)).1.2.2.2.2.2.2.2.2.2.2.2
                  have d12 := fun d os => (SX.out _ (below_regrown w2 d os)).2.1
                  have d13 := fun d os => (SX.out _ (below_regrown w2 d os)).2.2.1
                  have d14 := fun d os => (SX.out _ (below_regrown w2 d os)).2.2.2
                  refine wp_region_quiet_below (by kernel_rfl) (by kernel_rfl) ?_
                  repeat (first | go_big_quiet_step (((go_at_call 24; exact Calls.regrown_of (CX1.out _)))) | quiet_step (((go_at_call 24; exact Calls.regrown_of (CX1.out _)))))
                  refine wpQuiet_nil ?_
                  intro _ hw'
                  obtain ⟨⟨dq, osq⟩, hw''⟩ := hw'
                  subst hw''
                  go_wp2_with fail
                  go_meet
                  exact ⟨rfl, Lib.hid (below_regrown _ _ _)⟩
                case rest =>
                  obtain ⟨rfl, HB16⟩ := hcut
                  generalize wc = w16 at *
                  clear ag1 tr1
                  by_cases hop : x.kd = 1 ∧ (f.sv.length : Int) ≤ x.op
                  · have HF := Lib.hid (HNX.out (fun h => (HSK.out.1 h).2.2.2.1 hop))
                    go_upto_region 8 with fail
                    go_cut [65] from 49 to 65 (fun xv wx => xv = .bool true ∧ Hid (Below w2.heap.size w2 wx))
                    case first =>
                      have o1 : (x.kd == 1) = true := by rw [beq_iff_eq]; exact hop.1
                      have o2 : decide ((f.sv.length : Int) ≤ x.op) = true := decide_eq_true hop.2
                      clear hop
                      have d0 := fun d os => (SX.out _ (below_up8 HB16.out (below_regrown w16 d os))).1.1
                      have d1 := fun d os => (SX.out _ (below_up8 HB16.out (below_regrown w16 d os))).1.2.1
                      have d2 := fun d os => (SX.out _ (below_up8 HB16.out (below_regrown w16 d os))).1.2.2.1
                      have d3 := fun d os => (SX.out _ (below_up8 HB16.out (below_regrown w16 d os))).1.2.2.2.1
                      have d4 := fun d os => (SX.out _ (below_up8 HB16.out (below_regrown w16 d os))).1.2.2.2.2.1
                      have d5 := fun d os => (SX.out _ (below_up8 HB16.out (below_regrown w16 d os))).1.2.2.2.2.2.1
                      have d6 := fun d os => (SX.out _ (below_up8 HB16.out (below_regrown w16 d os))).1.2.2.2.2.2.2.1
                      have d7 := fun d os => (SX.out _ (below_up8 HB16.out (below_regrown w16 d os))).1.2.2.2.2.2.2.2.1
                      have d8 := fun d os => (SX.out _ (below_up8 HB16.out (below_regrown w16 d os))).1.2.2.2.2.2.2.2.2.1
                      have d9 := fun d os => (SX.out _ (below_up8 HB16.out (below_regrown w16 d os))).1.2.2.2.2.2.2.2.2.2.1
                      have d10 := fun d os => (SX.out _ (below_up8 HB16.out (below_regrown w16 d os))).1.2.2.2.2.2.2.2.2.2.2.1
                      have d11 := fun d os => (SX.out _ (below_up8 HB16.out (below_regrown w16 d os))).1.2.2.2.2.2.2.2.2.2.2.2
                      have d12 := fun d os => (SX.out _ (below_up8 HB16.out (below_regrown w16 d os))).2.1
                      have d13 := fun d os => (SX.out _ (below_up8 HB16.out (below_regrown w16 d os))).2.2.1
                      have d14 := fun d os => (SX.out _ (below_up8 HB16.out (below_regrown w16 d os))).2.2.2
                      refine wp_region_quiet_below (by kernel_rfl) (by kernel_rfl) ?_
                      repeat (first | go_big_quiet_step ((fail)) | quiet_step ((fail)))
                      refine wpQuiet_nil ?_
                      intro _ hw'
                      obtain ⟨⟨dq, osq⟩, hw''⟩ := hw'
                      subst hw''
                      go_wp2_with fail
                      go_meet
                      exact ⟨rfl, Lib.hid (below_up8 HB16.out (below_regrown _ _ _))⟩
                    case rest =>
                      obtain ⟨rfl, HB18⟩ := hcut
                      generalize wc = w18 at *
                      go_wp2_with fail
                      go_ret
                      exact ⟨by rw [HF.out]; rfl, below_up8 HB.out HB18.out⟩
                  · have HOP := Lib.hid hop
                    by_cases hkd : x.kd = 1
                    · have o1 : (x.kd == 1) = true := by rw [beq_iff_eq]; exact hkd
                      have o2 : decide ((f.sv.length : Int) ≤ x.op) = false := decide_eq_false (fun h => hop ⟨hkd, h⟩)
                      clear hop hkd
                      go_upto_region 8 with fail
                      go_cut [65] from 49 to 65 (fun xv wx => xv = .bool false ∧ Hid (Below w2.heap.size w2 wx))
                      case first =>
                        skip
                        have d0 := fun d os => (SX.out _ (below_up8 HB16.out (below_regrown w16 d os))).1.1
                        have d1 := fun d os => (SX.out _ (below_up8 HB16.out (below_regrown w16 d os))).1.2.1
                        have d2 := fun d os => (SX.out _ (below_up8 HB16.out (below_regrown w16 d os))).1.2.2.1
                        have d3 := fun d os => (SX.out _ (below_up8 HB16.out (below_regrown w16 d os))).1.2.2.2.1
                        have d4 := fun d os => (SX.out _ (below_up8 HB16.out (below_regrown w16 d os))).1.2.2.2.2.1
                        have d5 := fun d os => (SX.out _ (below_up8 HB16.out (below_regrown w16 d os))).1.2.2.2.2.2.1
                        have d6 := fun d os => (SX.out _ (below_up8 HB16.out (below_regrown w16 d os))).1.2.2.2.2.2.2.1
                        have d7 := fun d os => (SX.out _ (below_up8 HB16.out (below_regrown w16 d os))).1.2.2.2.2.2.2.2.1
                        have d8 := fun d os => (SX.out _ (below_up8 HB16.out (below_regrown w16 d os))).1.2.2.2.2.2.2.2.2.1
                        have d9 := fun d os => (SX.out _ (below_up8 HB16.out (below_regrown w16 d os))).1.2.2.2.2.2.2.2.2.2.1
                        have d10 := fun d os => (SX.out _ (below_up8 HB16.out (below_regrown w16 d os))).1.2.2.2.2.2.2.2.2.2.2.1
                        have d11 := fun d os => (SX.out _ (below_up8 HB16.out (below_regrown w16 d os))).1.2.2.2.2.2.2.2.2.2.2.2
                        have d12 := fun d os => (SX.out _ (below_up8 HB16.out (below_regrown w16 d os))).2.1
                        have d13 := fun d os => (SX.out _ (below_up8 HB16.out (below_regrown w16 d os))).2.2.1
                        have d14 := fun d os => (SX.out _ (below_up8 HB16.out (below_regrown w16 d os))).2.2.2
                        refine wp_region_quiet_below (by kernel_rfl) (by kernel_rfl) ?_
                        repeat (first | go_big_quiet_step ((fail)) | quiet_step ((fail)))
                        refine wpQuiet_nil ?_
                        intro _ hw'
                        obtain ⟨⟨dq, osq⟩, hw''⟩ := hw'
                        subst hw''
                        go_wp2_with fail
                        go_meet
                        exact ⟨rfl, Lib.hid (below_up8 HB16.out (below_regrown _ _ _))⟩
                      case rest =>
                        obtain ⟨rfl, HB18⟩ := hcut
                        generalize wc = w18 at *
                        rcases Nat.eq_zero_or_pos k with hk0 | hk0
                        · have HOK := Lib.hid (HSK.out.2 ⟨HEV.out, hag, HTR.out, HOP.out, fun h => by omega⟩)
                          go_upto_region 10 with fail
                          go_cut [113] from 66 to 113 (fun xv wx => xv = .bool false ∧ Hid (Below w2.heap.size w2 wx))
                          case first =>
                            have z0 : decide ((0 : Int) < (k : Int)) = false := decide_eq_false (by omega)
                            have z1 : decide (0 < k) = false := decide_eq_false (by omega)
                            clear hk0
                            have d0 := fun d os => (SX.out _ (below_up8 HB18.out (below_regrown w18 d os))).1.1
                            have d1 := fun d os => (SX.out _ (below_up8 HB18.out (below_regrown w18 d os))).1.2.1
                            have d2 := fun d os => (SX.out _ (below_up8 HB18.out (below_regrown w18 d os))).1.2.2.1
                            have d3 := fun d os => (SX.out _ (below_up8 HB18.out (below_regrown w18 d os))).1.2.2.2.1
                            have d4 := fun d os => (SX.out _ (below_up8 HB18.out (below_regrown w18 d os))).1.2.2.2.2.1
                            have d5 := fun d os => (SX.out _ (below_up8 HB18.out (below_regrown w18 d os))).1.2.2.2.2.2.1
                            have d6 := fun d os => (SX.out _ (below_up8 HB18.out (below_regrown w18 d os))).1.2.2.2.2.2.2.1
                            have d7 := fun d os => (SX.out _ (below_up8 HB18.out (below_regrown w18 d os))).1.2.2.2.2.2.2.2.1
                            have d8 := fun d os => (SX.out _ (below_up8 HB18.out (below_regrown w18 d os))).1.2.2.2.2.2.2.2.2.1
                            have d9 := fun d os => (SX.out _ (below_up8 HB18.out (below_regrown w18 d os))).1.2.2.2.2.2.2.2.2.2.1
                            have d10 := fun d os => (SX.out _ (below_up8 HB18.out (below_regrown w18 d os))).1.2.2.2.2.2.2.2.2.2.2.1
                            have d11 := fun d os => (SX.out _ (below_up8 HB18.out (below_regrown w18 d os))).1.2.2.2.2.2.2.2.2.2.2.2
                            have d12 := fun d os => (SX.out _ (below_up8 HB18.out (below_regrown w18 d os))).2.1
                            have d13 := fun d os => (SX.out _ (below_up8 HB18.out (below_regrown w18 d os))).2.2.1
                            have d14 := fun d os => (SX.out _ (below_up8 HB18.out (below_regrown w18 d os))).2.2.2
                            refine wp_region_quiet_below (by kernel_rfl) (by kernel_rfl) ?_
                            repeat (first | go_big_quiet_step ((fail)) | quiet_step ((fail)))
                            refine wpQuiet_nil ?_
                            intro _ hw'
                            obtain ⟨⟨dq, osq⟩, hw''⟩ := hw'
                            subst hw''
                            go_wp2_with fail
                            go_meet
                            exact ⟨rfl, Lib.hid (below_up8 HB18.out (below_regrown _ _ _))⟩
                          case rest =>
                            obtain ⟨rfl, HB20⟩ := hcut
                            generalize wc = w20 at *
                            go_wp2_with fail
                            go_roundw
                            case rel => exact ⟨k + 1, HLT.out, by go_num, HST.out HOK.out, below_hid8 HB HB20, Lib.hid ⟨HKX.out _ HB20.out, by have := HB20.out.size; have := HK.out.2; omega⟩⟩
                            case measure => have h9 := HLT.out; simp [RowKit.intOf]; omega
                        · obtain ⟨kp, hkp⟩ : ∃ kp, k - 1 = kp := ⟨_, rfl⟩
                          have hkp2 : kp < l.length := by have := HLT.out; omega
                          have SP : ∀ W, Below w2.heap.size w2 W → W.cell? ⟨eb, eo + 12 * kp, none⟩ = some (.int .i64 xp.ag) ∧ W.cell? ⟨eb, eo + 12 * kp + 1, none⟩ = some (.int .i64 xp.sq) := fun W b => by
                            have h := HCP.out hk0 W (below_up8 HB.out b)
                            rw [hkp] at h
                            exact ⟨h.1, h.2.1⟩
                          have SP := Lib.hid SP
                          have hip := fun W => at_ev8 eb eo l.length c kp hkp2 W
                          have hw1 : IntKind.i64.wrap ((k : Int) - 1) = (kp : Int) := by rw [IntWalk.i64_in _ (by omega)]; omega
                          have hw2 : (k : Int) - 1 = (kp : Int) := by omega
                          have z0 : decide ((0 : Int) < (k : Int)) = true := decide_eq_true (by omega)
                          have z1 : decide (0 < k) = true := decide_eq_true hk0
                          have HK0 := Lib.hid hk0
                          clear hk0 hkp
                          by_cases c1 : x.ag < xp.ag
                          · have HF := Lib.hid (HNX.out (fun h => ((HSK.out.1 h).2.2.2.2 HK0.out).1 c1))
                            go_upto_region 10 with fail
                            go_cut [113] from 66 to 113 (fun xv wx => xv = .bool true ∧ Hid (Below w2.heap.size w2 wx))
                            case first =>
                              have e1 : decide (x.ag < xp.ag) = true := decide_eq_true c1
                              clear c1
                              have d0 := fun d os => (SX.out _ (below_up8 HB18.out (below_regrown w18 d os))).1.1
                              have d1 := fun d os => (SX.out _ (below_up8 HB18.out (below_regrown w18 d os))).1.2.1
                              have d2 := fun d os => (SX.out _ (below_up8 HB18.out (below_regrown w18 d os))).1.2.2.1
                              have d3 := fun d os => (SX.out _ (below_up8 HB18.out (below_regrown w18 d os))).1.2.2.2.1
                              have d4 := fun d os => (SX.out _ (below_up8 HB18.out (below_regrown w18 d os))).1.2.2.2.2.1
                              have d5 := fun d os => (SX.out _ (below_up8 HB18.out (below_regrown w18 d os))).1.2.2.2.2.2.1
                              have d6 := fun d os => (SX.out _ (below_up8 HB18.out (below_regrown w18 d os))).1.2.2.2.2.2.2.1
                              have d7 := fun d os => (SX.out _ (below_up8 HB18.out (below_regrown w18 d os))).1.2.2.2.2.2.2.2.1
                              have d8 := fun d os => (SX.out _ (below_up8 HB18.out (below_regrown w18 d os))).1.2.2.2.2.2.2.2.2.1
                              have d9 := fun d os => (SX.out _ (below_up8 HB18.out (below_regrown w18 d os))).1.2.2.2.2.2.2.2.2.2.1
                              have d10 := fun d os => (SX.out _ (below_up8 HB18.out (below_regrown w18 d os))).1.2.2.2.2.2.2.2.2.2.2.1
                              have d11 := fun d os => (SX.out _ (below_up8 HB18.out (below_regrown w18 d os))).1.2.2.2.2.2.2.2.2.2.2.2
                              have d12 := fun d os => (SX.out _ (below_up8 HB18.out (below_regrown w18 d os))).2.1
                              have d13 := fun d os => (SX.out _ (below_up8 HB18.out (below_regrown w18 d os))).2.2.1
                              have d14 := fun d os => (SX.out _ (below_up8 HB18.out (below_regrown w18 d os))).2.2.2
                              have p0 := fun d os => (SP.out _ (below_up8 HB18.out (below_regrown w18 d os))).1
                              have p1 := fun d os => (SP.out _ (below_up8 HB18.out (below_regrown w18 d os))).2
                              refine wp_region_quiet_below (by kernel_rfl) (by kernel_rfl) ?_
                              repeat (first | go_big_quiet_step ((fail)) | quiet_step ((fail)))
                              refine wpQuiet_nil ?_
                              intro _ hw'
                              obtain ⟨⟨dq, osq⟩, hw''⟩ := hw'
                              subst hw''
                              go_wp2_with fail
                              go_meet
                              exact ⟨rfl, Lib.hid (below_up8 HB18.out (below_regrown _ _ _))⟩
                            case rest =>
                              obtain ⟨rfl, HB20⟩ := hcut
                              generalize wc = w20 at *
                              go_wp2_with fail
                              go_ret
                              exact ⟨by rw [HF.out]; rfl, below_up8 HB.out HB20.out⟩
                          · have e1 : decide (x.ag < xp.ag) = false := decide_eq_false c1
                            by_cases c2 : x.ag = xp.ag
                            · have e2 : (x.ag == xp.ag) = true := by rw [beq_iff_eq]; exact c2
                              by_cases c3 : x.sq ≤ xp.sq
                              · have HF := Lib.hid (HNX.out (fun h => ((HSK.out.1 h).2.2.2.2 HK0.out).2 ⟨c2, c3⟩))
                                go_upto_region 10 with fail
                                go_cut [113] from 66 to 113 (fun xv wx => xv = .bool true ∧ Hid (Below w2.heap.size w2 wx))
                                case first =>
                                  have e3 : decide (x.sq ≤ xp.sq) = true := decide_eq_true c3
                                  clear c1 c2 c3
                                  have d0 := fun d os => (SX.out _ (below_up8 HB18.out (below_regrown w18 d os))).1.1
                                  have d1 := fun d os => (SX.out _ (below_up8 HB18.out (below_regrown w18 d os))).1.2.1
                                  have d2 := fun d os => (SX.out _ (below_up8 HB18.out (below_regrown w18 d os))).1.2.2.1
                                  have d3 := fun d os => (SX.out _ (below_up8 HB18.out (below_regrown w18 d os))).1.2.2.2.1
                                  have d4 := fun d os => (SX.out _ (below_up8 HB18.out (below_regrown w18 d os))).1.2.2.2.2.1
                                  have d5 := fun d os => (SX.out _ (below_up8 HB18.out (below_regrown w18 d os))).1.2.2.2.2.2.1
                                  have d6 := fun d os => (SX.out _ (below_up8 HB18.out (below_regrown w18 d os))).1.2.2.2.2.2.2.1
                                  have d7 := fun d os => (SX.out _ (below_up8 HB18.out (below_regrown w18 d os))).1.2.2.2.2.2.2.2.1
                                  have d8 := fun d os => (SX.out _ (below_up8 HB18.out (below_regrown w18 d os))).1.2.2.2.2.2.2.2.2.1
                                  have d9 := fun d os => (SX.out _ (below_up8 HB18.out (below_regrown w18 d os))).1.2.2.2.2.2.2.2.2.2.1
                                  have d10 := fun d os => (SX.out _ (below_up8 HB18.out (below_regrown w18 d os))).1.2.2.2.2.2.2.2.2.2.2.1
                                  have d11 := fun d os => (SX.out _ (below_up8 HB18.out (below_regrown w18 d os))).1.2.2.2.2.2.2.2.2.2.2.2
                                  have d12 := fun d os => (SX.out _ (below_up8 HB18.out (below_regrown w18 d os))).2.1
                                  have d13 := fun d os => (SX.out _ (below_up8 HB18.out (below_regrown w18 d os))).2.2.1
                                  have d14 := fun d os => (SX.out _ (below_up8 HB18.out (below_regrown w18 d os))).2.2.2
                                  have p0 := fun d os => (SP.out _ (below_up8 HB18.out (below_regrown w18 d os))).1
                                  have p1 := fun d os => (SP.out _ (below_up8 HB18.out (below_regrown w18 d os))).2
                                  refine wp_region_quiet_below (by kernel_rfl) (by kernel_rfl) ?_
                                  repeat (first | go_big_quiet_step ((fail)) | quiet_step ((fail)))
                                  refine wpQuiet_nil ?_
                                  intro _ hw'
                                  obtain ⟨⟨dq, osq⟩, hw''⟩ := hw'
                                  subst hw''
                                  go_wp2_with fail
                                  go_meet
                                  exact ⟨rfl, Lib.hid (below_up8 HB18.out (below_regrown _ _ _))⟩
                                case rest =>
                                  obtain ⟨rfl, HB20⟩ := hcut
                                  generalize wc = w20 at *
                                  go_wp2_with fail
                                  go_ret
                                  exact ⟨by rw [HF.out]; rfl, below_up8 HB.out HB20.out⟩
                              · have HOK := Lib.hid (HSK.out.2 ⟨HEV.out, hag, HTR.out, HOP.out, fun _ => ⟨c1, fun h => c3 h.2⟩⟩)
                                go_upto_region 10 with fail
                                go_cut [113] from 66 to 113 (fun xv wx => xv = .bool false ∧ Hid (Below w2.heap.size w2 wx))
                                case first =>
                                  have e3 : decide (x.sq ≤ xp.sq) = false := decide_eq_false c3
                                  clear c1 c2 c3
                                  have d0 := fun d os => (SX.out _ (below_up8 HB18.out (below_regrown w18 d os))).1.1
                                  have d1 := fun d os => (SX.out _ (below_up8 HB18.out (below_regrown w18 d os))).1.2.1
                                  have d2 := fun d os => (SX.out _ (below_up8 HB18.out (below_regrown w18 d os))).1.2.2.1
                                  have d3 := fun d os => (SX.out _ (below_up8 HB18.out (below_regrown w18 d os))).1.2.2.2.1
                                  have d4 := fun d os => (SX.out _ (below_up8 HB18.out (below_regrown w18 d os))).1.2.2.2.2.1
                                  have d5 := fun d os => (SX.out _ (below_up8 HB18.out (below_regrown w18 d os))).1.2.2.2.2.2.1
                                  have d6 := fun d os => (SX.out _ (below_up8 HB18.out (below_regrown w18 d os))).1.2.2.2.2.2.2.1
                                  have d7 := fun d os => (SX.out _ (below_up8 HB18.out (below_regrown w18 d os))).1.2.2.2.2.2.2.2.1
                                  have d8 := fun d os => (SX.out _ (below_up8 HB18.out (below_regrown w18 d os))).1.2.2.2.2.2.2.2.2.1
                                  have d9 := fun d os => (SX.out _ (below_up8 HB18.out (below_regrown w18 d os))).1.2.2.2.2.2.2.2.2.2.1
                                  have d10 := fun d os => (SX.out _ (below_up8 HB18.out (below_regrown w18 d os))).1.2.2.2.2.2.2.2.2.2.2.1
                                  have d11 := fun d os => (SX.out _ (below_up8 HB18.out (below_regrown w18 d os))).1.2.2.2.2.2.2.2.2.2.2.2
                                  have d12 := fun d os => (SX.out _ (below_up8 HB18.out (below_regrown w18 d os))).2.1
                                  have d13 := fun d os => (SX.out _ (below_up8 HB18.out (below_regrown w18 d os))).2.2.1
                                  have d14 := fun d os => (SX.out _ (below_up8 HB18.out (below_regrown w18 d os))).2.2.2
                                  have p0 := fun d os => (SP.out _ (below_up8 HB18.out (below_regrown w18 d os))).1
                                  have p1 := fun d os => (SP.out _ (below_up8 HB18.out (below_regrown w18 d os))).2
                                  refine wp_region_quiet_below (by kernel_rfl) (by kernel_rfl) ?_
                                  repeat (first | go_big_quiet_step ((fail)) | quiet_step ((fail)))
                                  refine wpQuiet_nil ?_
                                  intro _ hw'
                                  obtain ⟨⟨dq, osq⟩, hw''⟩ := hw'
                                  subst hw''
                                  go_wp2_with fail
                                  go_meet
                                  exact ⟨rfl, Lib.hid (below_up8 HB18.out (below_regrown _ _ _))⟩
                                case rest =>
                                  obtain ⟨rfl, HB20⟩ := hcut
                                  generalize wc = w20 at *
                                  go_wp2_with fail
                                  go_roundw
                                  case rel => exact ⟨k + 1, HLT.out, by go_num, HST.out HOK.out, below_hid8 HB HB20, Lib.hid ⟨HKX.out _ HB20.out, by have := HB20.out.size; have := HK.out.2; omega⟩⟩
                                  case measure => have h9 := HLT.out; simp [RowKit.intOf]; omega
                            · have e2 : (x.ag == xp.ag) = false := by rw [beq_eq_false_iff_ne]; exact c2
                              have HOK := Lib.hid (HSK.out.2 ⟨HEV.out, hag, HTR.out, HOP.out, fun _ => ⟨c1, fun h => c2 h.1⟩⟩)
                              go_upto_region 10 with fail
                              go_cut [113] from 66 to 113 (fun xv wx => xv = .bool false ∧ Hid (Below w2.heap.size w2 wx))
                              case first =>
                                clear c1 c2
                                have d0 := fun d os => (SX.out _ (below_up8 HB18.out (below_regrown w18 d os))).1.1
                                have d1 := fun d os => (SX.out _ (below_up8 HB18.out (below_regrown w18 d os))).1.2.1
                                have d2 := fun d os => (SX.out _ (below_up8 HB18.out (below_regrown w18 d os))).1.2.2.1
                                have d3 := fun d os => (SX.out _ (below_up8 HB18.out (below_regrown w18 d os))).1.2.2.2.1
                                have d4 := fun d os => (SX.out _ (below_up8 HB18.out (below_regrown w18 d os))).1.2.2.2.2.1
                                have d5 := fun d os => (SX.out _ (below_up8 HB18.out (below_regrown w18 d os))).1.2.2.2.2.2.1
                                have d6 := fun d os => (SX.out _ (below_up8 HB18.out (below_regrown w18 d os))).1.2.2.2.2.2.2.1
                                have d7 := fun d os => (SX.out _ (below_up8 HB18.out (below_regrown w18 d os))).1.2.2.2.2.2.2.2.1
                                have d8 := fun d os => (SX.out _ (below_up8 HB18.out (below_regrown w18 d os))).1.2.2.2.2.2.2.2.2.1
                                have d9 := fun d os => (SX.out _ (below_up8 HB18.out (below_regrown w18 d os))).1.2.2.2.2.2.2.2.2.2.1
                                have d10 := fun d os => (SX.out _ (below_up8 HB18.out (below_regrown w18 d os))).1.2.2.2.2.2.2.2.2.2.2.1
                                have d11 := fun d os => (SX.out _ (below_up8 HB18.out (below_regrown w18 d os))).1.2.2.2.2.2.2.2.2.2.2.2
                                have d12 := fun d os => (SX.out _ (below_up8 HB18.out (below_regrown w18 d os))).2.1
                                have d13 := fun d os => (SX.out _ (below_up8 HB18.out (below_regrown w18 d os))).2.2.1
                                have d14 := fun d os => (SX.out _ (below_up8 HB18.out (below_regrown w18 d os))).2.2.2
                                have p0 := fun d os => (SP.out _ (below_up8 HB18.out (below_regrown w18 d os))).1
                                have p1 := fun d os => (SP.out _ (below_up8 HB18.out (below_regrown w18 d os))).2
                                refine wp_region_quiet_below (by kernel_rfl) (by kernel_rfl) ?_
                                repeat (first | go_big_quiet_step ((fail)) | quiet_step ((fail)))
                                refine wpQuiet_nil ?_
                                intro _ hw'
                                obtain ⟨⟨dq, osq⟩, hw''⟩ := hw'
                                subst hw''
                                go_wp2_with fail
                                go_meet
                                exact ⟨rfl, Lib.hid (below_up8 HB18.out (below_regrown _ _ _))⟩
                              case rest =>
                                obtain ⟨rfl, HB20⟩ := hcut
                                generalize wc = w20 at *
                                go_wp2_with fail
                                go_roundw
                                case rel => exact ⟨k + 1, HLT.out, by go_num, HST.out HOK.out, below_hid8 HB HB20, Lib.hid ⟨HKX.out _ HB20.out, by have := HB20.out.size; have := HK.out.2; omega⟩⟩
                                case measure => have h9 := HLT.out; simp [RowKit.intOf]; omega
                    · have o1 : (x.kd == 1) = false := by rw [beq_eq_false_iff_ne]; exact hkd
                      clear hop hkd
                      go_upto_region 8 with fail
                      go_cut [65] from 49 to 65 (fun xv wx => xv = .bool false ∧ Hid (Below w2.heap.size w2 wx))
                      case first =>
                        skip
                        have d0 := fun d os => (SX.out _ (below_up8 HB16.out (below_regrown w16 d os))).1.1
                        have d1 := fun d os => (SX.out _ (below_up8 HB16.out (below_regrown w16 d os))).1.2.1
                        have d2 := fun d os => (SX.out _ (below_up8 HB16.out (below_regrown w16 d os))).1.2.2.1
                        have d3 := fun d os => (SX.out _ (below_up8 HB16.out (below_regrown w16 d os))).1.2.2.2.1
                        have d4 := fun d os => (SX.out _ (below_up8 HB16.out (below_regrown w16 d os))).1.2.2.2.2.1
                        have d5 := fun d os => (SX.out _ (below_up8 HB16.out (below_regrown w16 d os))).1.2.2.2.2.2.1
                        have d6 := fun d os => (SX.out _ (below_up8 HB16.out (below_regrown w16 d os))).1.2.2.2.2.2.2.1
                        have d7 := fun d os => (SX.out _ (below_up8 HB16.out (below_regrown w16 d os))).1.2.2.2.2.2.2.2.1
                        have d8 := fun d os => (SX.out _ (below_up8 HB16.out (below_regrown w16 d os))).1.2.2.2.2.2.2.2.2.1
                        have d9 := fun d os => (SX.out _ (below_up8 HB16.out (below_regrown w16 d os))).1.2.2.2.2.2.2.2.2.2.1
                        have d10 := fun d os => (SX.out _ (below_up8 HB16.out (below_regrown w16 d os))).1.2.2.2.2.2.2.2.2.2.2.1
                        have d11 := fun d os => (SX.out _ (below_up8 HB16.out (below_regrown w16 d os))).1.2.2.2.2.2.2.2.2.2.2.2
                        have d12 := fun d os => (SX.out _ (below_up8 HB16.out (below_regrown w16 d os))).2.1
                        have d13 := fun d os => (SX.out _ (below_up8 HB16.out (below_regrown w16 d os))).2.2.1
                        have d14 := fun d os => (SX.out _ (below_up8 HB16.out (below_regrown w16 d os))).2.2.2
                        refine wp_region_quiet_below (by kernel_rfl) (by kernel_rfl) ?_
                        repeat (first | go_big_quiet_step ((fail)) | quiet_step ((fail)))
                        refine wpQuiet_nil ?_
                        intro _ hw'
                        obtain ⟨⟨dq, osq⟩, hw''⟩ := hw'
                        subst hw''
                        go_wp2_with fail
                        go_meet
                        exact ⟨rfl, Lib.hid (below_up8 HB16.out (below_regrown _ _ _))⟩
                      case rest =>
                        obtain ⟨rfl, HB18⟩ := hcut
                        generalize wc = w18 at *
                        rcases Nat.eq_zero_or_pos k with hk0 | hk0
                        · have HOK := Lib.hid (HSK.out.2 ⟨HEV.out, hag, HTR.out, HOP.out, fun h => by omega⟩)
                          go_upto_region 10 with fail
                          go_cut [113] from 66 to 113 (fun xv wx => xv = .bool false ∧ Hid (Below w2.heap.size w2 wx))
                          case first =>
                            have z0 : decide ((0 : Int) < (k : Int)) = false := decide_eq_false (by omega)
                            have z1 : decide (0 < k) = false := decide_eq_false (by omega)
                            clear hk0
                            have d0 := fun d os => (SX.out _ (below_up8 HB18.out (below_regrown w18 d os))).1.1
                            have d1 := fun d os => (SX.out _ (below_up8 HB18.out (below_regrown w18 d os))).1.2.1
                            have d2 := fun d os => (SX.out _ (below_up8 HB18.out (below_regrown w18 d os))).1.2.2.1
                            have d3 := fun d os => (SX.out _ (below_up8 HB18.out (below_regrown w18 d os))).1.2.2.2.1
                            have d4 := fun d os => (SX.out _ (below_up8 HB18.out (below_regrown w18 d os))).1.2.2.2.2.1
                            have d5 := fun d os => (SX.out _ (below_up8 HB18.out (below_regrown w18 d os))).1.2.2.2.2.2.1
                            have d6 := fun d os => (SX.out _ (below_up8 HB18.out (below_regrown w18 d os))).1.2.2.2.2.2.2.1
                            have d7 := fun d os => (SX.out _ (below_up8 HB18.out (below_regrown w18 d os))).1.2.2.2.2.2.2.2.1
                            have d8 := fun d os => (SX.out _ (below_up8 HB18.out (below_regrown w18 d os))).1.2.2.2.2.2.2.2.2.1
                            have d9 := fun d os => (SX.out _ (below_up8 HB18.out (below_regrown w18 d os))).1.2.2.2.2.2.2.2.2.2.1
                            have d10 := fun d os => (SX.out _ (below_up8 HB18.out (below_regrown w18 d os))).1.2.2.2.2.2.2.2.2.2.2.1
                            have d11 := fun d os => (SX.out _ (below_up8 HB18.out (below_regrown w18 d os))).1.2.2.2.2.2.2.2.2.2.2.2
                            have d12 := fun d os => (SX.out _ (below_up8 HB18.out (below_regrown w18 d os))).2.1
                            have d13 := fun d os => (SX.out _ (below_up8 HB18.out (below_regrown w18 d os))).2.2.1
                            have d14 := fun d os => (SX.out _ (below_up8 HB18.out (below_regrown w18 d os))).2.2.2
                            refine wp_region_quiet_below (by kernel_rfl) (by kernel_rfl) ?_
                            repeat (first | go_big_quiet_step ((fail)) | quiet_step ((fail)))
                            refine wpQuiet_nil ?_
                            intro _ hw'
                            obtain ⟨⟨dq, osq⟩, hw''⟩ := hw'
                            subst hw''
                            go_wp2_with fail
                            go_meet
                            exact ⟨rfl, Lib.hid (below_up8 HB18.out (below_regrown _ _ _))⟩
                          case rest =>
                            obtain ⟨rfl, HB20⟩ := hcut
                            generalize wc = w20 at *
                            go_wp2_with fail
                            go_roundw
                            case rel => exact ⟨k + 1, HLT.out, by go_num, HST.out HOK.out, below_hid8 HB HB20, Lib.hid ⟨HKX.out _ HB20.out, by have := HB20.out.size; have := HK.out.2; omega⟩⟩
                            case measure => have h9 := HLT.out; simp [RowKit.intOf]; omega
                        · obtain ⟨kp, hkp⟩ : ∃ kp, k - 1 = kp := ⟨_, rfl⟩
                          have hkp2 : kp < l.length := by have := HLT.out; omega
                          have SP : ∀ W, Below w2.heap.size w2 W → W.cell? ⟨eb, eo + 12 * kp, none⟩ = some (.int .i64 xp.ag) ∧ W.cell? ⟨eb, eo + 12 * kp + 1, none⟩ = some (.int .i64 xp.sq) := fun W b => by
                            have h := HCP.out hk0 W (below_up8 HB.out b)
                            rw [hkp] at h
                            exact ⟨h.1, h.2.1⟩
                          have SP := Lib.hid SP
                          have hip := fun W => at_ev8 eb eo l.length c kp hkp2 W
                          have hw1 : IntKind.i64.wrap ((k : Int) - 1) = (kp : Int) := by rw [IntWalk.i64_in _ (by omega)]; omega
                          have hw2 : (k : Int) - 1 = (kp : Int) := by omega
                          have z0 : decide ((0 : Int) < (k : Int)) = true := decide_eq_true (by omega)
                          have z1 : decide (0 < k) = true := decide_eq_true hk0
                          have HK0 := Lib.hid hk0
                          clear hk0 hkp
                          by_cases c1 : x.ag < xp.ag
                          · have HF := Lib.hid (HNX.out (fun h => ((HSK.out.1 h).2.2.2.2 HK0.out).1 c1))
                            go_upto_region 10 with fail
                            go_cut [113] from 66 to 113 (fun xv wx => xv = .bool true ∧ Hid (Below w2.heap.size w2 wx))
                            case first =>
                              have e1 : decide (x.ag < xp.ag) = true := decide_eq_true c1
                              clear c1
                              have d0 := fun d os => (SX.out _ (below_up8 HB18.out (below_regrown w18 d os))).1.1
                              have d1 := fun d os => (SX.out _ (below_up8 HB18.out (below_regrown w18 d os))).1.2.1
                              have d2 := fun d os => (SX.out _ (below_up8 HB18.out (below_regrown w18 d os))).1.2.2.1
                              have d3 := fun d os => (SX.out _ (below_up8 HB18.out (below_regrown w18 d os))).1.2.2.2.1
                              have d4 := fun d os => (SX.out _ (below_up8 HB18.out (below_regrown w18 d os))).1.2.2.2.2.1
                              have d5 := fun d os => (SX.out _ (below_up8 HB18.out (below_regrown w18 d os))).1.2.2.2.2.2.1
                              have d6 := fun d os => (SX.out _ (below_up8 HB18.out (below_regrown w18 d os))).1.2.2.2.2.2.2.1
                              have d7 := fun d os => (SX.out _ (below_up8 HB18.out (below_regrown w18 d os))).1.2.2.2.2.2.2.2.1
                              have d8 := fun d os => (SX.out _ (below_up8 HB18.out (below_regrown w18 d os))).1.2.2.2.2.2.2.2.2.1
                              have d9 := fun d os => (SX.out _ (below_up8 HB18.out (below_regrown w18 d os))).1.2.2.2.2.2.2.2.2.2.1
                              have d10 := fun d os => (SX.out _ (below_up8 HB18.out (below_regrown w18 d os))).1.2.2.2.2.2.2.2.2.2.2.1
                              have d11 := fun d os => (SX.out _ (below_up8 HB18.out (below_regrown w18 d os))).1.2.2.2.2.2.2.2.2.2.2.2
                              have d12 := fun d os => (SX.out _ (below_up8 HB18.out (below_regrown w18 d os))).2.1
                              have d13 := fun d os => (SX.out _ (below_up8 HB18.out (below_regrown w18 d os))).2.2.1
                              have d14 := fun d os => (SX.out _ (below_up8 HB18.out (below_regrown w18 d os))).2.2.2
                              have p0 := fun d os => (SP.out _ (below_up8 HB18.out (below_regrown w18 d os))).1
                              have p1 := fun d os => (SP.out _ (below_up8 HB18.out (below_regrown w18 d os))).2
                              refine wp_region_quiet_below (by kernel_rfl) (by kernel_rfl) ?_
                              repeat (first | go_big_quiet_step ((fail)) | quiet_step ((fail)))
                              refine wpQuiet_nil ?_
                              intro _ hw'
                              obtain ⟨⟨dq, osq⟩, hw''⟩ := hw'
                              subst hw''
                              go_wp2_with fail
                              go_meet
                              exact ⟨rfl, Lib.hid (below_up8 HB18.out (below_regrown _ _ _))⟩
                            case rest =>
                              obtain ⟨rfl, HB20⟩ := hcut
                              generalize wc = w20 at *
                              go_wp2_with fail
                              go_ret
                              exact ⟨by rw [HF.out]; rfl, below_up8 HB.out HB20.out⟩
                          · have e1 : decide (x.ag < xp.ag) = false := decide_eq_false c1
                            by_cases c2 : x.ag = xp.ag
                            · have e2 : (x.ag == xp.ag) = true := by rw [beq_iff_eq]; exact c2
                              by_cases c3 : x.sq ≤ xp.sq
                              · have HF := Lib.hid (HNX.out (fun h => ((HSK.out.1 h).2.2.2.2 HK0.out).2 ⟨c2, c3⟩))
                                go_upto_region 10 with fail
                                go_cut [113] from 66 to 113 (fun xv wx => xv = .bool true ∧ Hid (Below w2.heap.size w2 wx))
                                case first =>
                                  have e3 : decide (x.sq ≤ xp.sq) = true := decide_eq_true c3
                                  clear c1 c2 c3
                                  have d0 := fun d os => (SX.out _ (below_up8 HB18.out (below_regrown w18 d os))).1.1
                                  have d1 := fun d os => (SX.out _ (below_up8 HB18.out (below_regrown w18 d os))).1.2.1
                                  have d2 := fun d os => (SX.out _ (below_up8 HB18.out (below_regrown w18 d os))).1.2.2.1
                                  have d3 := fun d os => (SX.out _ (below_up8 HB18.out (below_regrown w18 d os))).1.2.2.2.1
                                  have d4 := fun d os => (SX.out _ (below_up8 HB18.out (below_regrown w18 d os))).1.2.2.2.2.1
                                  have d5 := fun d os => (SX.out _ (below_up8 HB18.out (below_regrown w18 d os))).1.2.2.2.2.2.1
                                  have d6 := fun d os => (SX.out _ (below_up8 HB18.out (below_regrown w18 d os))).1.2.2.2.2.2.2.1
                                  have d7 := fun d os => (SX.out _ (below_up8 HB18.out (below_regrown w18 d os))).1.2.2.2.2.2.2.2.1
                                  have d8 := fun d os => (SX.out _ (below_up8 HB18.out (below_regrown w18 d os))).1.2.2.2.2.2.2.2.2.1
                                  have d9 := fun d os => (SX.out _ (below_up8 HB18.out (below_regrown w18 d os))).1.2.2.2.2.2.2.2.2.2.1
                                  have d10 := fun d os => (SX.out _ (below_up8 HB18.out (below_regrown w18 d os))).1.2.2.2.2.2.2.2.2.2.2.1
                                  have d11 := fun d os => (SX.out _ (below_up8 HB18.out (below_regrown w18 d os))).1.2.2.2.2.2.2.2.2.2.2.2
                                  have d12 := fun d os => (SX.out _ (below_up8 HB18.out (below_regrown w18 d os))).2.1
                                  have d13 := fun d os => (SX.out _ (below_up8 HB18.out (below_regrown w18 d os))).2.2.1
                                  have d14 := fun d os => (SX.out _ (below_up8 HB18.out (below_regrown w18 d os))).2.2.2
                                  have p0 := fun d os => (SP.out _ (below_up8 HB18.out (below_regrown w18 d os))).1
                                  have p1 := fun d os => (SP.out _ (below_up8 HB18.out (below_regrown w18 d os))).2
                                  refine wp_region_quiet_below (by kernel_rfl) (by kernel_rfl) ?_
                                  repeat (first | go_big_quiet_step ((fail)) | quiet_step ((fail)))
                                  refine wpQuiet_nil ?_
                                  intro _ hw'
                                  obtain ⟨⟨dq, osq⟩, hw''⟩ := hw'
                                  subst hw''
                                  go_wp2_with fail
                                  go_meet
                                  exact ⟨rfl, Lib.hid (below_up8 HB18.out (below_regrown _ _ _))⟩
                                case rest =>
                                  obtain ⟨rfl, HB20⟩ := hcut
                                  generalize wc = w20 at *
                                  go_wp2_with fail
                                  go_ret
                                  exact ⟨by rw [HF.out]; rfl, below_up8 HB.out HB20.out⟩
                              · have HOK := Lib.hid (HSK.out.2 ⟨HEV.out, hag, HTR.out, HOP.out, fun _ => ⟨c1, fun h => c3 h.2⟩⟩)
                                go_upto_region 10 with fail
                                go_cut [113] from 66 to 113 (fun xv wx => xv = .bool false ∧ Hid (Below w2.heap.size w2 wx))
                                case first =>
                                  have e3 : decide (x.sq ≤ xp.sq) = false := decide_eq_false c3
                                  clear c1 c2 c3
                                  have d0 := fun d os => (SX.out _ (below_up8 HB18.out (below_regrown w18 d os))).1.1
                                  have d1 := fun d os => (SX.out _ (below_up8 HB18.out (below_regrown w18 d os))).1.2.1
                                  have d2 := fun d os => (SX.out _ (below_up8 HB18.out (below_regrown w18 d os))).1.2.2.1
                                  have d3 := fun d os => (SX.out _ (below_up8 HB18.out (below_regrown w18 d os))).1.2.2.2.1
                                  have d4 := fun d os => (SX.out _ (below_up8 HB18.out (below_regrown w18 d os))).1.2.2.2.2.1
                                  have d5 := fun d os => (SX.out _ (below_up8 HB18.out (below_regrown w18 d os))).1.2.2.2.2.2.1
                                  have d6 := fun d os => (SX.out _ (below_up8 HB18.out (below_regrown w18 d os))).1.2.2.2.2.2.2.1
                                  have d7 := fun d os => (SX.out _ (below_up8 HB18.out (below_regrown w18 d os))).1.2.2.2.2.2.2.2.1
                                  have d8 := fun d os => (SX.out _ (below_up8 HB18.out (below_regrown w18 d os))).1.2.2.2.2.2.2.2.2.1
                                  have d9 := fun d os => (SX.out _ (below_up8 HB18.out (below_regrown w18 d os))).1.2.2.2.2.2.2.2.2.2.1
                                  have d10 := fun d os => (SX.out _ (below_up8 HB18.out (below_regrown w18 d os))).1.2.2.2.2.2.2.2.2.2.2.1
                                  have d11 := fun d os => (SX.out _ (below_up8 HB18.out (below_regrown w18 d os))).1.2.2.2.2.2.2.2.2.2.2.2
                                  have d12 := fun d os => (SX.out _ (below_up8 HB18.out (below_regrown w18 d os))).2.1
                                  have d13 := fun d os => (SX.out _ (below_up8 HB18.out (below_regrown w18 d os))).2.2.1
                                  have d14 := fun d os => (SX.out _ (below_up8 HB18.out (below_regrown w18 d os))).2.2.2
                                  have p0 := fun d os => (SP.out _ (below_up8 HB18.out (below_regrown w18 d os))).1
                                  have p1 := fun d os => (SP.out _ (below_up8 HB18.out (below_regrown w18 d os))).2
                                  refine wp_region_quiet_below (by kernel_rfl) (by kernel_rfl) ?_
                                  repeat (first | go_big_quiet_step ((fail)) | quiet_step ((fail)))
                                  refine wpQuiet_nil ?_
                                  intro _ hw'
                                  obtain ⟨⟨dq, osq⟩, hw''⟩ := hw'
                                  subst hw''
                                  go_wp2_with fail
                                  go_meet
                                  exact ⟨rfl, Lib.hid (below_up8 HB18.out (below_regrown _ _ _))⟩
                                case rest =>
                                  obtain ⟨rfl, HB20⟩ := hcut
                                  generalize wc = w20 at *
                                  go_wp2_with fail
                                  go_roundw
                                  case rel => exact ⟨k + 1, HLT.out, by go_num, HST.out HOK.out, below_hid8 HB HB20, Lib.hid ⟨HKX.out _ HB20.out, by have := HB20.out.size; have := HK.out.2; omega⟩⟩
                                  case measure => have h9 := HLT.out; simp [RowKit.intOf]; omega
                            · have e2 : (x.ag == xp.ag) = false := by rw [beq_eq_false_iff_ne]; exact c2
                              have HOK := Lib.hid (HSK.out.2 ⟨HEV.out, hag, HTR.out, HOP.out, fun _ => ⟨c1, fun h => c2 h.1⟩⟩)
                              go_upto_region 10 with fail
                              go_cut [113] from 66 to 113 (fun xv wx => xv = .bool false ∧ Hid (Below w2.heap.size w2 wx))
                              case first =>
                                clear c1 c2
                                have d0 := fun d os => (SX.out _ (below_up8 HB18.out (below_regrown w18 d os))).1.1
                                have d1 := fun d os => (SX.out _ (below_up8 HB18.out (below_regrown w18 d os))).1.2.1
                                have d2 := fun d os => (SX.out _ (below_up8 HB18.out (below_regrown w18 d os))).1.2.2.1
                                have d3 := fun d os => (SX.out _ (below_up8 HB18.out (below_regrown w18 d os))).1.2.2.2.1
                                have d4 := fun d os => (SX.out _ (below_up8 HB18.out (below_regrown w18 d os))).1.2.2.2.2.1
                                have d5 := fun d os => (SX.out _ (below_up8 HB18.out (below_regrown w18 d os))).1.2.2.2.2.2.1
                                have d6 := fun d os => (SX.out _ (below_up8 HB18.out (below_regrown w18 d os))).1.2.2.2.2.2.2.1
                                have d7 := fun d os => (SX.out _ (below_up8 HB18.out (below_regrown w18 d os))).1.2.2.2.2.2.2.2.1
                                have d8 := fun d os => (SX.out _ (below_up8 HB18.out (below_regrown w18 d os))).1.2.2.2.2.2.2.2.2.1
                                have d9 := fun d os => (SX.out _ (below_up8 HB18.out (below_regrown w18 d os))).1.2.2.2.2.2.2.2.2.2.1
                                have d10 := fun d os => (SX.out _ (below_up8 HB18.out (below_regrown w18 d os))).1.2.2.2.2.2.2.2.2.2.2.1
                                have d11 := fun d os => (SX.out _ (below_up8 HB18.out (below_regrown w18 d os))).1.2.2.2.2.2.2.2.2.2.2.2
                                have d12 := fun d os => (SX.out _ (below_up8 HB18.out (below_regrown w18 d os))).2.1
                                have d13 := fun d os => (SX.out _ (below_up8 HB18.out (below_regrown w18 d os))).2.2.1
                                have d14 := fun d os => (SX.out _ (below_up8 HB18.out (below_regrown w18 d os))).2.2.2
                                have p0 := fun d os => (SP.out _ (below_up8 HB18.out (below_regrown w18 d os))).1
                                have p1 := fun d os => (SP.out _ (below_up8 HB18.out (below_regrown w18 d os))).2
                                refine wp_region_quiet_below (by kernel_rfl) (by kernel_rfl) ?_
                                repeat (first | go_big_quiet_step ((fail)) | quiet_step ((fail)))
                                refine wpQuiet_nil ?_
                                intro _ hw'
                                obtain ⟨⟨dq, osq⟩, hw''⟩ := hw'
                                subst hw''
                                go_wp2_with fail
                                go_meet
                                exact ⟨rfl, Lib.hid (below_up8 HB18.out (below_regrown _ _ _))⟩
                              case rest =>
                                obtain ⟨rfl, HB20⟩ := hcut
                                generalize wc = w20 at *
                                go_wp2_with fail
                                go_roundw
                                case rel => exact ⟨k + 1, HLT.out, by go_num, HST.out HOK.out, below_hid8 HB HB20, Lib.hid ⟨HKX.out _ HB20.out, by have := HB20.out.size; have := HK.out.2; omega⟩⟩
                                case measure => have h9 := HLT.out; simp [RowKit.intOf]; omega
              · have HF := Lib.hid (HNX.out (fun h => htr (HSK.out.1 h).2.2.1))
                go_upto_region 6 with fail
                go_cut [48] from 20 to 48 (fun xv wx => xv = .bool true ∧ Hid (Below w2.heap.size w2 wx))
                case first =>
                  have ag1 : decide ((f.dr.length : Int) ≤ x.ag) = false := decide_eq_false (by omega)
                  have tr1 : (x.tr != t0) = true := by rw [bne_iff_ne]; exact htr
                  clear htr
                  have d0 := fun d os => (SX.out _ (below_regrown w2 d os)).1.1
                  have d1 := fun d os => (SX.out _ (below_regrown w2 d os)).1.2.1
                  have d2 := fun d os => (SX.out _ (below_regrown w2 d os)).1.2.2.1
                  have d3 := fun d os => (SX.out _ (below_regrown w2 d os)).1.2.2.2.1
                  have d4 := fun d os => (SX.out _ (below_regrown w2 d os)).1.2.2.2.2.1
                  have d5 := fun d os => (SX.out _ (below_regrown w2 d os)).1.2.2.2.2.2.1
                  have d6 := fun d os => (SX.out _ (below_regrown w2 d os)).1.2.2.2.2.2.2.1
                  have d7 := fun d os => (SX.out _ (below_regrown w2 d os)).1.2.2.2.2.2.2.2.1
                  have d8 := fun d os => (SX.out _ (below_regrown w2 d os)).1.2.2.2.2.2.2.2.2.1
                  have d9 := fun d os => (SX.out _ (below_regrown w2 d os)).1.2.2.2.2.2.2.2.2.2.1
                  have d10 := fun d os => (SX.out _ (below_regrown w2 d os)).1.2.2.2.2.2.2.2.2.2.2.1
                  have d11 := fun d os => (SX.out _ (below_regrown w2 d os)).1.2.2.2.2.2.2.2.2.2.2.2
                  have d12 := fun d os => (SX.out _ (below_regrown w2 d os)).2.1
                  have d13 := fun d os => (SX.out _ (below_regrown w2 d os)).2.2.1
                  have d14 := fun d os => (SX.out _ (below_regrown w2 d os)).2.2.2
                  refine wp_region_quiet_below (by kernel_rfl) (by kernel_rfl) ?_
                  repeat (first | go_big_quiet_step (((go_at_call 24; exact Calls.regrown_of (CX1.out _)))) | quiet_step (((go_at_call 24; exact Calls.regrown_of (CX1.out _)))))
                  refine wpQuiet_nil ?_
                  intro _ hw'
                  obtain ⟨⟨dq, osq⟩, hw''⟩ := hw'
                  subst hw''
                  go_wp2_with fail
                  go_meet
                  exact ⟨rfl, Lib.hid (below_regrown _ _ _)⟩
                case rest =>
                  obtain ⟨rfl, HB16⟩ := hcut
                  generalize wc = w16 at *
                  go_wp2_with fail
                  go_ret
                  exact ⟨by rw [HF.out]; rfl, below_up8 HB.out HB16.out⟩
            · have HF := Lib.hid (HNX.out (fun h => hag (HSK.out.1 h).2.1))
              go_upto_region 6 with fail
              go_cut [48] from 20 to 48 (fun xv wx => xv = .bool true ∧ Hid (Below w2.heap.size w2 wx))
              case first =>
                have ag1 : decide ((f.dr.length : Int) ≤ x.ag) = true := decide_eq_true (by omega)
                have d0 := fun d os => (SX.out _ (below_regrown w2 d os)).1.1
                have d1 := fun d os => (SX.out _ (below_regrown w2 d os)).1.2.1
                have d2 := fun d os => (SX.out _ (below_regrown w2 d os)).1.2.2.1
                have d3 := fun d os => (SX.out _ (below_regrown w2 d os)).1.2.2.2.1
                have d4 := fun d os => (SX.out _ (below_regrown w2 d os)).1.2.2.2.2.1
                have d5 := fun d os => (SX.out _ (below_regrown w2 d os)).1.2.2.2.2.2.1
                have d6 := fun d os => (SX.out _ (below_regrown w2 d os)).1.2.2.2.2.2.2.1
                have d7 := fun d os => (SX.out _ (below_regrown w2 d os)).1.2.2.2.2.2.2.2.1
                have d8 := fun d os => (SX.out _ (below_regrown w2 d os)).1.2.2.2.2.2.2.2.2.1
                have d9 := fun d os => (SX.out _ (below_regrown w2 d os)).1.2.2.2.2.2.2.2.2.2.1
                have d10 := fun d os => (SX.out _ (below_regrown w2 d os)).1.2.2.2.2.2.2.2.2.2.2.1
                have d11 := fun d os => (SX.out _ (below_regrown w2 d os)).1.2.2.2.2.2.2.2.2.2.2.2
                have d12 := fun d os => (SX.out _ (below_regrown w2 d os)).2.1
                have d13 := fun d os => (SX.out _ (below_regrown w2 d os)).2.2.1
                have d14 := fun d os => (SX.out _ (below_regrown w2 d os)).2.2.2
                refine wp_region_quiet_below (by kernel_rfl) (by kernel_rfl) ?_
                repeat (first | go_big_quiet_step (((go_at_call 24; exact Calls.regrown_of (CX1.out _)))) | quiet_step (((go_at_call 24; exact Calls.regrown_of (CX1.out _)))))
                refine wpQuiet_nil ?_
                intro _ hw'
                obtain ⟨⟨dq, osq⟩, hw''⟩ := hw'
                subst hw''
                go_wp2_with fail
                go_meet
                exact ⟨rfl, Lib.hid (below_regrown _ _ _)⟩
              case rest =>
                obtain ⟨rfl, HB16⟩ := hcut
                generalize wc = w16 at *
                go_wp2_with fail
                go_ret
                exact ⟨by rw [HF.out]; rfl, below_up8 HB.out HB16.out⟩
        · obtain rfl : k = l.length := by omega
          have HF := Lib.hid (HYES.out ⟨HV.out, by omega, fun j hj => HS.out j hj⟩)
          have hki : ¬ (l.length : Int) < (l.length : Int) := by omega
          go_wp2_with fail
          go_ret
          exact ⟨by rw [HF.out]; rfl, HB.out⟩
end Go.Proofs.YtamefmojocegkaaDoor
