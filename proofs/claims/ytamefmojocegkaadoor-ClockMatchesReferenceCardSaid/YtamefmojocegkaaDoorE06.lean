/-
  Layer 8: the reference's Agrees.
-/
import Derived.Test.YtamefmojocegkaaDoorE05
import Derived.Deep.RegionHeld3
import Derived.Lib.QuietBelow
import Derived.Deep.DeepCutAuto
import Derived.WalkKit
import Derived.WalkLawsBesides
import Derived.Outline
import Derived.Lib.Hide
import Derived.Below
import Derived.BigQuiet
import Derived.Deep.QuietTactic
import Derived.Laws.Rows
import Derived.Laws.OwnMore
import Derived.OwnWalk
namespace Go.Proofs.YtamefmojocegkaaDoor
open Go Go.Proofs Go.RowKit Go.Lib

theorem folN_bd {lat : Int} (h0 : 0 ≤ lat) (h1 : lat ≤ 1000000) (a b : Ev) : 0 ≤ folN lat a b ∧ folN lat a b ≤ 1000000 := by
  unfold folN
  split <;> omega
end Go.Proofs.YtamefmojocegkaaDoor

namespace Go.Proofs.YtamefmojocegkaaDoor
open Go Go.Proofs Go.RowKit Go.Lib

/-- What a fleet's box holds. -/
def FlBox (W : World) (B : Nat) (x1 : Option Addr) (c1 : Nat) (x2 : Option Addr) (c2 : Nat) (x3 : Option Addr) (c3 : Nat) (f : Fl) : Prop :=
  W.cell? ⟨B, 0, none⟩ = some (.slice x1 f.dr.length c1) ∧ W.cell? ⟨B, 1, none⟩ = some (.int .i64 f.lat) ∧ W.cell? ⟨B, 2, none⟩ = some (.int .i64 f.lia) ∧ W.cell? ⟨B, 3, none⟩ = some (.slice x2 f.sv.length c2) ∧ W.cell? ⟨B, 4, none⟩ = some (.slice x3 f.tm.length c3)
theorem CellsAt.fl {W : World} {B : Nat} {x1 : Option Addr} {c1 : Nat} {x2 : Option Addr} {c2 : Nat} {x3 : Option Addr} {c3 : Nat} {f : Fl} (h : CellsAt W B [.slice x1 f.dr.length c1, .int .i64 f.lat, .int .i64 f.lia, .slice x2 f.sv.length c2, .slice x3 f.tm.length c3]) : FlBox W B x1 c1 x2 c2 x3 c3 f :=
  ⟨(h 0 (by simp)).1, (h 1 (by simp)).1, (h 2 (by simp)).1, (h 3 (by simp)).1, (h 4 (by simp)).1⟩
set_option maxRecDepth 100000 in
set_option maxHeartbeats 16000000 in
theorem agreesR_any (v : Value) (f : Fl) (ad ad2 : Option Addr) (c c2 : Nat) (l : List Ev) (x : List Int) (m : Int) (hfit : f.fit) (hl : l.length ≤ maxLen) (hl2 : x.length ≤ maxLen) (w : World) (hf : FlAt w v f) (hI : RL KE w ad l) (hJ : RL KI w ad2 x) :
    Calls Tryd.prog 22 #[v, .slice ad l.length c, .slice ad2 x.length c2, .int .i64 m] w fun e w' => e = .returned (.bool (agB f l x m)) ∧ Below w.heap.size w w' := by
  have HFA := Lib.hid (fun W (b : Below w.heap.size w W) => hf.below b)
  have HIA := Lib.hid (fun W (b : Below w.heap.size w W) => hI.below b)
  have HJA := Lib.hid (fun W (b : Below w.heap.size w W) => hJ.below b)
  obtain ⟨x1, c1, x2, c3, x3, c4, rfl, _, _, _⟩ := hf
  have CV := Lib.hid (fun W h h2 => eventsR_any (.agg #[.slice x1 f.dr.length c1, .int .i64 f.lat, .int .i64 f.lia, .slice x2 f.sv.length c3, .slice x3 f.tm.length c4]) f ad c l hfit hl W h h2)
  have CT := Lib.hid (fun W h => timesR_any ad ad2 l.length c c2 x hl2 W h)
  have CS := Lib.hid (fun W h a b s t => shownR_any (.agg #[.slice x1 f.dr.length c1, .int .i64 f.lat, .int .i64 f.lia, .slice x2 f.sv.length c3, .slice x3 f.tm.length c4]) f a b s t W h)
  have CF := Lib.hid (fun W h a b ha => followsR_any (.agg #[.slice x1 f.dr.length c1, .int .i64 f.lat, .int .i64 f.lia, .slice x2 f.sv.length c3, .slice x3 f.tm.length c4]) f a b ha W h)
  unfold maxLen at hl hl2
  obtain ⟨B, hB⟩ : ∃ B, agB f l x m = B := ⟨_, rfl⟩
  rw [hB]
  have HNO := Lib.hid (fun h : ¬ AgOk f l x m => show B = false by rw [← hB]; exact agB_no h)
  have HYES := Lib.hid (fun h : AgOk f l x m => show B = true by rw [← hB]; exact agB_yes h)
  have HC := Lib.hid (fun h => hI.evs h)
  have HCX := Lib.hid (fun h => hJ.ints8 h)
  have HX := Lib.hid (fun o => (Below.refl w.heap.size w).alloc (Nat.le_refl _) o)
  clear hB hI hJ hfit
  go_enter Tryd.func22, Tryd.ntmps22
  go_wp2_with fail
  refine (CV.out _ (HFA.out _ (HX.out _)) (HIA.out _ (HX.out _))).mono ?_
  rintro e w1 ⟨rfl, hb⟩
  have HB := Lib.hid ((HX.out _).trans (hb.mono (by simp)))
  have HK := Lib.hid (show CellsAt w1 w.heap.size [.slice x1 f.dr.length c1, .int .i64 f.lat, .int .i64 f.lia, .slice x2 f.sv.length c3, .slice x3 f.tm.length c4] from (cellsAt_new rfl).below hb)
  have hz : w.heap.size < w1.heap.size := by have := hb.size; simp at this; omega
  clear hb
  cases hv : evsB f l with
  | false =>
    have HF := Lib.hid (HNO.out (fun h => by rw [h.1] at hv; cases hv))
    clear hv
    go_wp2_with fail
    go_ret
    exact ⟨by rw [HF.out]; rfl, HB.out⟩
  | true =>
    have HV := Lib.hid hv
    clear hv
    cases ht : timesB l.length x with
    | false =>
      have HF := Lib.hid (HNO.out (fun h => by rw [h.2.1] at ht; cases ht))
      go_wp2_with (go_at_call 52; (with_reducible refine (CT.out _ (HJA.out _ HB.out)).mono ?_); (rintro e z ⟨rfl, rfl⟩); rw [ht])
      go_ret
      exact ⟨by rw [HF.out]; rfl, HB.out⟩
    | true =>
      have HT := Lib.hid ht
      have HXL := Lib.hid (timesB_of ht).2
      have HXB := Lib.hid (timesB_of ht).1
      have HFV := Lib.hid (of_evsB HV.out)
      go_wp2_with (go_at_call 52; (with_reducible refine (CT.out _ (HJA.out _ HB.out)).mono ?_); (rintro e z ⟨rfl, rfl⟩); rw [ht])
      clear ht
      go_loopw [9] (fun i wr => ∃ k : Nat, k ≤ l.length ∧ i = .int .i64 k ∧ Hid (∀ p q, p < k → q < l.length → PairOk f l x m p q) ∧ Hid (Below w.heap.size w wr) ∧ Hid (CellsAt wr w.heap.size [.slice x1 f.dr.length c1, .int .i64 f.lat, .int .i64 f.lia, .slice x2 f.sv.length c3, .slice x3 f.tm.length c4] ∧ w.heap.size < wr.heap.size)) (fun i _ => l.length - (RowKit.intOf i).toNat)
      case atStart => exact ⟨0, Nat.zero_le _, rfl, Lib.hid (fun p q h => absurd h (Nat.not_lt_zero _)), HB, Lib.hid ⟨HK.out, hz⟩⟩
      case round =>
        clear HK hz HB
        obtain ⟨k, hk, rfl, HS, HB, HK⟩ := hrel
        generalize wr = w2 at *
        by_cases hlt : k < l.length
        · have hki : (k : Int) < (l.length : Int) := by omega
          go_wp2_with fail
          go_loopw [10] (fun j wr => ∃ q : Nat, q ≤ l.length ∧ j = .int .i64 q ∧ Hid (∀ p, p < q → PairOk f l x m k p) ∧ Hid (Below w.heap.size w wr) ∧ Hid (CellsAt wr w.heap.size [.slice x1 f.dr.length c1, .int .i64 f.lat, .int .i64 f.lia, .slice x2 f.sv.length c3, .slice x3 f.tm.length c4] ∧ w.heap.size < wr.heap.size)) (fun j _ => l.length - (RowKit.intOf j).toNat)
          case atStart => exact ⟨0, Nat.zero_le _, rfl, Lib.hid (fun p h => absurd h (Nat.not_lt_zero _)), HB, HK⟩
          case round =>
            clear HK HB
            obtain ⟨q, hq, rfl, HSQ, HB, HK⟩ := hrel
            generalize wr = w3 at *
            by_cases hqt : q < l.length
            · have hqi : (q : Int) < (l.length : Int) := by omega
              obtain ⟨eb, eo, rfl, _, hcc⟩ := HC.out (by omega)
              obtain ⟨xb, xo, rfl, _, hcx⟩ := HCX.out (by have := HXL.out; omega)
              have hcE := hcc k hlt
              have hcE2 := hcc q hqt
              have hcX := hcx k (by have := HXL.out; omega)
              have hcX2 := hcx q (by have := HXL.out; omega)
              have hik := fun W => at_ev8 eb eo l.length c k hlt W
              have hiq := fun W => at_ev8 eb eo l.length c q hqt W
              have hxk := fun W => at_int8 xb xo x.length c2 k (by have := HXL.out; omega) W
              have hxq := fun W => at_int8 xb xo x.length c2 q (by have := HXL.out; omega) W
              have HLT := Lib.hid hlt; have HQT := Lib.hid hqt
              have HNX := Lib.hid (fun h : ¬ PairOk f l x m k q => HNO.out (fun h9 => h (h9.2.2 k q HLT.out HQT.out)))
              have HST := Lib.hid (show PairOk f l x m k q → ∀ p, p < q + 1 → PairOk f l x m k p from fun h p hp => by
                rcases Nat.lt_or_ge p q with h9 | h9
                · exact HSQ.out p h9
                · obtain rfl : p = q := by omega
                  exact h)
              have HSK := Lib.hid (show PairOk f l x m k q ↔ (k = q ∨ belB m (evD l k).ag = false ∨ belB m (evD l q).ag = false ∨ (((evD l k).ag = (evD l q).ag → k < q → shB (f.drOf (evD l k).ag) ((evD l q).tm - (evD l k).tm) (xD x k) (xD x q) = true) ∧ (folB (evD l k) (evD l q) = true → folN f.lat (evD l k) (evD l q) ≤ xD x q - xD x k))) from Iff.rfl)
              have he1 := HFV.out.2.2 k hlt
              have he2 := HFV.out.2.2 q hqt
              have hx1 := HXB.out k
              have hx2 := HXB.out q
              obtain ⟨ea1, ea2, ea3⟩ := he1
              obtain ⟨eb1, eb2, eb3⟩ := he2
              clear ea3 eb3
              generalize evD l k = a at *
              generalize evD l q = b at *
              generalize xD x k = s at *
              generalize xD x q = t at *
              have KA := Lib.hid a.val_mk
              have KB := Lib.hid b.val_mk
              obtain ⟨⟨ag0, ag5⟩, _, ⟨at0, at1⟩, _, _, _, an0, an1⟩ := evB_of ea1
              obtain ⟨⟨bg0, bg5⟩, _, ⟨bt0, bt1⟩, _⟩ := evB_of eb1
              obtain ⟨dd0, dd1⟩ := drOf_bd HFV.out.1 ag0 ea2
              have CS2 := Lib.hid (fun W h => CS.out W h a b s t ag0 ea2 dd0 dd1 at0 at1 bt0 bt1 hx1.1 hx1.2 hx2.1 hx2.2)
              have CF2 := Lib.hid (fun W h => CF.out W h a b ⟨by omega, by omega⟩)
              rw [KA.out, KB.out] at CS2 CF2
              obtain ⟨⟨lt0, lt1⟩⟩ : (0 ≤ f.lat ∧ f.lat ≤ 1000000) ∧ True := ⟨(flB_of HFV.out.1).2.2.1, trivial⟩
              obtain ⟨fn0, fn1⟩ := folN_bd lt0 lt1 a b
              have HKX := Lib.hid (fun (W : World) (b : Below w3.heap.size w3 W) => (HK.out.1.below b).fl)
              have SXA := Lib.hid (fun (W : World) (b : Below w3.heap.size w3 W) => hcE W (below_up8 HB.out b))
              have SXB := Lib.hid (fun (W : World) (b : Below w3.heap.size w3 W) => hcE2 W (below_up8 HB.out b))
              have SXK := Lib.hid (fun (W : World) (b : Below w3.heap.size w3 W) => hcX W (below_up8 HB.out b))
              have SXQ := Lib.hid (fun (W : World) (b : Below w3.heap.size w3 W) => hcX2 W (below_up8 HB.out b))
              have hag : (if a.ag = b.ag then True else True) := by split <;> trivial
              clear hag hcE hcE2 hcX hcX2 hcc hcx hlt hqt ea1 eb1
              by_cases hkq : k = q
              · have e0 : ((k : Int) == (q : Int)) = true := by rw [hkq]; simp
                have HKQ := Lib.hid hkq
                clear hkq
                have HOK := Lib.hid (HSK.out.2 (.inl HKQ.out))
                go_upto_region 9 with fail
                go_cut [60] from 36 to 60 (fun s60 wx => s60 = .bool true ∧ Hid (Below w3.heap.size w3 wx))
                case first =>
                  skip
                  have a0 := (SXA.out _ (Below.refl _ _)).1
                  have b0 := (SXB.out _ (Below.refl _ _)).1
                  go_wp2_with fail
                  go_meet
                  exact ⟨rfl, Lib.hid (Below.refl _ _)⟩
                case rest =>
                  obtain ⟨rfl, HB4⟩ := hcut
                  generalize wc = w4 at *
                  go_wp2_with fail
                  go_roundw
                  case rel => exact ⟨q + 1, HQT.out, by go_num, HST.out HOK.out, below_hid8 HB HB4, Lib.hid ⟨HK.out.1.below HB4.out, by have := HB4.out.size; have := HK.out.2; omega⟩⟩
                  case measure => have h9 := HQT.out; simp [RowKit.intOf]; omega
              · have e0 : ((k : Int) == (q : Int)) = false := by rw [beq_eq_false_iff_ne]; omega
                cases hb1 : belB m a.ag with
                | false =>
                  have e1 : (bits .and .i64 (m / 2 ^ a.ag.toNat) 1 == 0) = true := by simpa [belB] using hb1
                  have HOK := Lib.hid (HSK.out.2 (.inr (.inl hb1)))
                  go_upto_region 9 with fail
                  go_cut [60] from 36 to 60 (fun s60 wx => s60 = .bool true ∧ Hid (Below w3.heap.size w3 wx))
                  case first =>
                    skip
                    have a0 := (SXA.out _ (Below.refl _ _)).1
                    have b0 := (SXB.out _ (Below.refl _ _)).1
                    go_wp2_with fail
                    go_meet
                    exact ⟨rfl, Lib.hid (Below.refl _ _)⟩
                  case rest =>
                    obtain ⟨rfl, HB4⟩ := hcut
                    generalize wc = w4 at *
                    go_wp2_with fail
                    go_roundw
                    case rel => exact ⟨q + 1, HQT.out, by go_num, HST.out HOK.out, below_hid8 HB HB4, Lib.hid ⟨HK.out.1.below HB4.out, by have := HB4.out.size; have := HK.out.2; omega⟩⟩
                    case measure => have h9 := HQT.out; simp [RowKit.intOf]; omega
                | true =>
                  have e1 : (bits .and .i64 (m / 2 ^ a.ag.toNat) 1 == 0) = false := by simpa [belB] using hb1
                  cases hb2 : belB m b.ag with
                  | false =>
                    have e2 : (bits .and .i64 (m / 2 ^ b.ag.toNat) 1 == 0) = true := by simpa [belB] using hb2
                    have HOK := Lib.hid (HSK.out.2 (.inr (.inr (.inl hb2))))
                    go_upto_region 9 with fail
                    go_cut [60] from 36 to 60 (fun s60 wx => s60 = .bool true ∧ Hid (Below w3.heap.size w3 wx))
                    case first =>
                      skip
                      have a0 := (SXA.out _ (Below.refl _ _)).1
                      have b0 := (SXB.out _ (Below.refl _ _)).1
                      go_wp2_with fail
                      go_meet
                      exact ⟨rfl, Lib.hid (Below.refl _ _)⟩
                    case rest =>
                      obtain ⟨rfl, HB4⟩ := hcut
                      generalize wc = w4 at *
                      go_wp2_with fail
                      go_roundw
                      case rel => exact ⟨q + 1, HQT.out, by go_num, HST.out HOK.out, below_hid8 HB HB4, Lib.hid ⟨HK.out.1.below HB4.out, by have := HB4.out.size; have := HK.out.2; omega⟩⟩
                      case measure => have h9 := HQT.out; simp [RowKit.intOf]; omega
                  | true =>
                    have e2 : (bits .and .i64 (m / 2 ^ b.ag.toNat) 1 == 0) = false := by simpa [belB] using hb2
                    have HSK := Lib.hid (show ((a.ag = b.ag → k < q → shB (f.drOf a.ag) (b.tm - a.tm) s t = true) ∧ (folB a b = true → folN f.lat a b ≤ t - s)) ↔ PairOk f (l) x m k q from ⟨fun h => HSK.out.2 (.inr (.inr (.inr h))), fun h => by
                      rcases HSK.out.1 h with h | h | h | h
                      · exact absurd h hkq
                      · rw [hb1] at h; cases h
                      · rw [hb2] at h; cases h
                      · exact h⟩)
                    clear hb1 hb2
                    go_upto_region 9 with fail
                    go_cut [60] from 36 to 60 (fun s60 wx => s60 = .bool false ∧ Hid (Below w3.heap.size w3 wx))
                    case first =>
                      skip
                      have a0 := (SXA.out _ (Below.refl _ _)).1
                      have b0 := (SXB.out _ (Below.refl _ _)).1
                      go_wp2_with fail
                      go_meet
                      exact ⟨rfl, Lib.hid (Below.refl _ _)⟩
                    case rest =>
                      obtain ⟨rfl, HB4⟩ := hcut
                      generalize wc = w4 at *
                      clear e0 e1 e2
                      by_cases hsame : a.ag = b.ag ∧ k < q
                      · have g0 : (a.ag == b.ag) = true := by rw [beq_iff_eq]; exact hsame.1
                        have g1 : decide ((k : Int) < (q : Int)) = true := decide_eq_true (by omega)
                        have g2 : decide (k < q) = true := decide_eq_true hsame.2
                        have HSM := Lib.hid hsame
                        clear hsame
                        go_upto_region 10 with fail
                        go_cut [76] from 61 to 76 (fun s76 wx => s76 = .bool true ∧ Hid (Below w3.heap.size w3 wx))
                        case first =>
                          skip
                          have a0 := fun d os => (SXA.out _ (below_up8 HB4.out (below_regrown w4 d os))).1
                          have b0 := fun d os => (SXB.out _ (below_up8 HB4.out (below_regrown w4 d os))).1
                          refine wp_region_quiet_below (by kernel_rfl) (by kernel_rfl) ?_
                          repeat (first | go_big_quiet_step (fail) | quiet_step (fail))
                          refine wpQuiet_nil ?_
                          intro _ hw'
                          obtain ⟨⟨dq, osq⟩, hw''⟩ := hw'
                          subst hw''
                          go_wp2_with fail
                          go_meet
                          exact ⟨rfl, Lib.hid (below_up8 HB4.out (below_regrown _ _ _))⟩
                        case rest =>
                          obtain ⟨rfl, HB5⟩ := hcut
                          generalize wc = w5 at *
                          clear g0 g1 g2
                          go_upto_region 11 with fail
                          go_cut [11] from 77 to 94 (fun s11 wx => s11 = .bool (shB (f.drOf a.ag) (b.tm - a.tm) s t) ∧ Hid (Below w3.heap.size w3 wx))
                          case first =>
                            skip
                            have f0 := fun d os => (HKX.out _ (below_up8 HB5.out (below_regrown w5 d os))).1
                            have f1 := fun d os => (HKX.out _ (below_up8 HB5.out (below_regrown w5 d os))).2.1
                            have f2 := fun d os => (HKX.out _ (below_up8 HB5.out (below_regrown w5 d os))).2.2.1
                            have f3 := fun d os => (HKX.out _ (below_up8 HB5.out (below_regrown w5 d os))).2.2.2.1
                            have f4 := fun d os => (HKX.out _ (below_up8 HB5.out (below_regrown w5 d os))).2.2.2.2
                            have a0 := fun d os => (SXA.out _ (below_up8 HB5.out (below_regrown w5 d os))).1
                            have b0 := fun d os => (SXB.out _ (below_up8 HB5.out (below_regrown w5 d os))).1
                            have a1 := fun d os => (SXA.out _ (below_up8 HB5.out (below_regrown w5 d os))).2.1
                            have b1 := fun d os => (SXB.out _ (below_up8 HB5.out (below_regrown w5 d os))).2.1
                            have a2 := fun d os => (SXA.out _ (below_up8 HB5.out (below_regrown w5 d os))).2.2.1
                            have b2 := fun d os => (SXB.out _ (below_up8 HB5.out (below_regrown w5 d os))).2.2.1
                            have a3 := fun d os => (SXA.out _ (below_up8 HB5.out (below_regrown w5 d os))).2.2.2.1
                            have b3 := fun d os => (SXB.out _ (below_up8 HB5.out (below_regrown w5 d os))).2.2.2.1
                            have a4 := fun d os => (SXA.out _ (below_up8 HB5.out (below_regrown w5 d os))).2.2.2.2.1
                            have b4 := fun d os => (SXB.out _ (below_up8 HB5.out (below_regrown w5 d os))).2.2.2.2.1
                            have a5 := fun d os => (SXA.out _ (below_up8 HB5.out (below_regrown w5 d os))).2.2.2.2.2.1
                            have b5 := fun d os => (SXB.out _ (below_up8 HB5.out (below_regrown w5 d os))).2.2.2.2.2.1
                            have a6 := fun d os => (SXA.out _ (below_up8 HB5.out (below_regrown w5 d os))).2.2.2.2.2.2.1
                            have b6 := fun d os => (SXB.out _ (below_up8 HB5.out (below_regrown w5 d os))).2.2.2.2.2.2.1
                            have a7 := fun d os => (SXA.out _ (below_up8 HB5.out (below_regrown w5 d os))).2.2.2.2.2.2.2.1
                            have b7 := fun d os => (SXB.out _ (below_up8 HB5.out (below_regrown w5 d os))).2.2.2.2.2.2.2.1
                            have a8 := fun d os => (SXA.out _ (below_up8 HB5.out (below_regrown w5 d os))).2.2.2.2.2.2.2.2.1
                            have b8 := fun d os => (SXB.out _ (below_up8 HB5.out (below_regrown w5 d os))).2.2.2.2.2.2.2.2.1
                            have a9 := fun d os => (SXA.out _ (below_up8 HB5.out (below_regrown w5 d os))).2.2.2.2.2.2.2.2.2.1
                            have b9 := fun d os => (SXB.out _ (below_up8 HB5.out (below_regrown w5 d os))).2.2.2.2.2.2.2.2.2.1
                            have a10 := fun d os => (SXA.out _ (below_up8 HB5.out (below_regrown w5 d os))).2.2.2.2.2.2.2.2.2.2.1
                            have b10 := fun d os => (SXB.out _ (below_up8 HB5.out (below_regrown w5 d os))).2.2.2.2.2.2.2.2.2.2.1
                            have a11 := fun d os => (SXA.out _ (below_up8 HB5.out (below_regrown w5 d os))).2.2.2.2.2.2.2.2.2.2.2
                            have b11 := fun d os => (SXB.out _ (below_up8 HB5.out (below_regrown w5 d os))).2.2.2.2.2.2.2.2.2.2.2
                            have xk := fun d os => SXK.out _ (below_up8 HB5.out (below_regrown w5 d os))
                            have xq := fun d os => SXQ.out _ (below_up8 HB5.out (below_regrown w5 d os))
                            refine wp_region_quiet_below (by kernel_rfl) (by kernel_rfl) ?_
                            repeat (first | go_big_quiet_step ((first | fail | (go_at_call 53; exact Calls.regrown_of (CS2.out _ (HFA.out _ (below_up8 HB.out (below_up8 HB5.out (below_regrown _ _ _)))))))) | quiet_step ((first | fail | (go_at_call 53; exact Calls.regrown_of (CS2.out _ (HFA.out _ (below_up8 HB.out (below_up8 HB5.out (below_regrown _ _ _)))))))))
                            refine wpQuiet_nil ?_
                            intro _ hw'
                            obtain ⟨⟨dq, osq⟩, hw''⟩ := hw'
                            subst hw''
                            go_wp2_with fail
                            go_meet
                            exact ⟨rfl, Lib.hid (below_up8 HB5.out (below_regrown _ _ _))⟩
                          case rest =>
                            obtain ⟨rfl, HB6⟩ := hcut
                            generalize wc = w6 at *
                            cases hsh : shB (f.drOf a.ag) (b.tm - a.tm) s t with
                            | false =>
                              have HF := Lib.hid (HNX.out (fun h => by have := (HSK.out.2 h).1 HSM.out.1 HSM.out.2; rw [hsh] at this; cases this))
                              clear hsh
                              go_wp2_with fail
                              go_ret
                              exact ⟨by rw [HF.out]; rfl, below_up8 HB.out HB6.out⟩
                            | true =>
                              have HLEFT := Lib.hid (show a.ag = b.ag → k < q → shB (f.drOf a.ag) (b.tm - a.tm) s t = true from fun _ _ => hsh)
                              clear hsh
                              go_upto_region 14 with fail
                              go_cut [12, 13] from 97 to 109 (fun s12 s13 wx => s12 = .bool (folB a b) ∧ s13 = .int .i64 (folN f.lat a b) ∧ Hid (Below w3.heap.size w3 wx))
                              case first =>
                                skip
                                have f0 := fun d os => (HKX.out _ (below_up8 HB6.out (below_regrown w6 d os))).1
                                have f1 := fun d os => (HKX.out _ (below_up8 HB6.out (below_regrown w6 d os))).2.1
                                have f2 := fun d os => (HKX.out _ (below_up8 HB6.out (below_regrown w6 d os))).2.2.1
                                have f3 := fun d os => (HKX.out _ (below_up8 HB6.out (below_regrown w6 d os))).2.2.2.1
                                have f4 := fun d os => (HKX.out _ (below_up8 HB6.out (below_regrown w6 d os))).2.2.2.2
                                have a0 := fun d os => (SXA.out _ (below_up8 HB6.out (below_regrown w6 d os))).1
                                have b0 := fun d os => (SXB.out _ (below_up8 HB6.out (below_regrown w6 d os))).1
                                have a1 := fun d os => (SXA.out _ (below_up8 HB6.out (below_regrown w6 d os))).2.1
                                have b1 := fun d os => (SXB.out _ (below_up8 HB6.out (below_regrown w6 d os))).2.1
                                have a2 := fun d os => (SXA.out _ (below_up8 HB6.out (below_regrown w6 d os))).2.2.1
                                have b2 := fun d os => (SXB.out _ (below_up8 HB6.out (below_regrown w6 d os))).2.2.1
                                have a3 := fun d os => (SXA.out _ (below_up8 HB6.out (below_regrown w6 d os))).2.2.2.1
                                have b3 := fun d os => (SXB.out _ (below_up8 HB6.out (below_regrown w6 d os))).2.2.2.1
                                have a4 := fun d os => (SXA.out _ (below_up8 HB6.out (below_regrown w6 d os))).2.2.2.2.1
                                have b4 := fun d os => (SXB.out _ (below_up8 HB6.out (below_regrown w6 d os))).2.2.2.2.1
                                have a5 := fun d os => (SXA.out _ (below_up8 HB6.out (below_regrown w6 d os))).2.2.2.2.2.1
                                have b5 := fun d os => (SXB.out _ (below_up8 HB6.out (below_regrown w6 d os))).2.2.2.2.2.1
                                have a6 := fun d os => (SXA.out _ (below_up8 HB6.out (below_regrown w6 d os))).2.2.2.2.2.2.1
                                have b6 := fun d os => (SXB.out _ (below_up8 HB6.out (below_regrown w6 d os))).2.2.2.2.2.2.1
                                have a7 := fun d os => (SXA.out _ (below_up8 HB6.out (below_regrown w6 d os))).2.2.2.2.2.2.2.1
                                have b7 := fun d os => (SXB.out _ (below_up8 HB6.out (below_regrown w6 d os))).2.2.2.2.2.2.2.1
                                have a8 := fun d os => (SXA.out _ (below_up8 HB6.out (below_regrown w6 d os))).2.2.2.2.2.2.2.2.1
                                have b8 := fun d os => (SXB.out _ (below_up8 HB6.out (below_regrown w6 d os))).2.2.2.2.2.2.2.2.1
                                have a9 := fun d os => (SXA.out _ (below_up8 HB6.out (below_regrown w6 d os))).2.2.2.2.2.2.2.2.2.1
                                have b9 := fun d os => (SXB.out _ (below_up8 HB6.out (below_regrown w6 d os))).2.2.2.2.2.2.2.2.2.1
                                have a10 := fun d os => (SXA.out _ (below_up8 HB6.out (below_regrown w6 d os))).2.2.2.2.2.2.2.2.2.2.1
                                have b10 := fun d os => (SXB.out _ (below_up8 HB6.out (below_regrown w6 d os))).2.2.2.2.2.2.2.2.2.2.1
                                have a11 := fun d os => (SXA.out _ (below_up8 HB6.out (below_regrown w6 d os))).2.2.2.2.2.2.2.2.2.2.2
                                have b11 := fun d os => (SXB.out _ (below_up8 HB6.out (below_regrown w6 d os))).2.2.2.2.2.2.2.2.2.2.2
                                refine wp_region_quiet_below (by kernel_rfl) (by kernel_rfl) ?_
                                repeat (first | go_big_quiet_step ((first | fail | (go_at_call 46; exact Calls.regrown_of (CF2.out _ (HFA.out _ (below_up8 HB.out (below_up8 HB6.out (below_regrown _ _ _)))))))) | quiet_step ((first | fail | (go_at_call 46; exact Calls.regrown_of (CF2.out _ (HFA.out _ (below_up8 HB.out (below_up8 HB6.out (below_regrown _ _ _)))))))))
                                refine wpQuiet_nil ?_
                                intro _ hw'
                                obtain ⟨⟨dq, osq⟩, hw''⟩ := hw'
                                subst hw''
                                go_wp2_with fail
                                go_meet
                                exact ⟨rfl, rfl, Lib.hid (below_up8 HB6.out (below_regrown _ _ _))⟩
                              case rest =>
                                obtain ⟨rfl, rfl, HB7⟩ := hcut
                                generalize wc = w7 at *
                                cases hfo : folB a b with
                                | false =>
                                  have HOK := Lib.hid (HSK.out.1 ⟨HLEFT.out, fun h => by rw [hfo] at h; cases h⟩)
                                  clear hfo
                                  skip
                                  have g4 : IntKind.i64.wrap (t - s) = t - s := IntWalk.i64_in _ (by omega)
                                  go_upto_region 15 with fail
                                  go_cut [123] from 110 to 123 (fun s123 wx => s123 = .bool false ∧ Hid (Below w3.heap.size w3 wx))
                                  case first =>
                                    skip
                                    have xk := fun d os => SXK.out _ (below_up8 HB7.out (below_regrown w7 d os))
                                    have xq := fun d os => SXQ.out _ (below_up8 HB7.out (below_regrown w7 d os))
                                    refine wp_region_quiet_below (by kernel_rfl) (by kernel_rfl) ?_
                                    repeat (first | go_big_quiet_step (fail) | quiet_step (fail))
                                    refine wpQuiet_nil ?_
                                    intro _ hw'
                                    obtain ⟨⟨dq, osq⟩, hw''⟩ := hw'
                                    subst hw''
                                    go_wp2_with fail
                                    go_meet
                                    exact ⟨rfl, Lib.hid (below_up8 HB7.out (below_regrown _ _ _))⟩
                                  case rest =>
                                    obtain ⟨rfl, HB8⟩ := hcut
                                    generalize wc = w8 at *
                                    go_wp2_with fail
                                    go_roundw
                                    case rel => exact ⟨q + 1, HQT.out, by go_num, HST.out HOK.out, below_hid8 HB HB8, Lib.hid ⟨HK.out.1.below HB8.out, by have := HB8.out.size; have := HK.out.2; omega⟩⟩
                                    case measure => have h9 := HQT.out; simp [RowKit.intOf]; omega
                                | true =>
                                  have HFO := Lib.hid hfo
                                  clear hfo
                                  by_cases hle : folN f.lat a b ≤ t - s
                                  · have HOK := Lib.hid (HSK.out.1 ⟨HLEFT.out, fun _ => hle⟩)
                                    have g3 : decide (t - s < folN f.lat a b) = false := decide_eq_false (by omega)
                                    clear hle
                                    have g4 : IntKind.i64.wrap (t - s) = t - s := IntWalk.i64_in _ (by omega)
                                    go_upto_region 15 with fail
                                    go_cut [123] from 110 to 123 (fun s123 wx => s123 = .bool false ∧ Hid (Below w3.heap.size w3 wx))
                                    case first =>
                                      skip
                                      have xk := fun d os => SXK.out _ (below_up8 HB7.out (below_regrown w7 d os))
                                      have xq := fun d os => SXQ.out _ (below_up8 HB7.out (below_regrown w7 d os))
                                      refine wp_region_quiet_below (by kernel_rfl) (by kernel_rfl) ?_
                                      repeat (first | go_big_quiet_step (fail) | quiet_step (fail))
                                      refine wpQuiet_nil ?_
                                      intro _ hw'
                                      obtain ⟨⟨dq, osq⟩, hw''⟩ := hw'
                                      subst hw''
                                      go_wp2_with fail
                                      go_meet
                                      exact ⟨rfl, Lib.hid (below_up8 HB7.out (below_regrown _ _ _))⟩
                                    case rest =>
                                      obtain ⟨rfl, HB8⟩ := hcut
                                      generalize wc = w8 at *
                                      go_wp2_with fail
                                      go_roundw
                                      case rel => exact ⟨q + 1, HQT.out, by go_num, HST.out HOK.out, below_hid8 HB HB8, Lib.hid ⟨HK.out.1.below HB8.out, by have := HB8.out.size; have := HK.out.2; omega⟩⟩
                                      case measure => have h9 := HQT.out; simp [RowKit.intOf]; omega
                                  · have HF := Lib.hid (HNX.out (fun h => hle ((HSK.out.2 h).2 HFO.out)))
                                    have g3 : decide (t - s < folN f.lat a b) = true := decide_eq_true (by omega)
                                    clear hle
                                    have g4 : IntKind.i64.wrap (t - s) = t - s := IntWalk.i64_in _ (by omega)
                                    go_upto_region 15 with fail
                                    go_cut [123] from 110 to 123 (fun s123 wx => s123 = .bool true ∧ Hid (Below w3.heap.size w3 wx))
                                    case first =>
                                      skip
                                      have xk := fun d os => SXK.out _ (below_up8 HB7.out (below_regrown w7 d os))
                                      have xq := fun d os => SXQ.out _ (below_up8 HB7.out (below_regrown w7 d os))
                                      refine wp_region_quiet_below (by kernel_rfl) (by kernel_rfl) ?_
                                      repeat (first | go_big_quiet_step (fail) | quiet_step (fail))
                                      refine wpQuiet_nil ?_
                                      intro _ hw'
                                      obtain ⟨⟨dq, osq⟩, hw''⟩ := hw'
                                      subst hw''
                                      go_wp2_with fail
                                      go_meet
                                      exact ⟨rfl, Lib.hid (below_up8 HB7.out (below_regrown _ _ _))⟩
                                    case rest =>
                                      obtain ⟨rfl, HB8⟩ := hcut
                                      generalize wc = w8 at *
                                      go_wp2_with fail
                                      go_ret
                                      exact ⟨by rw [HF.out]; rfl, below_up8 HB.out HB8.out⟩
                      · have HLEFT := Lib.hid (show a.ag = b.ag → k < q → shB (f.drOf a.ag) (b.tm - a.tm) s t = true from fun h h2 => absurd ⟨h, h2⟩ hsame)
                        by_cases hsa : a.ag = b.ag
                        · have g0 : (a.ag == b.ag) = true := by rw [beq_iff_eq]; exact hsa
                          have hkn : ¬ k < q := fun h => hsame ⟨hsa, h⟩
                          have g1 : decide ((k : Int) < (q : Int)) = false := decide_eq_false (by omega)
                          have g2 : decide (k < q) = false := decide_eq_false hkn
                          clear hsame hsa hkn
                          go_upto_region 10 with fail
                          go_cut [76] from 61 to 76 (fun s76 wx => s76 = .bool false ∧ Hid (Below w3.heap.size w3 wx))
                          case first =>
                            skip
                            have a0 := fun d os => (SXA.out _ (below_up8 HB4.out (below_regrown w4 d os))).1
                            have b0 := fun d os => (SXB.out _ (below_up8 HB4.out (below_regrown w4 d os))).1
                            refine wp_region_quiet_below (by kernel_rfl) (by kernel_rfl) ?_
                            repeat (first | go_big_quiet_step (fail) | quiet_step (fail))
                            refine wpQuiet_nil ?_
                            intro _ hw'
                            obtain ⟨⟨dq, osq⟩, hw''⟩ := hw'
                            subst hw''
                            go_wp2_with fail
                            go_meet
                            exact ⟨rfl, Lib.hid (below_up8 HB4.out (below_regrown _ _ _))⟩
                          case rest =>
                            obtain ⟨rfl, HB6⟩ := hcut
                            generalize wc = w6 at *
                            clear g0 g1 g2
                            go_upto_region 14 with fail
                            go_cut [12, 13] from 97 to 109 (fun s12 s13 wx => s12 = .bool (folB a b) ∧ s13 = .int .i64 (folN f.lat a b) ∧ Hid (Below w3.heap.size w3 wx))
                            case first =>
                              skip
                              have f0 := fun d os => (HKX.out _ (below_up8 HB6.out (below_regrown w6 d os))).1
                              have f1 := fun d os => (HKX.out _ (below_up8 HB6.out (below_regrown w6 d os))).2.1
                              have f2 := fun d os => (HKX.out _ (below_up8 HB6.out (below_regrown w6 d os))).2.2.1
                              have f3 := fun d os => (HKX.out _ (below_up8 HB6.out (below_regrown w6 d os))).2.2.2.1
                              have f4 := fun d os => (HKX.out _ (below_up8 HB6.out (below_regrown w6 d os))).2.2.2.2
                              have a0 := fun d os => (SXA.out _ (below_up8 HB6.out (below_regrown w6 d os))).1
                              have b0 := fun d os => (SXB.out _ (below_up8 HB6.out (below_regrown w6 d os))).1
                              have a1 := fun d os => (SXA.out _ (below_up8 HB6.out (below_regrown w6 d os))).2.1
                              have b1 := fun d os => (SXB.out _ (below_up8 HB6.out (below_regrown w6 d os))).2.1
                              have a2 := fun d os => (SXA.out _ (below_up8 HB6.out (below_regrown w6 d os))).2.2.1
                              have b2 := fun d os => (SXB.out _ (below_up8 HB6.out (below_regrown w6 d os))).2.2.1
                              have a3 := fun d os => (SXA.out _ (below_up8 HB6.out (below_regrown w6 d os))).2.2.2.1
                              have b3 := fun d os => (SXB.out _ (below_up8 HB6.out (below_regrown w6 d os))).2.2.2.1
                              have a4 := fun d os => (SXA.out _ (below_up8 HB6.out (below_regrown w6 d os))).2.2.2.2.1
                              have b4 := fun d os => (SXB.out _ (below_up8 HB6.out (below_regrown w6 d os))).2.2.2.2.1
                              have a5 := fun d os => (SXA.out _ (below_up8 HB6.out (below_regrown w6 d os))).2.2.2.2.2.1
                              have b5 := fun d os => (SXB.out _ (below_up8 HB6.out (below_regrown w6 d os))).2.2.2.2.2.1
                              have a6 := fun d os => (SXA.out _ (below_up8 HB6.out (below_regrown w6 d os))).2.2.2.2.2.2.1
                              have b6 := fun d os => (SXB.out _ (below_up8 HB6.out (below_regrown w6 d os))).2.2.2.2.2.2.1
                              have a7 := fun d os => (SXA.out _ (below_up8 HB6.out (below_regrown w6 d os))).2.2.2.2.2.2.2.1
                              have b7 := fun d os => (SXB.out _ (below_up8 HB6.out (below_regrown w6 d os))).2.2.2.2.2.2.2.1
                              have a8 := fun d os => (SXA.out _ (below_up8 HB6.out (below_regrown w6 d os))).2.2.2.2.2.2.2.2.1
                              have b8 := fun d os => (SXB.out _ (below_up8 HB6.out (below_regrown w6 d os))).2.2.2.2.2.2.2.2.1
                              have a9 := fun d os => (SXA.out _ (below_up8 HB6.out (below_regrown w6 d os))).2.2.2.2.2.2.2.2.2.1
                              have b9 := fun d os => (SXB.out _ (below_up8 HB6.out (below_regrown w6 d os))).2.2.2.2.2.2.2.2.2.1
                              have a10 := fun d os => (SXA.out _ (below_up8 HB6.out (below_regrown w6 d os))).2.2.2.2.2.2.2.2.2.2.1
                              have b10 := fun d os => (SXB.out _ (below_up8 HB6.out (below_regrown w6 d os))).2.2.2.2.2.2.2.2.2.2.1
                              have a11 := fun d os => (SXA.out _ (below_up8 HB6.out (below_regrown w6 d os))).2.2.2.2.2.2.2.2.2.2.2
                              have b11 := fun d os => (SXB.out _ (below_up8 HB6.out (below_regrown w6 d os))).2.2.2.2.2.2.2.2.2.2.2
                              refine wp_region_quiet_below (by kernel_rfl) (by kernel_rfl) ?_
                              repeat (first | go_big_quiet_step ((first | fail | (go_at_call 46; exact Calls.regrown_of (CF2.out _ (HFA.out _ (below_up8 HB.out (below_up8 HB6.out (below_regrown _ _ _)))))))) | quiet_step ((first | fail | (go_at_call 46; exact Calls.regrown_of (CF2.out _ (HFA.out _ (below_up8 HB.out (below_up8 HB6.out (below_regrown _ _ _)))))))))
                              refine wpQuiet_nil ?_
                              intro _ hw'
                              obtain ⟨⟨dq, osq⟩, hw''⟩ := hw'
                              subst hw''
                              go_wp2_with fail
                              go_meet
                              exact ⟨rfl, rfl, Lib.hid (below_up8 HB6.out (below_regrown _ _ _))⟩
                            case rest =>
                              obtain ⟨rfl, rfl, HB7⟩ := hcut
                              generalize wc = w7 at *
                              cases hfo : folB a b with
                              | false =>
                                have HOK := Lib.hid (HSK.out.1 ⟨HLEFT.out, fun h => by rw [hfo] at h; cases h⟩)
                                clear hfo
                                skip
                                have g4 : IntKind.i64.wrap (t - s) = t - s := IntWalk.i64_in _ (by omega)
                                go_upto_region 15 with fail
                                go_cut [123] from 110 to 123 (fun s123 wx => s123 = .bool false ∧ Hid (Below w3.heap.size w3 wx))
                                case first =>
                                  skip
                                  have xk := fun d os => SXK.out _ (below_up8 HB7.out (below_regrown w7 d os))
                                  have xq := fun d os => SXQ.out _ (below_up8 HB7.out (below_regrown w7 d os))
                                  refine wp_region_quiet_below (by kernel_rfl) (by kernel_rfl) ?_
                                  repeat (first | go_big_quiet_step (fail) | quiet_step (fail))
                                  refine wpQuiet_nil ?_
                                  intro _ hw'
                                  obtain ⟨⟨dq, osq⟩, hw''⟩ := hw'
                                  subst hw''
                                  go_wp2_with fail
                                  go_meet
                                  exact ⟨rfl, Lib.hid (below_up8 HB7.out (below_regrown _ _ _))⟩
                                case rest =>
                                  obtain ⟨rfl, HB8⟩ := hcut
                                  generalize wc = w8 at *
                                  go_wp2_with fail
                                  go_roundw
                                  case rel => exact ⟨q + 1, HQT.out, by go_num, HST.out HOK.out, below_hid8 HB HB8, Lib.hid ⟨HK.out.1.below HB8.out, by have := HB8.out.size; have := HK.out.2; omega⟩⟩
                                  case measure => have h9 := HQT.out; simp [RowKit.intOf]; omega
                              | true =>
                                have HFO := Lib.hid hfo
                                clear hfo
                                by_cases hle : folN f.lat a b ≤ t - s
                                · have HOK := Lib.hid (HSK.out.1 ⟨HLEFT.out, fun _ => hle⟩)
                                  have g3 : decide (t - s < folN f.lat a b) = false := decide_eq_false (by omega)
                                  clear hle
                                  have g4 : IntKind.i64.wrap (t - s) = t - s := IntWalk.i64_in _ (by omega)
                                  go_upto_region 15 with fail
                                  go_cut [123] from 110 to 123 (fun s123 wx => s123 = .bool false ∧ Hid (Below w3.heap.size w3 wx))
                                  case first =>
                                    skip
                                    have xk := fun d os => SXK.out _ (below_up8 HB7.out (below_regrown w7 d os))
                                    have xq := fun d os => SXQ.out _ (below_up8 HB7.out (below_regrown w7 d os))
                                    refine wp_region_quiet_below (by kernel_rfl) (by kernel_rfl) ?_
                                    repeat (first | go_big_quiet_step (fail) | quiet_step (fail))
                                    refine wpQuiet_nil ?_
                                    intro _ hw'
                                    obtain ⟨⟨dq, osq⟩, hw''⟩ := hw'
                                    subst hw''
                                    go_wp2_with fail
                                    go_meet
                                    exact ⟨rfl, Lib.hid (below_up8 HB7.out (below_regrown _ _ _))⟩
                                  case rest =>
                                    obtain ⟨rfl, HB8⟩ := hcut
                                    generalize wc = w8 at *
                                    go_wp2_with fail
                                    go_roundw
                                    case rel => exact ⟨q + 1, HQT.out, by go_num, HST.out HOK.out, below_hid8 HB HB8, Lib.hid ⟨HK.out.1.below HB8.out, by have := HB8.out.size; have := HK.out.2; omega⟩⟩
                                    case measure => have h9 := HQT.out; simp [RowKit.intOf]; omega
                                · have HF := Lib.hid (HNX.out (fun h => hle ((HSK.out.2 h).2 HFO.out)))
                                  have g3 : decide (t - s < folN f.lat a b) = true := decide_eq_true (by omega)
                                  clear hle
                                  have g4 : IntKind.i64.wrap (t - s) = t - s := IntWalk.i64_in _ (by omega)
                                  go_upto_region 15 with fail
                                  go_cut [123] from 110 to 123 (fun s123 wx => s123 = .bool true ∧ Hid (Below w3.heap.size w3 wx))
                                  case first =>
                                    skip
                                    have xk := fun d os => SXK.out _ (below_up8 HB7.out (below_regrown w7 d os))
                                    have xq := fun d os => SXQ.out _ (below_up8 HB7.out (below_regrown w7 d os))
                                    refine wp_region_quiet_below (by kernel_rfl) (by kernel_rfl) ?_
                                    repeat (first | go_big_quiet_step (fail) | quiet_step (fail))
                                    refine wpQuiet_nil ?_
                                    intro _ hw'
                                    obtain ⟨⟨dq, osq⟩, hw''⟩ := hw'
                                    subst hw''
                                    go_wp2_with fail
                                    go_meet
                                    exact ⟨rfl, Lib.hid (below_up8 HB7.out (below_regrown _ _ _))⟩
                                  case rest =>
                                    obtain ⟨rfl, HB8⟩ := hcut
                                    generalize wc = w8 at *
                                    go_wp2_with fail
                                    go_ret
                                    exact ⟨by rw [HF.out]; rfl, below_up8 HB.out HB8.out⟩
                        · have g0 : (a.ag == b.ag) = false := by rw [beq_eq_false_iff_ne]; exact hsa
                          clear hsame hsa
                          go_upto_region 10 with fail
                          go_cut [76] from 61 to 76 (fun s76 wx => s76 = .bool false ∧ Hid (Below w3.heap.size w3 wx))
                          case first =>
                            skip
                            have a0 := fun d os => (SXA.out _ (below_up8 HB4.out (below_regrown w4 d os))).1
                            have b0 := fun d os => (SXB.out _ (below_up8 HB4.out (below_regrown w4 d os))).1
                            refine wp_region_quiet_below (by kernel_rfl) (by kernel_rfl) ?_
                            repeat (first | go_big_quiet_step (fail) | quiet_step (fail))
                            refine wpQuiet_nil ?_
                            intro _ hw'
                            obtain ⟨⟨dq, osq⟩, hw''⟩ := hw'
                            subst hw''
                            go_wp2_with fail
                            go_meet
                            exact ⟨rfl, Lib.hid (below_up8 HB4.out (below_regrown _ _ _))⟩
                          case rest =>
                            obtain ⟨rfl, HB6⟩ := hcut
                            generalize wc = w6 at *
                            clear g0
                            go_upto_region 14 with fail
                            go_cut [12, 13] from 97 to 109 (fun s12 s13 wx => s12 = .bool (folB a b) ∧ s13 = .int .i64 (folN f.lat a b) ∧ Hid (Below w3.heap.size w3 wx))
                            case first =>
                              skip
                              have f0 := fun d os => (HKX.out _ (below_up8 HB6.out (below_regrown w6 d os))).1
                              have f1 := fun d os => (HKX.out _ (below_up8 HB6.out (below_regrown w6 d os))).2.1
                              have f2 := fun d os => (HKX.out _ (below_up8 HB6.out (below_regrown w6 d os))).2.2.1
                              have f3 := fun d os => (HKX.out _ (below_up8 HB6.out (below_regrown w6 d os))).2.2.2.1
                              have f4 := fun d os => (HKX.out _ (below_up8 HB6.out (below_regrown w6 d os))).2.2.2.2
                              have a0 := fun d os => (SXA.out _ (below_up8 HB6.out (below_regrown w6 d os))).1
                              have b0 := fun d os => (SXB.out _ (below_up8 HB6.out (below_regrown w6 d os))).1
                              have a1 := fun d os => (SXA.out _ (below_up8 HB6.out (below_regrown w6 d os))).2.1
                              have b1 := fun d os => (SXB.out _ (below_up8 HB6.out (below_regrown w6 d os))).2.1
                              have a2 := fun d os => (SXA.out _ (below_up8 HB6.out (below_regrown w6 d os))).2.2.1
                              have b2 := fun d os => (SXB.out _ (below_up8 HB6.out (below_regrown w6 d os))).2.2.1
                              have a3 := fun d os => (SXA.out _ (below_up8 HB6.out (below_regrown w6 d os))).2.2.2.1
                              have b3 := fun d os => (SXB.out _ (below_up8 HB6.out (below_regrown w6 d os))).2.2.2.1
                              have a4 := fun d os => (SXA.out _ (below_up8 HB6.out (below_regrown w6 d os))).2.2.2.2.1
                              have b4 := fun d os => (SXB.out _ (below_up8 HB6.out (below_regrown w6 d os))).2.2.2.2.1
                              have a5 := fun d os => (SXA.out _ (below_up8 HB6.out (below_regrown w6 d os))).2.2.2.2.2.1
                              have b5 := fun d os => (SXB.out _ (below_up8 HB6.out (below_regrown w6 d os))).2.2.2.2.2.1
                              have a6 := fun d os => (SXA.out _ (below_up8 HB6.out (below_regrown w6 d os))).2.2.2.2.2.2.1
                              have b6 := fun d os => (SXB.out _ (below_up8 HB6.out (below_regrown w6 d os))).2.2.2.2.2.2.1
                              have a7 := fun d os => (SXA.out _ (below_up8 HB6.out (below_regrown w6 d os))).2.2.2.2.2.2.2.1
                              have b7 := fun d os => (SXB.out _ (below_up8 HB6.out (below_regrown w6 d os))).2.2.2.2.2.2.2.1
                              have a8 := fun d os => (SXA.out _ (below_up8 HB6.out (below_regrown w6 d os))).2.2.2.2.2.2.2.2.1
                              have b8 := fun d os => (SXB.out _ (below_up8 HB6.out (below_regrown w6 d os))).2.2.2.2.2.2.2.2.1
                              have a9 := fun d os => (SXA.out _ (below_up8 HB6.out (below_regrown w6 d os))).2.2.2.2.2.2.2.2.2.1
                              have b9 := fun d os => (SXB.out _ (below_up8 HB6.out (below_regrown w6 d os))).2.2.2.2.2.2.2.2.2.1
                              have a10 := fun d os => (SXA.out _ (below_up8 HB6.out (below_regrown w6 d os))).2.2.2.2.2.2.2.2.2.2.1
                              have b10 := fun d os => (SXB.out _ (below_up8 HB6.out (below_regrown w6 d os))).2.2.2.2.2.2.2.2.2.2.1
                              have a11 := fun d os => (SXA.out _ (below_up8 HB6.out (below_regrown w6 d os))).2.2.2.2.2.2.2.2.2.2.2
                              have b11 := fun d os => (SXB.out _ (below_up8 HB6.out (below_regrown w6 d os))).2.2.2.2.2.2.2.2.2.2.2
                              refine wp_region_quiet_below (by kernel_rfl) (by kernel_rfl) ?_
                              repeat (first | go_big_quiet_step ((first | fail | (go_at_call 46; exact Calls.regrown_of (CF2.out _ (HFA.out _ (below_up8 HB.out (below_up8 HB6.out (below_regrown _ _ _)))))))) | quiet_step ((first | fail | (go_at_call 46; exact Calls.regrown_of (CF2.out _ (HFA.out _ (below_up8 HB.out (below_up8 HB6.out (below_regrown _ _ _)))))))))
                              refine wpQuiet_nil ?_
                              intro _ hw'
                              obtain ⟨⟨dq, osq⟩, hw''⟩ := hw'
                              subst hw''
                              go_wp2_with fail
                              go_meet
                              exact ⟨rfl, rfl, Lib.hid (below_up8 HB6.out (below_regrown _ _ _))⟩
                            case rest =>
                              obtain ⟨rfl, rfl, HB7⟩ := hcut
                              generalize wc = w7 at *
                              cases hfo : folB a b with
                              | false =>
                                have HOK := Lib.hid (HSK.out.1 ⟨HLEFT.out, fun h => by rw [hfo] at h; cases h⟩)
                                clear hfo
                                skip
                                have g4 : IntKind.i64.wrap (t - s) = t - s := IntWalk.i64_in _ (by omega)
                                go_upto_region 15 with fail
                                go_cut [123] from 110 to 123 (fun s123 wx => s123 = .bool false ∧ Hid (Below w3.heap.size w3 wx))
                                case first =>
                                  skip
                                  have xk := fun d os => SXK.out _ (below_up8 HB7.out (below_regrown w7 d os))
                                  have xq := fun d os => SXQ.out _ (below_up8 HB7.out (below_regrown w7 d os))
                                  refine wp_region_quiet_below (by kernel_rfl) (by kernel_rfl) ?_
                                  repeat (first | go_big_quiet_step (fail) | quiet_step (fail))
                                  refine wpQuiet_nil ?_
                                  intro _ hw'
                                  obtain ⟨⟨dq, osq⟩, hw''⟩ := hw'
                                  subst hw''
                                  go_wp2_with fail
                                  go_meet
                                  exact ⟨rfl, Lib.hid (below_up8 HB7.out (below_regrown _ _ _))⟩
                                case rest =>
                                  obtain ⟨rfl, HB8⟩ := hcut
                                  generalize wc = w8 at *
                                  go_wp2_with fail
                                  go_roundw
                                  case rel => exact ⟨q + 1, HQT.out, by go_num, HST.out HOK.out, below_hid8 HB HB8, Lib.hid ⟨HK.out.1.below HB8.out, by have := HB8.out.size; have := HK.out.2; omega⟩⟩
                                  case measure => have h9 := HQT.out; simp [RowKit.intOf]; omega
                              | true =>
                                have HFO := Lib.hid hfo
                                clear hfo
                                by_cases hle : folN f.lat a b ≤ t - s
                                · have HOK := Lib.hid (HSK.out.1 ⟨HLEFT.out, fun _ => hle⟩)
                                  have g3 : decide (t - s < folN f.lat a b) = false := decide_eq_false (by omega)
                                  clear hle
                                  have g4 : IntKind.i64.wrap (t - s) = t - s := IntWalk.i64_in _ (by omega)
                                  go_upto_region 15 with fail
                                  go_cut [123] from 110 to 123 (fun s123 wx => s123 = .bool false ∧ Hid (Below w3.heap.size w3 wx))
                                  case first =>
                                    skip
                                    have xk := fun d os => SXK.out _ (below_up8 HB7.out (below_regrown w7 d os))
                                    have xq := fun d os => SXQ.out _ (below_up8 HB7.out (below_regrown w7 d os))
                                    refine wp_region_quiet_below (by kernel_rfl) (by kernel_rfl) ?_
                                    repeat (first | go_big_quiet_step (fail) | quiet_step (fail))
                                    refine wpQuiet_nil ?_
                                    intro _ hw'
                                    obtain ⟨⟨dq, osq⟩, hw''⟩ := hw'
                                    subst hw''
                                    go_wp2_with fail
                                    go_meet
                                    exact ⟨rfl, Lib.hid (below_up8 HB7.out (below_regrown _ _ _))⟩
                                  case rest =>
                                    obtain ⟨rfl, HB8⟩ := hcut
                                    generalize wc = w8 at *
                                    go_wp2_with fail
                                    go_roundw
                                    case rel => exact ⟨q + 1, HQT.out, by go_num, HST.out HOK.out, below_hid8 HB HB8, Lib.hid ⟨HK.out.1.below HB8.out, by have := HB8.out.size; have := HK.out.2; omega⟩⟩
                                    case measure => have h9 := HQT.out; simp [RowKit.intOf]; omega
                                · have HF := Lib.hid (HNX.out (fun h => hle ((HSK.out.2 h).2 HFO.out)))
                                  have g3 : decide (t - s < folN f.lat a b) = true := decide_eq_true (by omega)
                                  clear hle
                                  have g4 : IntKind.i64.wrap (t - s) = t - s := IntWalk.i64_in _ (by omega)
                                  go_upto_region 15 with fail
                                  go_cut [123] from 110 to 123 (fun s123 wx => s123 = .bool true ∧ Hid (Below w3.heap.size w3 wx))
                                  case first =>
                                    skip
                                    have xk := fun d os => SXK.out _ (below_up8 HB7.out (below_regrown w7 d os))
                                    have xq := fun d os => SXQ.out _ (below_up8 HB7.out (below_regrown w7 d os))
                                    refine wp_region_quiet_below (by kernel_rfl) (by kernel_rfl) ?_
                                    repeat (first | go_big_quiet_step (fail) | quiet_step (fail))
                                    refine wpQuiet_nil ?_
                                    intro _ hw'
                                    obtain ⟨⟨dq, osq⟩, hw''⟩ := hw'
                                    subst hw''
                                    go_wp2_with fail
                                    go_meet
                                    exact ⟨rfl, Lib.hid (below_up8 HB7.out (below_regrown _ _ _))⟩
                                  case rest =>
                                    obtain ⟨rfl, HB8⟩ := hcut
                                    generalize wc = w8 at *
                                    go_wp2_with fail
                                    go_ret
                                    exact ⟨by rw [HF.out]; rfl, below_up8 HB.out HB8.out⟩
            · obtain rfl : q = l.length := by omega
              have HST := Lib.hid (show ∀ p r, p < k + 1 → r < l.length → PairOk f l x m p r from fun p r hp hr => by
                rcases Nat.lt_or_ge p k with h9 | h9
                · exact HS.out p r h9 hr
                · obtain rfl : p = k := by omega
                  exact HSQ.out r hr)
              have hqi : ¬ (l.length : Int) < (l.length : Int) := by omega
              have HLT := Lib.hid hlt
              go_wp2_with fail
              go_roundw
              case rel => exact ⟨k + 1, HLT.out, by go_num, HST, HB, HK⟩
              case measure => have h9 := HLT.out; simp [RowKit.intOf]; omega
        · obtain rfl : k = l.length := by omega
          have HF := Lib.hid (HYES.out ⟨HV.out, HT.out, fun i j hi hj => HS.out i j hi hj⟩)
          have hki : ¬ (l.length : Int) < (l.length : Int) := by omega
          go_wp2_with fail
          go_ret
          exact ⟨by rw [HF.out]; rfl, HB.out⟩
end Go.Proofs.YtamefmojocegkaaDoor
