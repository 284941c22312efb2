/-
  Layer 9: the law BatchSplitsMatchReference: both Splits answer the same parts or the same error.
-/
import Derived.Test.YtnpfhcnjkekhbaaGreatDoorK29
import Derived.BigQuiet
import Derived.Shelf.Strings.BuilderK
import Derived.Shelf.Strings.Repeat
import Derived.Maps.Own
import Derived.Maps.OwnOps
import Derived.Laws.Rows
import Derived.Laws.OwnMore
import Derived.OwnWalk
import Derived.WalkKit
import Derived.WalkLawsBesides
import Derived.Outline
import Derived.Lib.Hide
import Derived.Below
import Derived.Deep.QuietTactic
import Derived.Deep.RegionHeld3
import Derived.Lib.QuietBelow
import Derived.Deep.DeepCutAuto
import Derived.StillTail
import Derived.Lib.Varint
import Derived.Lib.SlBytesRow
import Derived.Shelf.Abstract
import Derived.OwnWalkIn
import Derived.TacticsInMore
import Derived.LoopNIn
import Derived.LoopIn
import Derived.RangeFuncNested
import Derived.RangeFuncBound
import Derived.RangeFuncCalls
import Derived.RangeFuncLeaves
import Derived.RangeFuncBox
import Derived.Lib.ConvBytes
import Derived.DefersIn
import Derived.Laws.CopyOwn
import Derived.RegionTactic
import Derived.ChangeAlike
import Derived.Deep.RegionWith
import Derived.Deep.CutRange
import Derived.IntWalk
import Derived.Lib.EndianBits
import Derived.Lib.Strings
import Derived.ControlIn
import Derived.WalkMore
import Derived.Lib.SliceRun
import Derived.RangeFuncRecord
import Derived.Shelf.LaysM
import Derived.Shelf.Strconv.Clone
import Derived.Maps.AppendAt
import Derived.Deep.RegionLaw
import Derived.Laws.AppendOwn
import Derived.Defers
import Derived.Recover
import Derived.Sort.CutIn
import Derived.RangeFuncFrom
import Derived.TacticsIn
import Derived.OrdersIn
import Derived.Laws.MakeOwn
import Derived.Laws.StructEq
namespace Go.Proofs.YtnpfhcnjkekhbaaGreatDoor
open Go Go.Proofs Go.RowKit Go.Lib Go.Maps

/-- A slice of events, or of integers, that a law goes through. -/
structure EsIn (w : World) (n : Nat) (v : Value) : Prop where
  ex : ∃ (ad : Option Addr) (c : Nat) (l : List Ev), v = .slice ad l.length c ∧ l.length ≤ n ∧ l.length ≤ c ∧ (ad = none → c = 0) ∧ evsW l ∧ RL KE w ad l
structure IsIn (w : World) (n : Nat) (v : Value) : Prop where
  ex : ∃ (ad : Option Addr) (c : Nat) (l : List Int), v = .slice ad l.length c ∧ l.length ≤ n ∧ RL KI w ad l
theorem EsIn.below {w W : World} {n : Nat} {v : Value} (h : EsIn w n v) (b : Below w.heap.size w W) : EsIn W n v := by
  obtain ⟨ad, c, l, h1, h2, h3, h4, h5, h6⟩ := h.ex
  exact ⟨ad, c, l, h1, h2, h3, h4, h5, h6.below b⟩
theorem IsIn.below {w W : World} {n : Nat} {v : Value} (h : IsIn w n v) (b : Below w.heap.size w W) : IsIn W n v := by
  obtain ⟨ad, c, l, h1, h2, h3⟩ := h.ex
  exact ⟨ad, c, l, h1, h2, h3.below b⟩
theorem take_len9 {T : Type} (l : List T) (n : Nat) : (l.take n).length = min l.length n := by rw [List.length_take, Nat.min_comm]
theorem at_es9 (g n c k : Nat) (hk : k < n) (w : World) : (Instr.indexAt 53 (.slice (some ⟨g, 0, none⟩) n c) (.int .i64 (k : Int))).run Tryz.prog w = .ok (.pointer (some ⟨g, k, none⟩)) w := by
  rw [run_indexAt_slice w 53 _ _ _ _ _ (show Tryz.prog.underlying 53 = some (.slice (Tryz.prog.elem 53)) from by kernel_rfl), if_pos (by omega)]
  have hs : ∀ w, (sizeOf (Tryz.prog.elem 53)).run Tryz.prog w = .ok 1 w := fun w => by kernel_rfl
  simp [hs, add_at8, Result.andThen]
theorem at_is9 (g n c k : Nat) (hk : k < n) (w : World) : (Instr.indexAt 54 (.slice (some ⟨g, 0, none⟩) n c) (.int .i64 (k : Int))).run Tryz.prog w = .ok (.pointer (some ⟨g, k, none⟩)) w := by
  rw [run_indexAt_slice w 54 _ _ _ _ _ (show Tryz.prog.underlying 54 = some (.slice (Tryz.prog.elem 54)) from by kernel_rfl), if_pos (by omega)]
  have hs : ∀ w, (sizeOf (Tryz.prog.elem 54)).run Tryz.prog w = .ok 1 w := fun w => by kernel_rfl
  simp [hs, add_at8, Result.andThen]
set_option maxRecDepth 100000 in
set_option maxHeartbeats 16000000 in
theorem batchSplits_u (ag : Int) (rad : Option Addr) (rc : Nat) (r : List Ev) (lad : Option Addr) (lc : Nat) (l : List S6) (xad : Option Addr) (xc : Nat) (x : List Int) (yad : Option Addr) (yc : Nat) (y : List Int) (cad : Option Addr) (cc : Nat) (c : List Int) (sad : Option Addr) (sc : Nat) (shy : List Int)
    (g0 : -9223372036854775808 ≤ ag) (g1 : ag ≤ 9223372036854775807) (_hr : r.length ≤ maxLen) (hrc : r.length ≤ rc) (hrn : rad = none → rc = 0) (hrw : evsW r)
    (hl : l.length ≤ maxLen) (hx : ∀ y ∈ l, y.fit) (_hxl : x.length ≤ maxLen) (hxc : x.length ≤ xc) (_hyl : y.length ≤ maxLen) (hyc : y.length ≤ yc) (hc : c.length ≤ maxLen) (hcb : ∀ i (h : i < c.length), -9223372036854775808 ≤ c[i] ∧ c[i] ≤ 9223372036854775807)
    (hs : shy.length ≤ maxLen) (hsb : ∀ i (h : i < shy.length), -9223372036854775808 ≤ shy[i] ∧ shy[i] ≤ 9223372036854775807)
    (w : World) (hR : Rdy w) (hD : Ready w) (hr0 : RL KE w rad r) (hI : RL K6 w lad l) (hX : RL KI w xad x) (hY : RL KI w yad y) (hJ : RL KI w cad c) (hK : RL KI w sad shy) :
    Calls Tryz.prog 4 #[.int .i64 ag, .slice rad r.length rc, .slice lad l.length lc, .slice xad x.length xc, .slice yad y.length yc, .slice cad c.length cc, .slice sad shy.length sc] w fun e w' => e = .returned (.bool true) ∧ Below w.heap.size w w' := by
  have HOK := str9 ag l c shy []
  have HSN := Lib.hid (sane9_any w hR hD)
  have HST := Lib.hid (fun W (b : Below w.heap.size w W) => streamR9_any ag lad lc l g0 g1 hl hx W (hI.below b))
  have HCT := Lib.hid (fun W (b : Below w.heap.size w W) => cutR9_any (strN l) cad cc c (by omega) (by have := strN_le l; omega) hc hcb W (hJ.below b))
  have HLO := Lib.hid (fun W (b : Below w.heap.size w W) a1 c1 a2 c2 h1 h2 => lowsR9_any a1 c1 (strL ag l) a2 c2 (cutL (strN l) c) sad sc shy (by have := HOK.sl; omega) HOK.tr (by have := HOK.xl; omega) (fun y hy => by have := HOK.xb y hy; omega) hs hsb W h1 h2 (hK.below b))
  have HPA := Lib.hid (fun W => pickL9_any ag 6 g0 g1 (by decide) (by decide) W)
  have HRD := Lib.hid (fun W (b : Below w.heap.size w W) => hR.below b)
  have HDD := Lib.hid (fun W (b : Below w.heap.size w W) => hD.below b)
  have HER := Lib.hid (fun W (b : Below w.heap.size w W) => (show EsIn W 20 (.slice rad (r.take 12).length rc) from ⟨rad, rc, r.take 12, rfl, by rw [List.length_take]; omega, by rw [List.length_take]; omega, hrn, evsW_sub hrw (fun e he => List.mem_of_mem_take he), (hr0.below b).take8 12⟩))
  have HIX := Lib.hid (fun W (b : Below w.heap.size w W) => (show IsIn W 14 (.slice xad (x.take 14).length xc) from ⟨xad, xc, x.take 14, rfl, by rw [List.length_take]; omega, (hX.below b).take8 14⟩))
  have HIY := Lib.hid (fun W (b : Below w.heap.size w W) => (show IsIn W 14 (.slice yad (y.take 14).length yc) from ⟨yad, yc, y.take 14, rfl, by rw [List.length_take]; omega, (hY.below b).take8 14⟩))
  obtain ⟨RN, hRN⟩ : ∃ n, (r.take 12).length = n := ⟨_, rfl⟩
  obtain ⟨XN, hXN⟩ : ∃ n, (x.take 14).length = n := ⟨_, rfl⟩
  obtain ⟨YN, hYN⟩ : ∃ n, (y.take 14).length = n := ⟨_, rfl⟩
  have HM1 := Lib.hid (show min (r.length : Int) 12 = (RN : Int) from by rw [← hRN, List.length_take]; omega)
  have HM2 := Lib.hid (show min (x.length : Int) 14 = (XN : Int) from by rw [← hXN, List.length_take]; omega)
  have HM3 := Lib.hid (show min (y.length : Int) 14 = (YN : Int) from by rw [← hYN, List.length_take]; omega)
  have hs1 := fun W => (show (Instr.slice 24 (.slice rad r.length rc) none (some (.int .i64 (RN : Int))) none).run Tryz.prog W = .ok (.slice rad RN rc) W from KE.to8 rad r.length rc RN (by rw [← hRN, List.length_take]; omega) W)
  have hs2 := fun W => (show (Instr.slice 28 (.slice xad x.length xc) none (some (.int .i64 (XN : Int))) none).run Tryz.prog W = .ok (.slice xad XN xc) W from KI.to8 xad x.length xc XN (by rw [← hXN, List.length_take]; omega) W)
  have hs3 := fun W => (show (Instr.slice 28 (.slice yad y.length yc) none (some (.int .i64 (YN : Int))) none).run Tryz.prog W = .ok (.slice yad YN yc) W from KI.to8 yad y.length yc YN (by rw [← hYN, List.length_take]; omega) W)
  rw [hRN] at HER
  rw [hXN] at HIX
  rw [hYN] at HIY
  have HSL := Lib.hid HOK.sl
  have HXL := Lib.hid HOK.xl
  have HLL := Lib.hid HOK.ll
  have HEW := Lib.hid HOK.ew
  rw [← strL_len ag l] at HCT HLO HXL HLL
  generalize lowL (strL ag l) (cutL ((strL ag l).length : Int) c) shy = L at *
  generalize cutL ((strL ag l).length : Int) c = X at *
  clear HOK
  generalize strL ag l = S at *
  generalize pick8 ag 6 = PA at *
  have HS1 := Lib.hid hs1; have HS2 := Lib.hid hs2; have HS3 := Lib.hid hs3
  clear g0 g1 _hr hrc hrn hrw hl hx _hxl hxc _hyl hyc hc hcb hs hsb hR hD hr0 hI hX hY hJ hK hRN hXN hYN hs1 hs2 hs3
  go_enter Tryz.func4, Tryz.ntmps4
  go_wp2_with fail
  refine HSN.out.mono ?_
  rintro e w1 ⟨rfl, hb⟩
  have HB := Lib.hid hb
  clear hb HSN
  go_wp2_with fail
  refine (HST.out _ HB.out).mono ?_
  rintro e w2 ⟨ad1, c1, rfl, hc1, hn1, hr1, hb⟩
  replace HB := Lib.hid (HB.out.trans (hb.mono HB.out.size))
  have HS := Lib.hid (fun W (b : Below w2.heap.size w2 W) => hr1.rl.below b)
  have HES := Lib.hid (fun W (b : Below w2.heap.size w2 W) => (show EsIn W 20 (.slice ad1 S.length c1) from ⟨ad1, c1, S, rfl, HSL.out, hc1, hn1, HEW.out, hr1.rl.below b⟩))
  clear hb hr1 hc1 hn1 HST
  go_wp2_with fail
  refine (HCT.out _ HB.out).mono ?_
  rintro e w3 ⟨ad2, c2, rfl, hc2, hn2, hr2, hb⟩
  replace HB := Lib.hid (HB.out.trans (hb.mono HB.out.size))
  have HB2 := Lib.hid hb
  have HX := Lib.hid (fun W (b : Below w3.heap.size w3 W) => hr2.rl.below b)
  have HIG := Lib.hid (fun W (b : Below w3.heap.size w3 W) => (show IsIn W 14 (.slice ad2 X.length c2) from ⟨ad2, c2, X, rfl, Nat.le_trans HXL.out (by decide), hr2.rl.below b⟩))
  clear hb hr2 hc2 hn2 HCT
  go_wp2_with fail
  refine (HLO.out _ HB.out _ _ _ _ (HS.out _ HB2.out) (HX.out _ (Below.refl _ _))).mono ?_
  rintro e w4 ⟨ad3, c3, rfl, hc3, hn3, hr3, hb⟩
  replace HB := Lib.hid (HB.out.trans (hb.mono HB.out.size))
  replace HB2 := Lib.hid (HB2.out.trans (hb.mono HB2.out.size))
  have HB3 := Lib.hid hb
  have HIL := Lib.hid (fun W (b : Below w4.heap.size w4 W) => (show IsIn W 14 (.slice ad3 L.length c3) from ⟨ad3, c3, L, rfl, by rw [HLL.out]; exact Nat.le_trans HXL.out (by decide), hr3.rl.below b⟩))
  clear hb hr3 hc3 hn3 HLO
  go_wp2_with fail
  refine (HPA.out _).mono ?_
  rintro e z ⟨rfl, hz⟩
  subst z
  obtain ⟨w5, V5, Z5, K5, B5⟩ := lay8 w4 [.int .i64 ag, .int .i64 PA] 3
  have V5 := (show w4.alloc (.cells #[.int .i64 ag, .int .i64 PA] 3) = w5 from V5)
  have HCV := Lib.hid (show ∀ j, j < 2 → ∃ n, Hid (∀ W, Below w5.heap.size w5 W → W.cell? ⟨w4.heap.size, j, none⟩ = some (.int .i64 n)) from fun j hj => by
    match j, hj with
    | 0, _ => exact ⟨ag, Lib.hid (fun W b => (K5.below b 0 (by simp)).1)⟩
    | 1, _ => exact ⟨PA, Lib.hid (fun W b => (K5.below b 1 (by simp)).1)⟩)
  replace HB := Lib.hid (HB.out.trans (B5.mono HB.out.size))
  replace HB2 := Lib.hid (HB2.out.trans (B5.mono HB2.out.size))
  replace HB3 := Lib.hid (HB3.out.trans (B5.mono HB3.out.size))
  have HB4 := Lib.hid B5
  clear K5 B5 Z5 HPA
  go_wp2_with fail
  clear V5
  go_loopw [48] (fun i wr => ∃ j : Nat, j ≤ 2 ∧ i = .int .i64 (j : Int) ∧ Hid (Below w5.heap.size w5 wr)) (fun i _ => 2 - (RowKit.intOf i).toNat)
  case atStart => exact ⟨0, by decide, rfl, Lib.hid (Below.refl _ _)⟩
  case round =>
    obtain ⟨j1, hj1, rfl, HQ1⟩ := hrel
    generalize wr = u1 at *
    by_cases hj : j1 < 2
    rotate_left
    · have hji : ¬ (j1 : Int) < 2 := by omega
      go_wp2_with fail
      go_ret
      exact ⟨rfl, below_up8 HB.out HQ1.out⟩
    have hji : (j1 : Int) < 2 := by omega
    have hw1 : IntKind.i64.wrap ((j1 : Int) + 1) = (j1 : Int) + 1 := wrapq8 (by omega)
    obtain ⟨n, HCN⟩ := HCV.out j1 hj
    have hcn := HCN.out _ HQ1.out
    have ix1 := fun W => at_int9z w4.heap.size 0 2 2 j1 hj W
    simp only [Nat.zero_add] at ix1
    have HJ1 := Lib.hid hj
    have hm1 := HM1.out
    have hs1 := HS1.out
    have HU1 := Lib.hid (below_up8 HB.out HQ1.out)
    have HU12 := Lib.hid (below_up8 HB2.out HQ1.out)
    have HU13 := Lib.hid (below_up8 HB3.out HQ1.out)
    have HU14 := Lib.hid (below_up8 HB4.out HQ1.out)
    obtain ⟨u2, V2, Z2, K2, B2⟩ := lay8 u1 [.slice rad RN rc, .slice ad1 S.length c1] 24
    have V2 := (show u1.alloc (.cells #[.slice rad RN rc, .slice ad1 S.length c1] 24) = u2 from V2)
    have HV2 := Lib.hid (show ∀ j, j < 2 → ∃ v, EsIn u2 20 v ∧ Hid (∀ W, Below u2.heap.size u2 W → W.cell? ⟨u1.heap.size, j, none⟩ = some v) from fun j hj => by
      match j, hj with
      | 0, _ => exact ⟨_, HER.out _ (below_up8 HU1.out B2), Lib.hid (fun W b => (K2.below b 0 (by simp)).1)⟩
      | 1, _ => exact ⟨_, HES.out _ (below_up8 HU12.out B2), Lib.hid (fun W b => (K2.below b 1 (by simp)).1)⟩)
    have HT2 := Lib.hid B2
    clear K2 B2 Z2 hj
    go_wp2_with fail
    clear V2 hm1 hs1 hcn ix1
    go_loopw [60] (fun i wr => ∃ j : Nat, j ≤ 2 ∧ i = .int .i64 (j : Int) ∧ Hid (Below u2.heap.size u2 wr)) (fun i _ => 2 - (RowKit.intOf i).toNat)
    case atStart => exact ⟨0, by decide, rfl, Lib.hid (Below.refl _ _)⟩
    case round =>
      obtain ⟨j2, hj2, rfl, HQ2⟩ := hrel
      generalize wr = u3 at *
      by_cases hj : j2 < 2
      rotate_left
      · have hji2 : ¬ (j2 : Int) < 2 := by omega
        go_wp2_with fail
        go_roundw
        case rel => exact ⟨j1 + 1, HJ1.out, by go_num, Lib.hid (below_up8 HQ1.out (below_up8 HT2.out HQ2.out))⟩
        case measure => have := HJ1.out; simp [RowKit.intOf]; omega
      have hji2 : (j2 : Int) < 2 := by omega
      have hw2 : IntKind.i64.wrap ((j2 : Int) + 1) = (j2 : Int) + 1 := wrapq8 (by omega)
      obtain ⟨_, ⟨ea, ec, el, rfl, he1, he2, he3, he4, he5⟩, HCE⟩ := HV2.out j2 hj
      have hcn := HCE.out _ HQ2.out
      have ix2 := fun W => at_es9 u1.heap.size 2 2 j2 hj W
      have HJ2 := Lib.hid hj
      have HE1 := Lib.hid (And.intro he1 (And.intro he2 (And.intro he3 he4)))
      have HE5 := Lib.hid (fun W (b : Below u2.heap.size u2 W) => he5.below b)
      have hm2 := HM2.out
      have hs2 := HS2.out
      have HW3 := Lib.hid (below_up8 HT2.out HQ2.out)
      obtain ⟨u4, V4, Z4, K4, B4⟩ := lay8 u3 [.slice xad XN xc, .slice ad2 X.length c2] 28
      have V4 := (show u3.alloc (.cells #[.slice xad XN xc, .slice ad2 X.length c2] 28) = u4 from V4)
      have HV4 := Lib.hid (show ∀ j, j < 2 → ∃ v, IsIn u4 14 v ∧ Hid (∀ W, Below u4.heap.size u4 W → W.cell? ⟨u3.heap.size, j, none⟩ = some v) from fun j hj => by
        match j, hj with
        | 0, _ => exact ⟨_, HIX.out _ (below_up8 HU1.out (below_up8 HW3.out B4)), Lib.hid (fun W b => (K4.below b 0 (by simp)).1)⟩
        | 1, _ => exact ⟨_, HIG.out _ (below_up8 HU13.out (below_up8 HW3.out B4)), Lib.hid (fun W b => (K4.below b 1 (by simp)).1)⟩)
      have HT4 := Lib.hid B4
      clear K4 B4 Z4 hj he1 he2 he3 he4 he5
      go_wp2_with fail
      clear V4 hm2 hs2 hcn ix2
      go_loopw [72] (fun i wr => ∃ j : Nat, j ≤ 2 ∧ i = .int .i64 (j : Int) ∧ Hid (Below u4.heap.size u4 wr)) (fun i _ => 2 - (RowKit.intOf i).toNat)
      case atStart => exact ⟨0, by decide, rfl, Lib.hid (Below.refl _ _)⟩
      case round =>
        obtain ⟨j3, hj3, rfl, HQ3⟩ := hrel
        generalize wr = u5 at *
        by_cases hj : j3 < 2
        rotate_left
        · have hji3 : ¬ (j3 : Int) < 2 := by omega
          go_wp2_with fail
          go_roundw
          case rel => exact ⟨j2 + 1, HJ2.out, by go_num, Lib.hid (below_up8 HQ2.out (below_up8 HT4.out HQ3.out))⟩
          case measure => have := HJ2.out; simp [RowKit.intOf]; omega
        have hji3 : (j3 : Int) < 2 := by omega
        have hw3 : IntKind.i64.wrap ((j3 : Int) + 1) = (j3 : Int) + 1 := wrapq8 (by omega)
        obtain ⟨_, ⟨xa, xk, xl, rfl, hx1, hx5⟩, HCX⟩ := HV4.out j3 hj
        have hcn := HCX.out _ HQ3.out
        have ix3 := fun W => at_is9 u3.heap.size 2 2 j3 hj W
        have HJ3 := Lib.hid hj
        have HX1 := Lib.hid hx1
        have HX5 := Lib.hid (fun W (b : Below u4.heap.size u4 W) => hx5.below b)
        have hm3 := HM3.out
        have hs3 := HS3.out
        have HW5 := Lib.hid (below_up8 HW3.out (below_up8 HT4.out HQ3.out))
        obtain ⟨u6, V6, Z6, K6, B6⟩ := lay8 u5 [.slice yad YN yc, .slice ad3 L.length c3] 28
        have V6 := (show u5.alloc (.cells #[.slice yad YN yc, .slice ad3 L.length c3] 28) = u6 from V6)
        have HV6 := Lib.hid (show ∀ j, j < 2 → ∃ v, IsIn u6 14 v ∧ Hid (∀ W, Below u6.heap.size u6 W → W.cell? ⟨u5.heap.size, j, none⟩ = some v) from fun j hj => by
          match j, hj with
          | 0, _ => exact ⟨_, HIY.out _ (below_up8 HU1.out (below_up8 HW5.out B6)), Lib.hid (fun W b => (K6.below b 0 (by simp)).1)⟩
          | 1, _ => exact ⟨_, HIL.out _ (below_up8 HU14.out (below_up8 HW5.out B6)), Lib.hid (fun W b => (K6.below b 1 (by simp)).1)⟩)
        have HT6 := Lib.hid B6
        clear K6 B6 Z6 hj hx1 hx5
        go_wp2_with fail
        clear V6 hm3 hs3 hcn ix3
        go_loopw [84] (fun i wr => ∃ j : Nat, j ≤ 2 ∧ i = .int .i64 (j : Int) ∧ Hid (Below u6.heap.size u6 wr)) (fun i _ => 2 - (RowKit.intOf i).toNat)
        case atStart => exact ⟨0, by decide, rfl, Lib.hid (Below.refl _ _)⟩
        case round =>
          obtain ⟨j4, hj4, rfl, HQ4⟩ := hrel
          generalize wr = u7 at *
          by_cases hj : j4 < 2
          rotate_left
          · have hji4 : ¬ (j4 : Int) < 2 := by omega
            go_wp2_with fail
            go_roundw
            case rel => exact ⟨j3 + 1, HJ3.out, by go_num, Lib.hid (below_up8 HQ3.out (below_up8 HT6.out HQ4.out))⟩
            case measure => have := HJ3.out; simp [RowKit.intOf]; omega
          have hji4 : (j4 : Int) < 2 := by omega
          have hw4 : IntKind.i64.wrap ((j4 : Int) + 1) = (j4 : Int) + 1 := wrapq8 (by omega)
          obtain ⟨_, ⟨ya, yk, yl, rfl, hy1, hy5⟩, HCY⟩ := HV6.out j4 hj
          have hcn := HCY.out _ HQ4.out
          have ix4 := fun W => at_is9 u5.heap.size 2 2 j4 hj W
          have HJ4 := Lib.hid hj
          have HW7 := Lib.hid (below_up8 HT6.out HQ4.out)
          have HW75 := Lib.hid (below_up8 (below_up8 HT4.out HQ3.out) HW7.out)
          have HU7 := Lib.hid (below_up8 HU1.out (below_up8 HW5.out HW7.out))
          have HRE := Lib.hid (HE5.out _ (below_up8 HQ2.out HW75.out))
          have HRX := Lib.hid (HX5.out _ (below_up8 HQ3.out HW7.out))
          have HRY := Lib.hid (hy5.below HQ4.out)
          have hmx : ∀ n : Nat, n ≤ 20 → n ≤ maxLen := fun n h => Nat.le_trans h (by decide)
          have HSP := Lib.hid (split_u n ea ec el xa xk xl ya yk yl (hmx _ HE1.out.1) (hmx _ (by have := HX1.out; omega)) (hmx _ (by omega)) HE1.out.2.1 HE1.out.2.2.1 HE1.out.2.2.2 u7 (HRD.out _ HU7.out) (HDD.out _ HU7.out) HRE.out HRX.out HRY.out)
          have HSR := Lib.hid (fun W (b : Below u7.heap.size u7 W) => splitR9_any n ea ec el xa xk xl ya yk yl (by have := HE1.out.1; omega) HE1.out.2.1 HE1.out.2.2.1 (by have := HX1.out; omega) W (HRE.out.below b) (HRX.out.below b) (HRY.out.below b))
          clear hj hy1 hy5 hmx
          go_wp2_with fail
          refine HSP.out.mono ?_
          rintro e u8 hsp
          obtain ⟨v1, rfl, HP1⟩ := spl_post9b hsp
          clear hsp hcn ix4
          obtain ⟨pa, pk, pv, rfl, hp1, hp2, hp3⟩ := HP1
          have HB8 := Lib.hid hp3
          have HPR := Lib.hid hp1
          have HPB := Lib.hid hp2
          clear hp1 hp2 hp3 HSP
          go_wp2_with fail
          refine (HSR.out _ HB8.out).mono ?_
          rintro e u9 ⟨hsp, hcz⟩
          obtain ⟨v2, rfl, ra, rk, rv, rfl, _, _, hp1, hp2, hp3⟩ := spl_post9 hsp hcz
          have HB9 := Lib.hid (below_up8 HB8.out hp3)
          have HSA := Lib.hid (show Calls Tryz.prog 32 #[.slice pa (splL n el xl yl).length pk, .slice ra (splL n el xl yl).length rk] u9 (fun e w' => e = .returned (.bool true) ∧ Below u9.heap.size u9 w') from by
            have h := sameBatchesR9_any pa ra pk rk pv rv (splL n el xl yl) (splL n el xl yl) (spl_len9 (by have := HX1.out; omega)) (spl_evs9 (by have := HE1.out.1; omega)) u9 (HPR.out.below hp3) (HPB.out.below hp3) hp1.rl hp2
            rw [btsEq_yes rfl] at h
            exact h)
          generalize splL n el xl yl = LL at *
          generalize splE n el xl yl = EE at *
          clear hsp hcz hp1 hp2 hp3 HSR
          go_wp2_with fail
          refine HSA.out.mono ?_
          rintro e u10 ⟨rfl, hb⟩
          have HBA := Lib.hid (below_up8 HB9.out hb)
          clear hb HSA
          go_wp2_with fail
          go_roundw
          case rel => exact ⟨j4 + 1, HJ4.out, by go_num, Lib.hid (below_up8 HQ4.out HBA.out)⟩
          case measure => have := HJ4.out; simp [RowKit.intOf]; omega
end Go.Proofs.YtnpfhcnjkekhbaaGreatDoor
