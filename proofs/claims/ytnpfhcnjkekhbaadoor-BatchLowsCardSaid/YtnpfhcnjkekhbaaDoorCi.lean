/-
  Layer 9: a stream, its sizes and its lows, with one low replaced: what Split says of it.
-/
import Derived.Test.YtnpfhcnjkekhbaaDoorK25
import Derived.Defers
import Derived.Recover
import Derived.Sort.CutIn
import Derived.Shelf.Strings.BuilderK
import Derived.Shelf.Strings.Repeat
import Derived.Maps.Own
import Derived.Maps.OwnOps
import Derived.Laws.Rows
import Derived.Laws.OwnMore
import Derived.OwnWalk
import Derived.WalkKit
import Derived.WalkLawsBesides
import Derived.Outline
import Derived.Lib.Hide
import Derived.Below
import Derived.BigQuiet
import Derived.Deep.QuietTactic
import Derived.Deep.RegionHeld3
import Derived.Lib.QuietBelow
import Derived.Deep.DeepCutAuto
import Derived.StillTail
import Derived.Lib.Varint
import Derived.Lib.SlBytesRow
import Derived.Shelf.Abstract
import Derived.OwnWalkIn
import Derived.TacticsInMore
import Derived.LoopNIn
import Derived.LoopIn
import Derived.RangeFuncNested
import Derived.RangeFuncBound
import Derived.RangeFuncCalls
import Derived.RangeFuncLeaves
import Derived.RangeFuncBox
import Derived.Lib.ConvBytes
import Derived.DefersIn
import Derived.Laws.CopyOwn
import Derived.RegionTactic
import Derived.ChangeAlike
import Derived.Deep.RegionWith
import Derived.Deep.CutRange
import Derived.IntWalk
import Derived.Lib.EndianBits
import Derived.Lib.Strings
import Derived.ControlIn
import Derived.WalkMore
import Derived.Lib.SliceRun
import Derived.RangeFuncRecord
import Derived.Shelf.LaysM
import Derived.Shelf.Strconv.Clone
import Derived.RangeFuncFrom
import Derived.TacticsIn
import Derived.OrdersIn
import Derived.Laws.MakeOwn
import Derived.Laws.StructEq
namespace Go.Proofs.YtnpfhcnjkekhbaaDoor
open Go Go.Proofs Go.RowKit Go.Lib

def InB9 (x : Int) : Prop := -9223372036854775808 ≤ x ∧ x ≤ 9223372036854775807
theorem at_int9 (g o n c k : Nat) (hk : k < n) (w : World) : (Instr.indexAt 23 (.slice (some ⟨g, o, none⟩) n c) (.int .i64 (k : Int))).run Tryd.prog w = .ok (.pointer (some ⟨g, o + k, none⟩)) w := by
  have := KI.at_ g o n c k hk w
  rw [show o + KI.n * k = o + k by show o + 1 * k = _; omega] at this
  exact this
theorem new9 {T : Type} (K : RowK T) (W : World) (base : Nat) (l : List T) (hb : base ≤ W.heap.size) (hl : l.length ≤ maxLen) (vs : List Value) (hvs : vs = K.vs l) (t : TypeId) (ht : t = K.et) (n : Nat) (hn : n = l.length) :
    Own K (W.alloc (.cells vs.toArray t)) base (.slice (some ⟨W.heap.size, 0, none⟩) n n) l := by
  subst hvs ht hn
  refine ⟨K.vs_length l, .inr ⟨W.heap.size, l.length, (K.vs l).toArray, rfl, hb, heap_alloc_new W _, Nat.le_refl _, hl, by simp [K.vs_length], by rw [List.take_of_length_le (by simp [K.vs_length])]⟩⟩
theorem spl_low9 {w w' : World} {PA : Int} {S : List Ev} {X L : List Int} {K : Nat} {n : Int} {e : Ending} (hK : K < X.length) (hL : L.length = X.length) (h : SplPost w PA S X (L.set K n) e w') :
    ∃ pad pn pc er, e = .returned (.tuple #[.slice pad pn pc, .int .i64 er]) ∧ Below w.heap.size w w' ∧ ((splB PA S X (L.set K n) = false ∧ er = 90) ∨
      (splB PA S X (L.set K n) = true ∧ pn = X.length ∧ er = 0 ∧ ∃ B o, pad = some ⟨B, o, none⟩ ∧ ∀ W, Below w'.heap.size w' W → W.cell? ⟨B, o + 5 * K + 3, none⟩ = some (.int .i64 n))) := by
  obtain ⟨hb, ⟨h1, rfl⟩ | ⟨h1, sad, sc, raws, rfl, _, hlr, hrn, ht⟩⟩ := h
  · exact ⟨none, 0, 0, 90, rfl, hb, .inl ⟨h1, rfl⟩⟩
  · obtain ⟨B, o, hs, _, hc⟩ := hrn.rl.bv9 K (by rw [List.length_map, hlr]; exact hK)
    refine ⟨sad, X.length, sc, 0, rfl, hb, .inr ⟨h1, rfl, rfl, B, o, hs, fun W hW => ?_⟩⟩
    have h := (hc W hW).2.2.2.1
    rw [h, List.getElem_map]
    have hi := (ht K (by rw [hlr]; exact hK)).1
    show some (Value.int .i64 ((L.set K n).getD raws[K].i 0)) = _
    rw [hi, List.getD_eq_getElem?_getD, List.getElem?_set_self (by rw [hL]; exact hK)]
    rfl
def keptK (b : Bool) (S : List Ev) (a q : Nat) (n : Int) : Bool := b && ((S.drop a).take (q - a)).all fun e => decide (n ≤ e.tr)
theorem keptK_start (b : Bool) (S : List Ev) (a : Nat) (n : Int) : b = keptK b S a a n := by unfold keptK; simp
theorem keptK_step (b : Bool) {S : List Ev} {a q : Nat} (n : Int) (h : a ≤ q) (hq : q < S.length) : keptK b S a (q + 1) n = (keptK b S a q n && decide (n ≤ S[q].tr)) := by
  unfold keptK
  rw [show q + 1 - a = (q - a) + 1 by omega, List.take_succ_eq_append_getElem (by rw [List.length_drop]; omega), List.all_append, List.getElem_drop]
  simp only [List.all_cons, List.all_nil, Bool.and_true, Bool.and_assoc, show a + (q - a) = q by omega]
theorem keptK_end (b : Bool) {S : List Ev} {a q : Nat} (n : Int) (hq : S.length ≤ q) : keptK b S a q n = (b && (S.drop a).all fun e => decide (n ≤ e.tr)) := by
  unfold keptK
  rw [List.take_of_length_le (by rw [List.length_drop]; omega)]
structure Low9 (PA : Int) (S : List Ev) (X L : List Int) : Prop where
  sl : S.length ≤ 20
  ew : evsW S
  tr : ∀ e ∈ S, 0 ≤ e.tr ∧ e.tr ≤ 999
  xl : X.length ≤ 13
  xb : ∀ v ∈ X, 0 ≤ v ∧ v ≤ 24
  xs : X.sum = (S.length : Int)
  ll : L.length = X.length
  ok : ∀ k n, k < X.length → (splB PA S X (L.set k n) = true ↔ (0 ≤ n ∧ n ≤ 1000) ∧ ∀ e ∈ S.drop (endK X (k + 1)).toNat, n ≤ e.tr)
  ok0 : splB PA S X L = true
theorem low9 (ag : Int) (l : List S6) (c shy : List Int) : Low9 (pick8 ag 6) (strL ag l) (cutL (strN l) c) (lowL (strL ag l) (cutL (strN l) c) shy) where
  sl := by rw [strL_len]; exact strN_le l
  ew := fun x hx => evB_wf9 (numB_ev (strL_num ag l) x hx)
  tr := fun e he => (by
    have := evB_of (numB_ev (strL_num ag l) e he)
    have := this.2.2.2.1
    omega)
  xl := cutL_len _ c
  xb := cutL_bd (by omega) (by have := strN_le l; omega) c
  xs := by rw [cutL_sum (by omega) c, strL_len]
  ll := lowL_len _ _ _
  ok := fun k n hk => by rw [splB_iff]; exact splOk_set ag l c shy k n hk
  ok0 := (splB_iff _ _ _ _).2 (splOk_low ag l c shy)

set_option maxRecDepth 100000 in
set_option maxHeartbeats 16000000 in
theorem batchLows_u (ag : Int) (lad : Option Addr) (lc : Nat) (l : List S6) (cad : Option Addr) (cc : Nat) (c : List Int) (sad : Option Addr) (sc : Nat) (shy : List Int) (wh lo : Int)
    (g0 : -9223372036854775808 ≤ ag) (g1 : ag ≤ 9223372036854775807) (h0 : -9223372036854775808 ≤ wh) (h1 : wh ≤ 9223372036854775807) (k0 : -9223372036854775808 ≤ lo) (k1 : lo ≤ 9223372036854775807)
    (hl : l.length ≤ maxLen) (hx : ∀ y ∈ l, y.fit) (hc : c.length ≤ maxLen) (hcb : ∀ i (h : i < c.length), -9223372036854775808 ≤ c[i] ∧ c[i] ≤ 9223372036854775807)
    (hs : shy.length ≤ maxLen) (hsb : ∀ i (h : i < shy.length), -9223372036854775808 ≤ shy[i] ∧ shy[i] ≤ 9223372036854775807)
    (w : World) (hR : Rdy w) (hD : Ready w) (hI : RL K6 w lad l) (hJ : RL KI w cad c) (hK : RL KI w sad shy) :
    Calls Tryd.prog 4 #[.int .i64 ag, .slice lad l.length lc, .slice cad c.length cc, .slice sad shy.length sc, .int .i64 wh, .int .i64 lo] w fun e w' => e = .returned (.bool true) ∧ Below w.heap.size w w' := by
  have HOK := low9 ag l c shy
  have HSN := Lib.hid (sane9_any w hR hD)
  have HST := Lib.hid (fun W (b : Below w.heap.size w W) => streamR9_any ag lad lc l g0 g1 hl hx W (hI.below b))
  have HCT := Lib.hid (fun W (b : Below w.heap.size w W) => cutR9_any (strN l) cad cc c (by omega) (by have := strN_le l; omega) hc hcb W (hJ.below b))
  have HLO := Lib.hid (fun W (b : Below w.heap.size w W) a1 c1 a2 c2 h1 h2 => lowsR9_any a1 c1 (strL ag l) a2 c2 (cutL (strN l) c) sad sc shy (by have := HOK.sl; omega) HOK.tr (by have := HOK.xl; omega) (fun y hy => by have := HOK.xb y hy; omega) hs hsb W h1 h2 (hK.below b))
  have HPW := Lib.hid (fun n (hn : 1 ≤ n) (hn2 : n ≤ 9223372036854775807) W => pickL9_any wh n h0 h1 hn hn2 W)
  have HPL := Lib.hid (fun W => pickL9_any lo 8 k0 k1 (by decide) (by decide) W)
  have HPA := Lib.hid (fun W => pickL9_any ag 6 g0 g1 (by decide) (by decide) W)
  have HRD := Lib.hid (fun W (b : Below w.heap.size w W) => hR.below b)
  have HDD := Lib.hid (fun W (b : Below w.heap.size w W) => hD.below b)
  have HLB := Lib.hid (show InB9 lo from ⟨k0, k1⟩)
  rw [← strL_len ag l] at HOK HCT HLO
  generalize lowL (strL ag l) (cutL ((strL ag l).length : Int) c) shy = L at *
  generalize cutL ((strL ag l).length : Int) c = X at *
  generalize strL ag l = S at *
  generalize pick8 ag 6 = PA at *
  clear g0 g1 h0 h1 k0 k1 hl hx hc hcb hs hsb hR hD hI hJ hK
  have HOK := Lib.hid HOK
  go_enter Tryd.func4, Tryd.ntmps4
  go_wp2_with fail
  refine HSN.out.mono ?_
  rintro e w1 ⟨rfl, hb⟩
  have HB := Lib.hid hb
  clear hb HSN
  go_wp2_with fail
  refine (HST.out _ HB.out).mono ?_
  rintro e w2 ⟨ad1, c1, rfl, hc1, hn1, hr1, hb⟩
  replace HB := Lib.hid (HB.out.trans (hb.mono HB.out.size))
  have HS := Lib.hid (fun W (b : Below w2.heap.size w2 W) => hr1.rl.below b)
  have HCA := Lib.hid (And.intro hc1 hn1)
  clear hb hr1 hc1 hn1 HST
  go_wp2_with fail
  refine (HCT.out _ HB.out).mono ?_
  rintro e w3 ⟨ad2, c2, rfl, hc2, hn2, hr2, hb⟩
  replace HB := Lib.hid (HB.out.trans (hb.mono HB.out.size))
  have HB2 := Lib.hid hb
  have HX := Lib.hid (fun W (b : Below w3.heap.size w3 W) => hr2.rl.below b)
  clear hb hr2 hc2 hn2 HCT
  go_wp2_with fail
  refine (HLO.out _ HB.out _ _ _ _ (HS.out _ HB2.out) (HX.out _ (Below.refl _ _))).mono ?_
  rintro e w4 ⟨ad3, c3, rfl, hc3, hn3, hr3, hb⟩
  replace HB := Lib.hid (HB.out.trans (hb.mono HB.out.size))
  replace HB2 := Lib.hid (HB2.out.trans (hb.mono HB2.out.size))
  have HB3 := Lib.hid hb
  have HL := Lib.hid (fun W (b : Below w4.heap.size w4 W) => hr3.rl.below b)
  have HCL := Lib.hid (And.intro hc3 hn3)
  clear hb hr3 hc3 hn3 HLO
  by_cases hx0 : X.length = 0
  · have e0 : ((X.length : Int) == 0) = true := by rw [hx0]; rfl
    have e1 : (X.length : Int) = 0 := by rw [hx0]; rfl
    clear hx0
    go_wp2_with fail
    go_ret
    exact ⟨rfl, HB.out⟩
  have HXP := Lib.hid (show 0 < X.length by omega)
  have hx1 : ¬ (X.length : Int) = 0 := by omega
  have hxn := Lib.hid (show (1 : Int) ≤ (X.length : Int) ∧ (X.length : Int) ≤ 9223372036854775807 from ⟨by omega, by have := HOK.out.xl; omega⟩)
  clear hx0
  go_wp2_with fail
  refine (HPW.out _ hxn.out.1 hxn.out.2 _).mono ?_
  rintro e z ⟨rfl, hz⟩
  subst z
  have p0 := pick8_lo (c := wh) (n := (X.length : Int)) hxn.out.1
  have p1 := pick8_hi (c := wh) (n := (X.length : Int)) hxn.out.1
  obtain ⟨K, hK⟩ : ∃ K : Nat, pick8 wh (X.length : Int) = (K : Int) := ⟨(pick8 wh (X.length : Int)).toNat, by omega⟩
  rw [hK] at p0 p1 ⊢
  have HKX := Lib.hid (show K < X.length by omega)
  clear hK p0 p1 HPW
  go_wp2_with fail
  refine (HPL.out _).mono ?_
  rintro e z ⟨rfl, hz⟩
  subst z
  have q0 := pick8_lo (c := lo) (n := 8) (by decide)
  have q1 := pick8_hi (c := lo) (n := 8) (by decide)
  have HPB := Lib.hid (show InB9 (pick8 lo 8) from ⟨by omega, by omega⟩)
  generalize pick8 lo 8 = PL at *
  clear q0 q1 HPL
  obtain ⟨w5, V5, Z5, K5, B5⟩ := lay8 w4 [.int .i64 lo, .int .i64 PL] 3
  have V5 := (show w4.alloc (.cells #[.int .i64 lo, .int .i64 PL] 3) = w5 from V5)
  have HC5 := Lib.hid (fun j (hj : j < 2) W (b : Below w5.heap.size w5 W) => (K5.below b j hj).1)
  have HCV := Lib.hid (show ∀ j, j < 2 → ∃ n, InB9 n ∧ Hid (∀ W, Below w5.heap.size w5 W → W.cell? ⟨w4.heap.size, j, none⟩ = some (.int .i64 n)) from fun j hj => by
    match j, hj with
    | 0, _ => exact ⟨lo, HLB.out, Lib.hid (fun W b => HC5.out 0 (by decide) W b)⟩
    | 1, _ => exact ⟨PL, HPB.out, Lib.hid (fun W b => HC5.out 1 (by decide) W b)⟩)
  replace HB := Lib.hid (HB.out.trans (B5.mono HB.out.size))
  replace HB2 := Lib.hid (HB2.out.trans (B5.mono HB2.out.size))
  replace HB3 := Lib.hid (HB3.out.trans (B5.mono HB3.out.size))
  have HB4 := Lib.hid B5
  clear K5 B5 Z5 HC5
  go_wp2_with fail
  clear V5
  skip
  go_loopw [54] (fun i wr => ∃ j : Nat, j ≤ 2 ∧ i = .int .i64 (j : Int) ∧ Hid (Below w5.heap.size w5 wr)) (fun i _ => 2 - (RowKit.intOf i).toNat)
  case atStart => exact ⟨0, by decide, rfl, Lib.hid (Below.refl _ _)⟩
  case round =>
    obtain ⟨j, hj, rfl, HBr⟩ := hrel
    by_cases hj2 : j < 2
    · have hj3 : (j : Int) < 2 := by omega
      obtain ⟨n, hn, HCN⟩ := HCV.out j hj2
      have hcn := HCN.out _ HBr.out
      have ixj := fun W => at_int9 w4.heap.size 0 2 2 j hj2 W
      rw [Nat.zero_add] at ixj
      have HJ2 := Lib.hid hj2
      have HNB := Lib.hid hn
      clear hj2 hn
      go_upto_region 11 with fail
      clear hcn ixj
      obtain ⟨wa, Va, Za, Ka, Ba⟩ := lay8 wr [] 3
      have HO1 := Lib.hid (show Own KI wa wr.heap.size (.slice (some ⟨wr.heap.size, 0, none⟩) 0 0) [] by rw [← Va]; exact new9 KI wr wr.heap.size [] (Nat.le_refl _) (by simp) [] rfl 3 rfl 0 rfl)
      have Va := (show wr.alloc (.cells #[] 3) = wa from Va)
      have HWA := Lib.hid Ba
      have HBa := Lib.hid (below_up8 HBr.out Ba)
      have HLa := Lib.hid (HL.out _ (below_up8 HB4.out HBa.out))
      have hza : wr.heap.size ≤ wa.heap.size := by omega
      have hll : L.length ≤ 100000000 := by have := HOK.out.ll; have := HOK.out.xl; omega
      clear Ka Za Ba
      go_upto_region 12 with (at_builtin; refine walk_arg8 KI rfl _ _ rfl wr.heap.size (.slice (some ⟨wr.heap.size, 0, none⟩) 0 0) L rfl HO1.out hza ad3 c3 rfl HLa.out HCL.out.2 hll ?_; intro v2 wb ho2 hb2)
      clear Va
      have HKL := Lib.hid (show K < L.length from by rw [HOK.out.ll]; exact HKX.out)
      obtain ⟨g, cg, eg, _, hgb, hgl⟩ := ho2.block (by have := HKL.out; omega)
      subst eg
      have hcl := ho2.cell K HKL.out 0 (by decide)
      rw [show KI.n * K + 0 = K by show 1 * K + 0 = K; omega] at hcl
      obtain ⟨s1, s2⟩ := hcl
      have s1 := (show wb.cell? ⟨g, K, none⟩ = some (.int .i64 (L[K]'HKL.out)) from s1)
      have i2 := fun W => at_int9 g 0 L.length cg K HKL.out W
      simp only [Nat.zero_add] at i2
      obtain ⟨wc, Vc⟩ : ∃ wc, wb.setCell ⟨g, K, none⟩ (.int .i64 n) = wc := ⟨_, rfl⟩
      have HO3 := Lib.hid (show Own KI wc wr.heap.size (.slice (some ⟨g, 0, none⟩) L.length cg) (L.set K n) from by
        have := (ho2.put K HKL.out 0 (by decide) n (.int .i64 n) rfl).1
        rw [show KI.n * K + 0 = K by show 1 * K + 0 = K; omega, Vc] at this
        exact this)
      have HBc := Lib.hid (show Below wr.heap.size wr wc from by rw [← Vc]; exact (HWA.out.trans hb2).setCell hgb _)
      have HBc5 := Lib.hid (below_up8 HBr.out HBc.out)
      clear ho2 hb2 HBa HLa HO1 HWA hza hll
      go_upto_region 13 with fail
      clear Vc i2 s1 s2
      have HSP := Lib.hid (show Calls Tryd.prog 8 #[.int .i64 PA, .slice ad1 S.length c1, .slice ad2 X.length c2, .slice (some ⟨g, 0, none⟩) L.length cg] wc (SplPost wc PA S X (L.set K n)) from by
        have hq := below_up8 HB4.out HBc5.out
        have := split_u PA ad1 c1 S ad2 c2 X (some ⟨g, 0, none⟩) cg (L.set K n) (Nat.le_trans HOK.out.sl (by decide)) (Nat.le_trans HOK.out.xl (by decide)) (by rw [List.length_set, HOK.out.ll]; exact Nat.le_trans HOK.out.xl (by decide)) HCA.out.1 HCA.out.2 HOK.out.ew wc (HRD.out _ (below_up8 HB.out HBc5.out)) (HDD.out _ (below_up8 HB.out HBc5.out)) (HS.out _ (below_up8 HB2.out HBc5.out)) (HX.out _ (below_up8 HB3.out HBc5.out)) ?_
        · rw [List.length_set] at this
          exact this
        · obtain ⟨ad9, c9, e9, _, hr9⟩ := HO3.out.rn
          injection e9 with e1 e2 e3
          rw [← e1] at hr9
          exact hr9.rl)
      go_wp2_with fail
      refine (HPA.out _).mono ?_
      rintro e z ⟨rfl, hz⟩
      subst z
      go_wp2_with fail
      refine HSP.out.mono ?_
      rintro e wd hsp
      obtain ⟨pad, pn, pc, er, rfl, hbd, hpost⟩ := spl_low9 HKX.out HOK.out.ll hsp
      have HPO := Lib.hid hpost
      have HBd := Lib.hid (below_up8 HBc5.out hbd)
      clear hsp hpost HSP
      go_upto_region 14 with fail
      go_wp2_with fail
      go_loopw [23, 24] (fun v i wq => ∃ q : Nat, i = .int .i64 (q : Int) ∧ q ≤ K + 1 ∧ v = .int .i64 (endK X q) ∧ Hid (Below w5.heap.size w5 wq ∧ Below wd.heap.size wd wq ∧ Below wr.heap.size wr wq)) (fun _ i _ => K + 1 - (RowKit.intOf i).toNat)
      case atStart => exact ⟨0, rfl, Nat.zero_le _, rfl, Lib.hid ⟨HBd.out, Below.refl _ _, below_up8 HBc.out hbd⟩⟩
      case round =>
        obtain ⟨q, rfl, hq, rfl, HQ⟩ := hrel
        by_cases hqk : q ≤ K
        · have hqi : (q : Int) ≤ (K : Int) := by omega
          have hqx : q < X.length := by have := HKX.out; omega
          obtain ⟨xb, xo, rfl, _, hxc⟩ := (HX.out _ (below_up8 HB3.out HQ.out.1)).int q hqx
          have hxq := hxc _ (Below.refl _ _)
          have ixq := fun W => at_int9 xb xo X.length c2 q hqx W
          have hst := endK_step hqx
          have hbq := HOK.out.xb _ (List.getElem_mem hqx)
          have e1 := endK_nonneg (fun y hy => (HOK.out.xb y hy).1) q
          have e2 := endK_le (fun y hy => (HOK.out.xb y hy).1) q
          rw [HOK.out.xs] at e2
          have e3 := HOK.out.sl
          have hws : IntKind.i64.wrap (endK X q + X[q]'hqx) = endK X q + X[q]'hqx := wrapq8 (by omega)
          have hqb : (q : Int) + 1 ≤ 9223372036854775807 := by have := HKX.out; have := HOK.out.xl; omega
          have hwq : IntKind.i64.wrap ((q : Int) + 1) = (q : Int) + 1 := wrapq8 (by have := HKX.out; have := HOK.out.xl; omega)
          have HST9 := Lib.hid hst
          have HQK := Lib.hid hqk
          clear hst hbq e1 e2 e3 hxc hqk hq
          generalize X[q]'hqx = y at *
          generalize endK X q = E at *
          clear hqx
          go_wp2_with fail
          go_roundw
          case rel => exact ⟨q + 1, by go_num, by have := HQK.out; omega, by rw [HST9.out], HQ⟩
          case measure => have := HQK.out; simp [RowKit.intOf]; omega
        · have hqe : q = K + 1 := by omega
          subst hqe
          have hki : ¬ ((K + 1 : Nat) : Int) ≤ (K : Int) := by omega
          clear hqk hq
          have HA := Lib.hid (endK_nonneg (fun y hy => (HOK.out.xb y hy).1) (K + 1))
          obtain ⟨a, ha⟩ : ∃ a : Nat, endK X (K + 1) = (a : Int) := ⟨(endK X (K + 1)).toNat, by have := HA.out; omega⟩
          rw [ha]
          have HAA := Lib.hid ha
          clear ha HA
          go_upto_region 19 with fail
          obtain ⟨b0, hb0⟩ : ∃ b0, decide (0 ≤ n ∧ n ≤ 1000) = b0 := ⟨_, rfl⟩
          have HB0 := Lib.hid hb0
          clear hb0
          have HQ := Lib.hid (And.intro HQ.out.1 HQ.out.2.1)
          go_cut [25] from 85 to 91 (fun s wx => s = .bool b0 ∧ Hid (Below w5.heap.size w5 wx ∧ Below wd.heap.size wd wx))
          case first =>
            by_cases hn0 : 0 ≤ n
            · by_cases hn1 : n ≤ 1000
              · have h9 := Lib.hid (show true = b0 from by rw [← HB0.out]; exact (decide_eq_true ⟨hn0, hn1⟩).symm)
                go_wp2_with fail
                go_meet
                exact ⟨by rw [← h9.out], HQ⟩
              · have h9 := Lib.hid (show false = b0 from by rw [← HB0.out]; exact (decide_eq_false (fun h => hn1 h.2)).symm)
                go_wp2_with fail
                go_meet
                exact ⟨by rw [← h9.out], HQ⟩
            · have h9 := Lib.hid (show false = b0 from by rw [← HB0.out]; exact (decide_eq_false (fun h => hn0 h.1)).symm)
              go_wp2_with fail
              go_meet
              exact ⟨by rw [← h9.out], HQ⟩
          case rest =>
            obtain ⟨rfl, HQ⟩ := hcut
            go_wp2_with fail
            go_loopw [25, 26] (fun v i wq => ∃ q : Nat, i = .int .i64 (q : Int) ∧ a ≤ q ∧ v = .bool (keptK b0 S a q n) ∧ Hid (Below w5.heap.size w5 wq ∧ Below wd.heap.size wd wq)) (fun _ i _ => S.length - (RowKit.intOf i).toNat)
            case atStart => exact ⟨a, rfl, Nat.le_refl _, by rw [← keptK_start], HQ⟩
            case round =>
              obtain ⟨q, rfl, hq, rfl, HQ⟩ := hrel
              generalize wr = wz at *
              by_cases hqs : q < S.length
              · have hqi : (q : Int) < (S.length : Int) := by omega
                obtain ⟨xb, xo, rfl, _, hxc⟩ := (HS.out _ (below_up8 HB2.out HQ.out.1)).ev q hqs
                have d4 := (hxc _ (Below.refl _ _)).2.2.2.2.1
                have ixe := fun W => at_ev8 xb xo S.length c1 q hqs W
                have HKS := Lib.hid (keptK_step b0 n hq hqs)
                have hwq : IntKind.i64.wrap ((q : Int) + 1) = (q : Int) + 1 := wrapq8 (by have := HOK.out.sl; omega)
                have HQS := Lib.hid (And.intro hq hqs)
                clear hxc hq
                generalize (S[q]'hqs).tr = tr at *
                generalize keptK b0 S a q n = kq at *
                clear hqs
                cases kq with
                | false =>
                  have HKF := Lib.hid (show keptK b0 S a (q + 1) n = false from by rw [HKS.out]; rfl)
                  go_wp2_with fail
                  go_roundw
                  case rel => exact ⟨q + 1, by go_num, by have := HQS.out.1; omega, by rw [HKF.out], HQ⟩
                  case measure => have := HQS.out.2; simp [RowKit.intOf]; omega
                | true =>
                  by_cases hge : n ≤ tr
                  · have HKF := Lib.hid (show keptK b0 S a (q + 1) n = true from by rw [HKS.out, decide_eq_true hge]; rfl)
                    go_wp2_with fail
                    go_roundw
                    case rel => exact ⟨q + 1, by go_num, by have := HQS.out.1; omega, by rw [HKF.out], HQ⟩
                    case measure => have := HQS.out.2; simp [RowKit.intOf]; omega
                  · have HKF := Lib.hid (show keptK b0 S a (q + 1) n = false from by rw [HKS.out, decide_eq_false hge]; rfl)
                    go_wp2_with fail
                    go_roundw
                    case rel => exact ⟨q + 1, by go_num, by have := HQS.out.1; omega, by rw [HKF.out], HQ⟩
                    case measure => have := HQS.out.2; simp [RowKit.intOf]; omega
              · have hqi : ¬ (q : Int) < (S.length : Int) := by omega
                have HKE := Lib.hid (keptK_end b0 (a := a) n (show S.length ≤ q by omega))
                have HSB := Lib.hid (show splB PA S X (L.set K n) = keptK b0 S a q n from by
                  rw [HKE.out, ← HB0.out]
                  have h := HOK.out.ok K n HKX.out
                  rw [HAA.out, Int.toNat_natCast] at h
                  rw [Bool.eq_iff_iff, h, Bool.and_eq_true, decide_eq_true_eq, List.all_eq_true]
                  simp only [decide_eq_true_eq])
                generalize keptK b0 S a q n = kp at *
                clear hqs hq HKE
                go_upto_region 24 with fail
                rcases HPO.out with ⟨h1, rfl⟩ | ⟨h1, rfl, rfl, B, o, rfl, hcl⟩
                · obtain rfl : kp = false := by rw [← HSB.out]; exact h1
                  clear h1
                  have HJN := Lib.hid (show j + 1 ≤ 2 from HJ2.out)
                  have hwj : IntKind.i64.wrap ((j : Int) + 1) = (j : Int) + 1 := wrapq8 (by have := HJ2.out; omega)
                  go_wp2_with fail
                  go_roundw
                  case rel => exact ⟨j + 1, HJN.out, by go_num, Lib.hid HQ.out.1⟩
                  case measure => have := HJ2.out; simp [RowKit.intOf]; omega
                · obtain rfl : kp = true := by rw [← HSB.out]; exact h1
                  clear h1
                  have hw1 : IntKind.i64.wrap ((X.length : Int) - 1) = (X.length : Int) - 1 := wrapq8 (by have := HOK.out.xl; omega)
                  have hmn : min (K : Int) ((X.length : Int) - 1) = (K : Int) := by have := HKX.out; omega
                  have hlo := hcl _ HQ.out.2
                  have ixb := fun W => at_bv9 B o X.length pc K HKX.out W
                  have HCL9 := Lib.hid hcl
                  clear hcl
                  have hkm : (K : Int) < (X.length : Int) - 1 ∨ (K : Int) = (X.length : Int) - 1 := by have := HKX.out; omega
                  have HKM := Lib.hid hkm
                  clear hkm
                  have hwj : IntKind.i64.wrap ((j : Int) + 1) = (j : Int) + 1 := wrapq8 (by have := HJ2.out; omega)
                  go_upto_region 26 with fail
                  have HS1 := Lib.hid ((HOK.out.ok K n HKX.out).1 HSB.out)
                  by_cases hpos : 0 < n
                  · have hnb := HNB.out
                    have HO4 := Lib.hid ((HO3.out.below hbd (Nat.le_refl _)).below HQ.out.2 (Nat.le_refl _))
                    have hcl := HO4.out.cell K (by rw [List.length_set]; exact HKL.out) 0 (by decide)
                    rw [show KI.n * K + 0 = K by show 1 * K + 0 = K; omega] at hcl
                    obtain ⟨s1, s2⟩ := hcl
                    have s1 := (show wz.cell? ⟨g, K, none⟩ = some (.int .i64 ((L.set K n)[K]'(by rw [List.length_set]; exact HKL.out))) from s1)
                    have i2 := fun W => at_int9 g 0 L.length cg K HKL.out W
                    simp only [Nat.zero_add] at i2
                    have hwn : IntKind.i64.wrap (n - 1) = n - 1 := IntWalk.i64_in _ (by have := hnb.1; have := hnb.2; omega)
                    obtain ⟨wm, Vm⟩ : ∃ wm, wz.setCell ⟨g, K, none⟩ (.int .i64 (n - 1)) = wm := ⟨_, rfl⟩
                    have hg5 : w5.heap.size ≤ g := Nat.le_trans HBr.out.size hgb
                    have HBm := Lib.hid (show Below w5.heap.size w5 wm from by rw [← Vm]; exact HQ.out.1.setCell hg5 _)
                    have HSP2 := Lib.hid (show Calls Tryd.prog 8 #[.int .i64 PA, .slice ad1 S.length c1, .slice ad2 X.length c2, .slice (some ⟨g, 0, none⟩) L.length cg] wm (SplPost wm PA S X (L.set K (n - 1))) from by
                      have := split_u PA ad1 c1 S ad2 c2 X (some ⟨g, 0, none⟩) cg (L.set K (n - 1)) (Nat.le_trans HOK.out.sl (by decide)) (Nat.le_trans HOK.out.xl (by decide)) (by rw [List.length_set, HOK.out.ll]; exact Nat.le_trans HOK.out.xl (by decide)) HCA.out.1 HCA.out.2 HOK.out.ew wm (HRD.out _ (below_up8 HB.out HBm.out)) (HDD.out _ (below_up8 HB.out HBm.out)) (HS.out _ (below_up8 HB2.out HBm.out)) (HX.out _ (below_up8 HB3.out HBm.out)) ?_
                      · rw [List.length_set] at this
                        exact this
                      · have ho := (HO4.out.put K (by rw [List.length_set]; exact HKL.out) 0 (by decide) (n - 1) (.int .i64 (n - 1)) rfl).1
                        rw [show KI.n * K + 0 = K by show 1 * K + 0 = K; omega, Vm, List.set_set] at ho
                        obtain ⟨ad9, c9, e9, _, hr9⟩ := ho.rn
                        injection e9 with e1 e2 e3
                        rw [← e1] at hr9
                        exact hr9.rl)
                    have HS2 := Lib.hid (show splB PA S X (L.set K (n - 1)) = true from (HOK.out.ok K (n - 1) HKX.out).2 ⟨by have := HS1.out.1; omega, fun e he => by have := HS1.out.2 e he; omega⟩)
                    clear hnb HO4
                    go_upto_region 28 with fail
                    clear Vm s1 s2 i2 hwn hg5
                    go_wp2_with fail
                    refine (HPA.out _).mono ?_
                    rintro e z ⟨rfl, hz⟩
                    subst z
                    go_wp2_with fail
                    refine HSP2.out.mono ?_
                    rintro e we hsp
                    obtain ⟨pad2, pn2, pc2, er2, rfl, hbe, hpost2⟩ := spl_low9 HKX.out HOK.out.ll hsp
                    obtain rfl : er2 = 0 := by
                      rcases hpost2 with ⟨h, _⟩ | ⟨_, _, h, _⟩
                      · rw [HS2.out] at h; cases h
                      · exact h
                    have HBe := Lib.hid (below_up8 HBm.out hbe)
                    clear hpost2 hsp
                    go_wp2_with fail
                    go_roundw
                    case rel => exact ⟨j + 1, HJ2.out, by go_num, HBe⟩
                    case measure => have := HJ2.out; simp [RowKit.intOf]; omega
                  · go_wp2_with fail
                    go_roundw
                    case rel => exact ⟨j + 1, HJ2.out, by go_num, Lib.hid HQ.out.1⟩
                    case measure => have := HJ2.out; simp [RowKit.intOf]; omega
    · have hji : ¬ (j : Int) < 2 := by omega
      go_wp2_with fail
      go_ret
      exact ⟨rfl, below_up8 HB.out HBr.out⟩
end Go.Proofs.YtnpfhcnjkekhbaaDoor
