/-
  Layer 9: the law BatchStream: a stream that integers determine is cut in two ways; its parts are the stream, and the head does not depend on the cuts.
-/
import Derived.Test.YtnpfhcnjkekhbaaDoorCi
import Derived.Test.YtnpfhcnjkekhbaaDoorK31
import Derived.Defers
import Derived.Recover
import Derived.Sort.CutIn
import Derived.Shelf.Strings.BuilderK
import Derived.Shelf.Strings.Repeat
import Derived.Maps.Own
import Derived.Maps.OwnOps
import Derived.Laws.Rows
import Derived.Laws.OwnMore
import Derived.OwnWalk
import Derived.WalkKit
import Derived.WalkLawsBesides
import Derived.Outline
import Derived.Lib.Hide
import Derived.Below
import Derived.BigQuiet
import Derived.Deep.QuietTactic
import Derived.Deep.RegionHeld3
import Derived.Lib.QuietBelow
import Derived.Deep.DeepCutAuto
import Derived.StillTail
import Derived.Lib.Varint
import Derived.Lib.SlBytesRow
import Derived.Shelf.Abstract
import Derived.OwnWalkIn
import Derived.TacticsInMore
import Derived.LoopNIn
import Derived.LoopIn
import Derived.RangeFuncNested
import Derived.RangeFuncBound
import Derived.RangeFuncCalls
import Derived.RangeFuncLeaves
import Derived.RangeFuncBox
import Derived.Lib.ConvBytes
import Derived.DefersIn
import Derived.Laws.CopyOwn
import Derived.RegionTactic
import Derived.ChangeAlike
import Derived.Deep.RegionWith
import Derived.Deep.CutRange
import Derived.IntWalk
import Derived.Lib.EndianBits
import Derived.Lib.Strings
import Derived.ControlIn
import Derived.WalkMore
import Derived.Lib.SliceRun
import Derived.RangeFuncRecord
import Derived.Shelf.LaysM
import Derived.Shelf.Strconv.Clone
import Derived.RangeFuncFrom
import Derived.TacticsIn
import Derived.OrdersIn
import Derived.Laws.MakeOwn
import Derived.Laws.StructEq
namespace Go.Proofs.YtnpfhcnjkekhbaaDoor
open Go Go.Proofs Go.RowKit Go.Lib
set_option maxRecDepth 100000 in
set_option maxHeartbeats 16000000 in
theorem batchStream_u (ag : Int) (lad : Option Addr) (lc : Nat) (l : List S6) (cad : Option Addr) (cc : Nat) (c : List Int) (sad : Option Addr) (sc : Nat) (shy : List Int) (oad : Option Addr) (oc : Nat) (o : List Int)
    (g0 : -9223372036854775808 ≤ ag) (g1 : ag ≤ 9223372036854775807)
    (hl : l.length ≤ maxLen) (hx : ∀ y ∈ l, y.fit) (hc : c.length ≤ maxLen) (hcb : ∀ i (h : i < c.length), -9223372036854775808 ≤ c[i] ∧ c[i] ≤ 9223372036854775807)
    (hs : shy.length ≤ maxLen) (hsb : ∀ i (h : i < shy.length), -9223372036854775808 ≤ shy[i] ∧ shy[i] ≤ 9223372036854775807)
    (ho : o.length ≤ maxLen) (hob : ∀ i (h : i < o.length), -9223372036854775808 ≤ o[i] ∧ o[i] ≤ 9223372036854775807)
    (w : World) (hR : Rdy w) (hD : Ready w) (hI : RL K6 w lad l) (hJ : RL KI w cad c) (hK : RL KI w sad shy) (hO : RL KI w oad o) :
    Calls Tryd.prog 3 #[.int .i64 ag, .slice lad l.length lc, .slice cad c.length cc, .slice sad shy.length sc, .slice oad o.length oc] w fun e w' => e = .returned (.bool true) ∧ Below w.heap.size w w' := by
  have HOK := str9 ag l c shy o
  have HSN := Lib.hid (sane9_any w hR hD)
  have HST := Lib.hid (fun W (b : Below w.heap.size w W) => streamR9_any ag lad lc l g0 g1 hl hx W (hI.below b))
  have HCT := Lib.hid (fun W (b : Below w.heap.size w W) => cutR9_any (strN l) cad cc c (by omega) (by have := strN_le l; omega) hc hcb W (hJ.below b))
  have HCO := Lib.hid (fun W (b : Below w.heap.size w W) => cutR9_any (strN l) oad oc o (by omega) (by have := strN_le l; omega) ho hob W (hO.below b))
  have HLO := Lib.hid (fun W (b : Below w.heap.size w W) a1 c1 a2 c2 h1 h2 => lowsR9_any a1 c1 (strL ag l) a2 c2 (cutL (strN l) c) sad sc shy (by have := HOK.sl; omega) HOK.tr (by have := HOK.xl; omega) (fun y hy => by have := HOK.xb y hy; omega) hs hsb W h1 h2 (hK.below b))
  have HPA := Lib.hid (fun W => pickL9_any ag 6 g0 g1 (by decide) (by decide) W)
  have HZZ := Lib.hid (fun W => zeroR9_any W)
  have HRD := Lib.hid (fun W (b : Below w.heap.size w W) => hR.below b)
  have HDD := Lib.hid (fun W (b : Below w.heap.size w W) => hD.below b)
  rw [← strL_len ag l] at HOK HCT HLO HCO
  generalize lowL (strL ag l) (cutL ((strL ag l).length : Int) c) shy = L at *
  generalize cutL ((strL ag l).length : Int) c = X at *
  generalize cutL ((strL ag l).length : Int) o = O at *
  generalize strL ag l = S at *
  generalize pick8 ag 6 = PA at *
  clear g0 g1 hl hx hc hcb hs hsb hR hD hI hJ hK hO ho hob
  have HOK := Lib.hid HOK
  have HXL := Lib.hid (show X.length ≤ 13 from HOK.out.xl)
  have HSL := Lib.hid (show S.length ≤ 20 from HOK.out.sl)
  have HOL := Lib.hid (show O.length ≤ 13 from HOK.out.ol)
  obtain ⟨Z0, hZ0⟩ : ∃ Z0, zz32 = Z0 := ⟨_, rfl⟩
  have HZ0 := Lib.hid hZ0
  rw [hZ0] at HZZ
  clear hZ0
  go_enter Tryd.func3, Tryd.ntmps3
  go_wp2_with fail
  refine HSN.out.mono ?_
  rintro e w1 ⟨rfl, hb⟩
  have HB := Lib.hid hb
  clear hb HSN
  go_wp2_with fail
  refine (HST.out _ HB.out).mono ?_
  rintro e w2 ⟨ad1, c1, rfl, hc1, hn1, hr1, hb⟩
  replace HB := Lib.hid (HB.out.trans (hb.mono HB.out.size))
  have HS := Lib.hid (fun W (b : Below w2.heap.size w2 W) => hr1.rl.below b)
  have HCA := Lib.hid (And.intro hc1 hn1)
  clear hb hr1 hc1 hn1 HST
  go_wp2_with fail
  refine (HCT.out _ HB.out).mono ?_
  rintro e w3 ⟨ad2, c2, rfl, hc2, hn2, hr2, hb⟩
  replace HB := Lib.hid (HB.out.trans (hb.mono HB.out.size))
  have HB2 := Lib.hid hb
  have HX := Lib.hid (fun W (b : Below w3.heap.size w3 W) => hr2.rl.below b)
  clear hb hr2 hc2 hn2 HCT
  go_wp2_with fail
  refine (HPA.out _).mono ?_
  rintro e z ⟨rfl, hz⟩
  subst z
  go_wp2_with fail
  refine (HLO.out _ HB.out _ _ _ _ (HS.out _ HB2.out) (HX.out _ (Below.refl _ _))).mono ?_
  rintro e w4 ⟨ad3, c3, rfl, hc3, hn3, hr3, hb⟩
  replace HB := Lib.hid (HB.out.trans (hb.mono HB.out.size))
  replace HB2 := Lib.hid (HB2.out.trans (hb.mono HB2.out.size))
  have HB3 := Lib.hid hb
  have HSP := Lib.hid (split_u PA ad1 c1 S ad2 c2 X ad3 c3 L (Nat.le_trans HSL.out (by decide)) (Nat.le_trans HXL.out (by decide)) (by rw [HOK.out.ll]; exact Nat.le_trans HXL.out (by decide)) HCA.out.1 HCA.out.2 HOK.out.ew w4 (HRD.out _ HB.out) (HDD.out _ HB.out) (HS.out _ HB2.out) (HX.out _ HB3.out) hr3.rl)
  clear hb hr3 hc3 hn3 HLO
  go_wp2_with fail
  refine HSP.out.mono ?_
  rintro e w5 hsp
  obtain ⟨pad, pc, rfl, hb, hpt⟩ := spl_parts9 HOK.out.sp HOK.out.ew (Nat.le_trans HSL.out (by decide)) hsp
  replace HB := Lib.hid (HB.out.trans (hb.mono HB.out.size))
  replace HB2 := Lib.hid (HB2.out.trans (hb.mono HB2.out.size))
  replace HB3 := Lib.hid (HB3.out.trans (hb.mono HB3.out.size))
  have HPT := Lib.hid hpt
  clear hb hsp hpt HSP
  go_wp2_with fail
  refine (HZZ.out _).mono ?_
  rintro e w6 ⟨rfl, hb⟩
  replace HB := Lib.hid (HB.out.trans (hb.mono HB.out.size))
  replace HB2 := Lib.hid (HB2.out.trans (hb.mono HB2.out.size))
  replace HB3 := Lib.hid (HB3.out.trans (hb.mono HB3.out.size))
  have HB5 := Lib.hid hb
  clear hb
  go_wp2_with fail
  obtain ⟨U, hU⟩ : ∃ U : Nat → List Ev, U = upK S X := ⟨_, rfl⟩
  obtain ⟨H, hH⟩ : ∃ H : Nat → ByteArray, H = hdK S X := ⟨_, rfl⟩
  have HU0 := Lib.hid (show U 0 = [] from by rw [hU]; rfl)
  have HH0 := Lib.hid (show Z0 = H 0 from by rw [hH, ← HZ0.out]; rfl)
  have HUX := Lib.hid (show U X.length = S from by rw [hU]; exact HOK.out.x0)
  have HHX := Lib.hid (show H X.length = chH chainF zz32 S from by rw [hH]; exact HOK.out.x1)
  have HUE := Lib.hid hU
  have HHE := Lib.hid hH
  clear hU hH
  go_loopw [16, 17, 18] (fun h v i wr => ∃ k : Nat, i = .int .i64 (k : Int) ∧ k ≤ X.length ∧ h = .string (H k) ∧ ∃ yad yc, v = .slice yad (U k).length yc ∧ Hid (Own KE wr w6.heap.size (.slice yad (U k).length yc) (U k)) ∧ Hid (Below w6.heap.size w6 wr)) (fun _ _ i _ => X.length - (RowKit.intOf i).toNat)
  case atStart => exact ⟨0, rfl, Nat.zero_le _, by rw [← HH0.out], none, 0, by rw [HU0.out]; rfl, Lib.hid (by rw [HU0.out]; exact Own.nil _ _ _), Lib.hid (Below.refl _ _)⟩
  case round =>
    obtain ⟨k, rfl, hk, rfl, yad, yc, rfl, HO, HQ⟩ := hrel
    by_cases hlt : k < X.length
    · have hki : (k : Int) < (X.length : Int) := by omega
      obtain ⟨B, bo, ⟨bag, bfs, bad, bn, bc, blw, bhd⟩, rfl, hB, hp, hcell⟩ := HPT.out k hlt
      have h1 := hp.fs
      have h2 := hp.n
      have h3 := hp.sz
      have h4 := hp.hd
      have HNO := Lib.hid (show bad = none → bc = 0 from hp.no)
      have HRL := Lib.hid (fun W (b : Below w5.heap.size w5 W) => hp.rl W b)
      have HPL := Lib.hid hp.pl
      have HTK := Lib.hid hp.tk
      have HUL := Lib.hid hp.ul
      skip
      have HVD := Lib.hid (fun W (b : Below w5.heap.size w5 W) (hR : Rdy W) => hp.vd W b hR)
      have HFL := Lib.hid (fun W (b : Below w5.heap.size w5 W) (hR : Rdy W) (hD : Ready W) => hp.fl W b hR hD)
      dsimp only at h1 h2 h3 h4 HNO HRL HVD HFL hcell
      rw [← HUE.out] at h1 HTK HUL
      rw [← HHE.out] at h4 HFL
      subst h1 h4 h2
      have HCE := Lib.hid (fun W (b : Below w5.heap.size w5 W) => hcell W b)
      obtain ⟨xb, xo, rfl, _, hxc⟩ := (HX.out _ (below_up8 HB3.out HQ.out)).int k hlt
      rw [h3] at hxc
      have ixq := fun W => at_int9 xb xo X.length c2 k hlt W
      have ixb := fun W => at_bv9 B bo X.length pc k hlt W
      have hwk : IntKind.i64.wrap ((k : Int) + 1) = (k : Int) + 1 := wrapq8 (by have := HXL.out; omega)
      have hc5 := HCE.out wr (below_up8 HB5.out HQ.out)
      obtain ⟨b0, b1, b2, b3, b4⟩ := hc5
      have HLT := Lib.hid hlt
      obtain ⟨Q, hQ⟩ : ∃ Q, Q = evP S X k := ⟨_, rfl⟩
      rw [← hQ] at HRL HPL HTK HVD HFL HCE b2 hxc
      obtain ⟨w7, w8, V7, Z7, ⟨⟨q0, q0'⟩, ⟨q1, q1'⟩, ⟨q2, q2'⟩, ⟨q3, q3'⟩, ⟨q4, q4'⟩⟩, V8, K8, B8, Z8⟩ := btcopy9 wr ⟨bag, ((U k).length : Int), bad, Q.length, bc, blw, H (k + 1)⟩
      dsimp only at V8
      have HXQ := Lib.hid (fun W (b : Below wr.heap.size wr W) => hxc W b)
      have HB8 := Lib.hid B8
      have HK8 := Lib.hid K8
      clear hcell hp h3 hlt hxc hQ K8 B8 hk Z7
      go_upto_region 13 with fail
      clear V7 V8 q0 q0' q1 q1' q2 q2' q3 q3' q4 q4' b0 b1 b2 b3 b4
      have HB58 := Lib.hid (below_up8 HB5.out (below_up8 HQ.out HB8.out))
      have HBw8 := Lib.hid (below_up8 HB.out (below_up8 HQ.out HB8.out))
      have HVD2 := Lib.hid (fun W (b : Below w8.heap.size w8 W) => HVD.out W (below_up8 HB58.out b) (HRD.out _ (below_up8 HBw8.out b)))
      have HFL2 := Lib.hid (fun W (b : Below w8.heap.size w8 W) => HFL.out W (below_up8 HB58.out b) (HRD.out _ (below_up8 HBw8.out b)) (HDD.out _ (below_up8 HBw8.out b)))
      go_cut [91] from 66 to 91 (fun s91 wx => s91 = .bool false ∧ Hid (Below w8.heap.size w8 wx))
      case first =>
        have k0 := fun d os => (show _ = some (Value.int .i64 bag) from (HK8.out.below (below_regrown w8 d os) 0 (by simp)).1)
        have k1 := fun d os => (show _ = some (Value.int .i64 ((U k).length : Int)) from (HK8.out.below (below_regrown w8 d os) 1 (by simp)).1)
        have k2 := fun d os => (show _ = some (Value.slice bad Q.length bc) from (HK8.out.below (below_regrown w8 d os) 2 (by simp)).1)
        have k3 := fun d os => (show _ = some (Value.int .i64 blw) from (HK8.out.below (below_regrown w8 d os) 3 (by simp)).1)
        have k4 := fun d os => (show _ = some (Value.string (H (k + 1))) from (HK8.out.below (below_regrown w8 d os) 4 (by simp)).1)
        have kx := fun d os => HXQ.out _ (below_up8 HB8.out (below_regrown w8 d os))
        refine wp_region_quiet_below (by kernel_rfl) (by kernel_rfl) ?_
        repeat (first | go_big_quiet_step ((first | fail | (go_at_call 12; exact Calls.regrown_of (HVD2.out _ (below_regrown _ _ _))) | (go_at_call 13; exact Calls.regrown_of (HFL2.out _ (below_regrown _ _ _))))) | quiet_step ((first | fail | (go_at_call 12; exact Calls.regrown_of (HVD2.out _ (below_regrown _ _ _))) | (go_at_call 13; exact Calls.regrown_of (HFL2.out _ (below_regrown _ _ _))))))
        refine wpQuiet_nil ?_
        intro _ hw'
        obtain ⟨⟨dq, osq⟩, hw''⟩ := hw'
        subst hw''
        go_wp2_with fail
        go_meet
        exact ⟨by first | rfl | simp, Lib.hid (below_regrown _ _ _)⟩
      case rest =>
        obtain ⟨rfl, HBx⟩ := hcut
        generalize wc = w9 at *
        have HQ9 := Lib.hid (below_up8 HQ.out (below_up8 HB8.out HBx.out))
        have HR9 := Lib.hid (HRL.out w9 (below_up8 HB58.out HBx.out))
        have HO9 := Lib.hid ((HO.out.below HB8.out (Nat.le_refl _)).below HBx.out (Nat.le_refl _))
        have k2 := (show w9.cell? ⟨wr.heap.size, 2, none⟩ = some (Value.slice bad Q.length bc) from (HK8.out.below HBx.out 2 (by simp)).1)
        have k4 := (show w9.cell? ⟨wr.heap.size, 4, none⟩ = some (Value.string (H (k + 1))) from (HK8.out.below HBx.out 4 (by simp)).1)
        have hln : (U k).length + Q.length ≤ 100000000 := by have := HUL.out; have := HPL.out; have := HSL.out; omega
        clear HVD HFL HVD2 HFL2 HCE HXQ HB58 HBw8 ixq ixb
        go_wp2_with (at_builtin; refine walk_any8 KE rfl _ _ rfl w6.heap.size (.slice yad (U k).length yc) (U k) Q rfl HO9.out HQ9.out.size bad bc rfl HR9.out HNO.out hln ?_; intro v2 wb ho2 hb2)
        rw [HTK.out] at ho2
        obtain ⟨yad2, yc2, e2, _⟩ := ho2.form
        subst e2
        have HO2 := Lib.hid ho2
        have HQ2 := Lib.hid (HQ9.out.trans hb2)
        clear ho2 hb2 k2 k4 hln HBx HB8 HK8
        go_roundw
        case rel => exact ⟨k + 1, by go_num, HLT.out, rfl, yad2, yc2, rfl, HO2, HQ2⟩
        case measure => have := HLT.out; simp [RowKit.intOf]; omega
    · have hke : k = X.length := by omega
      subst hke
      have hki : ¬ (X.length : Int) < (X.length : Int) := by omega
      have HHX2 := Lib.hid HHX.out
      rw [HUX.out] at HO
      rw [HUX.out, HHX.out]
      obtain ⟨HF, hHF⟩ : ∃ HF, chH chainF zz32 S = HF := ⟨_, rfl⟩
      rw [hHF]
      have HHF := Lib.hid hHF
      clear hHF hlt hk HH0 HU0 HUE HHE HPT
      go_wp2_with fail
      refine (HCO.out _ (below_up8 HB.out HQ.out)).mono ?_
      rintro e w11 ⟨ad4, c4, rfl, hc4, hn4, hr4, hb⟩
      have HBe := Lib.hid (below_up8 HB.out (below_up8 HQ.out hb))
      have HBe2 := Lib.hid (below_up8 HB2.out (below_up8 HQ.out hb))
      have HQe := Lib.hid (below_up8 HQ.out hb)
      have HRO := Lib.hid (fun W (b : Below w11.heap.size w11 W) => hr4.rl.below b)
      have HOe := Lib.hid (HO.out.below hb (Nat.le_refl _))
      clear hb hr4 hc4 hn4 HCO hki
      go_upto_region 18 with fail
      have HMK := Lib.hid (fun W => make_int9 O.length (Nat.le_trans HOL.out (by decide)) W)
      have HSP2 := Lib.hid (fun W W' (b : Below w11.heap.size w11 W) (e : W.alloc (.cells (KI.vs (List.replicate O.length 0)).toArray 3) = W') => show Calls Tryd.prog 8 #[.int .i64 PA, .slice ad1 S.length c1, .slice ad4 O.length c4, .slice (some ⟨W.heap.size, 0, none⟩) O.length O.length] W' (fun e w' => ∃ pad pc, e = .returned (.tuple #[.slice pad O.length pc, .int .i64 0]) ∧ Below W'.heap.size W' w' ∧ Hid (∀ k (hk : k < O.length), ∃ B o hd, pad = some ⟨B, o, none⟩ ∧ (k + 1 = O.length → hd = chH chainF zz32 S) ∧ ∀ W2, Below w'.heap.size w' W2 → W2.cell? ⟨B, o + 5 * k + 4, none⟩ = some (.string hd))) from by
        have hb1 : Below W.heap.size W W' := e ▸ (Below.refl _ _).alloc (Nat.le_refl _) _
        have hbw := below_up8 b hb1
        have ho := new9 KI W W.heap.size (List.replicate O.length 0) (Nat.le_refl _) (by rw [List.length_replicate]; exact Nat.le_trans HOL.out (by decide)) _ rfl 3 rfl O.length (by rw [List.length_replicate])
        rw [e] at ho
        have h := split_u PA ad1 c1 S ad4 c4 O (some ⟨W.heap.size, 0, none⟩) O.length (List.replicate O.length 0) (Nat.le_trans HSL.out (by decide)) (Nat.le_trans HOL.out (by decide)) (by rw [List.length_replicate]; exact Nat.le_trans HOL.out (by decide)) HCA.out.1 HCA.out.2 HOK.out.ew W' (HRD.out _ (below_up8 HBe.out hbw)) (HDD.out _ (below_up8 HBe.out hbw)) (HS.out _ (below_up8 HBe2.out hbw)) (HRO.out _ hbw) (rl_own8 ho)
        rw [List.length_replicate] at h
        refine h.mono ?_
        intro e2 w2 hsp
        obtain ⟨pad2, pc2, he, hb2, hpt⟩ := spl_parts9 HOK.out.so HOK.out.ew (Nat.le_trans HSL.out (by decide)) hsp
        refine ⟨pad2, pc2, he, hb2, Lib.hid fun k hk => ?_⟩
        obtain ⟨B, o, bv, h1, _, hp, hc⟩ := hpt k hk
        refine ⟨B, o, bv.hd, h1, fun hlast => ?_, fun W2 hW2 => (hc W2 hW2).2.2.2.2⟩
        rw [hp.hd]
        exact HOK.out.o0 k hlast)
      go_cut [21, 22] from 102 to 112 (fun s21 s22 wx => ∃ pad pc, s21 = .slice pad O.length pc ∧ s22 = .int .i64 0 ∧ Hid (Below w11.heap.size w11 wx) ∧ Hid (∀ k (hk : k < O.length), ∃ B o hd, pad = some ⟨B, o, none⟩ ∧ (k + 1 = O.length → hd = chH chainF zz32 S) ∧ ∀ W2, Below wx.heap.size wx W2 → W2.cell? ⟨B, o + 5 * k + 4, none⟩ = some (.string hd)))
      case first =>
        skip
        refine wp_region_noPanic ?_
        refine wp_region_Kx (C := NewB w11) [12] 12 #[false, false, false, false, false, false, false, false, false, false, false, false, false] (by kernel_rfl) (by kernel_rfl) (by kernel_rfl) (newB0 _) ?_
        intro wx hwx
        refine wpAnyK_ex (i := 0) rfl (by kernel_rfl) (listed' := #[true, false, false, false, false, false, false, false, false, false, false, false, false]) rfl (fun _ _ _ _ _ h => h) hwx ?_
        apply Exists.intro
        refine ⟨⟨by kernel_rfl, fun wy hw => ?_⟩, ?_⟩
        · (have bw := hw.below; go_simp; try (first | (with_reducible rfl) | (with_reducible exact ⟨rfl, rfl⟩)))
        try simp only [Act.put, List.getElem_toArray, List.getElem_cons_zero, List.setIfInBounds_toArray, List.set_cons_succ, List.set_cons_zero]
        refine wpAnyK_callx (i := 1) rfl (by kernel_rfl) (listed' := #[true, true, false, false, false, false, false, false, false, false, false, false, false]) rfl (fun _ _ _ _ _ h => h) hwx ?_
        apply Exists.intro
        apply Exists.intro
        apply Exists.intro
        refine ⟨⟨by kernel_rfl, fun wy hw => ?_, fun wy hw => ?_⟩, ?_⟩
        · (have bw := hw.below; go_simp; try (first | (with_reducible rfl) | (with_reducible exact ⟨rfl, rfl⟩)))
        · (exact (HPA.out wy).mono fun e z h => ⟨h.1, h.2.symm⟩)
        try simp only [Act.put, List.getElem_toArray, List.getElem_cons_succ, List.getElem_cons_zero, List.setIfInBounds_toArray, List.set_cons_succ, List.set_cons_zero]
        refine wpAnyK_ex (i := 2) rfl (by kernel_rfl) (listed' := #[true, true, true, false, false, false, false, false, false, false, false, false, false]) rfl (fun _ _ _ _ _ h => h) hwx ?_
        apply Exists.intro
        refine ⟨⟨by kernel_rfl, fun wy hw => ?_⟩, ?_⟩
        · (have bw := hw.below; go_simp; try (first | (with_reducible rfl) | (with_reducible exact ⟨rfl, rfl⟩)))
        try simp only [Act.put, List.getElem_toArray, List.getElem_cons_succ, List.getElem_cons_zero, List.setIfInBounds_toArray, List.set_cons_succ, List.set_cons_zero]
        refine wpAnyK_ex (i := 3) rfl (by kernel_rfl) (listed' := #[true, true, true, true, false, false, false, false, false, false, false, false, false]) rfl (fun _ _ _ _ _ h => h) hwx ?_
        apply Exists.intro
        refine ⟨⟨by kernel_rfl, fun wy hw => ?_⟩, ?_⟩
        · (have bw := hw.below; go_simp; try (first | (with_reducible rfl) | (with_reducible exact ⟨rfl, rfl⟩)))
        try simp only [Act.put, List.getElem_toArray, List.getElem_cons_succ, List.getElem_cons_zero, List.setIfInBounds_toArray, List.set_cons_succ, List.set_cons_zero]
        refine wpAnyK_ex (i := 4) rfl (by kernel_rfl) (listed' := #[true, true, true, true, true, false, false, false, false, false, false, false, false]) rfl (fun _ _ _ _ _ h => h) hwx ?_
        apply Exists.intro
        refine ⟨⟨by kernel_rfl, fun wy hw => ?_⟩, ?_⟩
        · (have bw := hw.below; go_simp; try (first | (with_reducible rfl) | (with_reducible exact ⟨rfl, rfl⟩)))
        try simp only [Act.put, List.getElem_toArray, List.getElem_cons_succ, List.getElem_cons_zero, List.setIfInBounds_toArray, List.set_cons_succ, List.set_cons_zero]
        refine wpAnyK_ex (i := 5) rfl (by kernel_rfl) (listed' := #[true, true, true, true, true, true, false, false, false, false, false, false, false]) rfl (fun _ _ _ _ _ h => h) hwx ?_
        apply Exists.intro
        refine ⟨⟨by kernel_rfl, fun wy hw => ?_⟩, ?_⟩
        · (have bw := hw.below; go_simp; try (first | (with_reducible rfl) | (with_reducible exact ⟨rfl, rfl⟩)))
        try simp only [Act.put, List.getElem_toArray, List.getElem_cons_succ, List.getElem_cons_zero, List.setIfInBounds_toArray, List.set_cons_succ, List.set_cons_zero]
        obtain ⟨wM, VM⟩ : ∃ wM, wx.alloc (.cells (KI.vs (List.replicate O.length 0)).toArray 3) = wM := ⟨_, rfl⟩
        have HMX := HMK.out wx
        rw [VM] at HMX
        have HSX := Lib.hid (HSP2.out wx wM hwx.below VM)
        have HWM := Lib.hid (show Below w11.heap.size w11 wM from below_up8 hwx.below (VM ▸ (Below.refl _ _).alloc (Nat.le_refl _) _))
        clear VM
        refine wpAnyK_fork1 6 (by kernel_rfl) ?_
        refine wpOpK_step rfl (by kernel_rfl) (listed' := #[true, true, true, true, true, true, true, false, false, false, false, false, false]) rfl (by kernel_rfl) (fun K hK => ?_)
        go_simp
        refine hK _ _ (HWM.out) ?_
        clear hK K
        try simp only [Act.put, List.getElem_toArray, List.getElem_cons_succ, List.getElem_cons_zero, List.setIfInBounds_toArray, List.set_cons_succ, List.set_cons_zero]
        refine wpAnyK_fork1 7 (by kernel_rfl) ?_
        refine wpOpK_step rfl (by kernel_rfl) (listed' := #[true, true, true, true, true, true, true, true, false, false, false, false, false]) rfl (by kernel_rfl) (fun K hK => ?_)
        go_simp
        refine HSX.out.mono ?_
        rintro e w12 ⟨pad2, pc2, rfl, hb12, HP2⟩
        have H12 := Lib.hid (below_up8 HWM.out hb12)
        refine hK _ _ H12.out ?_
        clear hK K hb12
        try simp only [Act.put, List.getElem_toArray, List.getElem_cons_succ, List.getElem_cons_zero, List.setIfInBounds_toArray, List.set_cons_succ, List.set_cons_zero]
        refine wpAnyK_ex (i := 8) rfl (by kernel_rfl) (listed' := #[true, true, true, true, true, true, true, true, true, false, false, false, false]) rfl (fun _ _ _ _ _ h => h) H12.out ?_
        apply Exists.intro
        refine ⟨⟨by kernel_rfl, fun wy hw => ?_⟩, ?_⟩
        · (have bw := hw.below; go_simp; try (first | (with_reducible rfl) | (with_reducible exact ⟨rfl, rfl⟩)))
        try simp only [Act.put, List.getElem_toArray, List.getElem_cons_succ, List.getElem_cons_zero, List.setIfInBounds_toArray, List.set_cons_succ, List.set_cons_zero]
        refine wpAnyK_ex (i := 9) rfl (by kernel_rfl) (listed' := #[true, true, true, true, true, true, true, true, true, true, false, false, false]) rfl (fun _ _ _ _ _ h => h) H12.out ?_
        apply Exists.intro
        refine ⟨⟨by kernel_rfl, fun wy hw => ?_⟩, ?_⟩
        · (have bw := hw.below; go_simp; try (first | (with_reducible rfl) | (with_reducible exact ⟨rfl, rfl⟩)))
        try simp only [Act.put, List.getElem_toArray, List.getElem_cons_succ, List.getElem_cons_zero, List.setIfInBounds_toArray, List.set_cons_succ, List.set_cons_zero]
        refine wpAnyK_ex (i := 10) rfl (by kernel_rfl) (listed' := #[true, true, true, true, true, true, true, true, true, true, true, false, false]) rfl (fun _ _ _ _ _ h => h) H12.out ?_
        apply Exists.intro
        refine ⟨⟨by kernel_rfl, fun wy hw => ?_⟩, ?_⟩
        · (have bw := hw.below; go_simp; try (first | (with_reducible rfl) | (with_reducible exact ⟨rfl, rfl⟩)))
        try simp only [Act.put, List.getElem_toArray, List.getElem_cons_succ, List.getElem_cons_zero, List.setIfInBounds_toArray, List.set_cons_succ, List.set_cons_zero]
        refine wpAnyK_ex (i := 11) rfl (by kernel_rfl) (listed' := #[true, true, true, true, true, true, true, true, true, true, true, true, false]) rfl (fun _ _ _ _ _ h => h) H12.out ?_
        apply Exists.intro
        refine ⟨⟨by kernel_rfl, fun wy hw => ?_⟩, ?_⟩
        · (have bw := hw.below; go_simp; try (first | (with_reducible rfl) | (with_reducible exact ⟨rfl, rfl⟩)))
        try simp only [Act.put, List.getElem_toArray, List.getElem_cons_succ, List.getElem_cons_zero, List.setIfInBounds_toArray, List.set_cons_succ, List.set_cons_zero]
        refine wpAnyK_end (by kernel_rfl) ?_
        try simp only [pickOps, List.filterMap_cons, List.filterMap_nil, List.getElem?_toArray, List.getElem?_cons_succ, List.getElem?_cons_zero]
        go_wp2_with fail
        refine NoPanic.normal ?_
        go_wp2_with fail
        go_meet
        exact ⟨pad2, pc2, rfl, rfl, H12, HP2⟩
      case rest =>
        obtain ⟨pad2, pc2, rfl, rfl, HBx, HP2⟩ := hcut
        generalize wc = w13 at *
        have HOx := Lib.hid (HOe.out.below HBx.out (Nat.le_refl _))
        have HSE := Lib.hid (show Calls Tryd.prog 14 #[.slice yad S.length yc, .slice ad1 S.length c1] w13 (fun e w' => e = .returned (.bool true) ∧ Below w13.heap.size w13 w') from by
          have := sameEvR9_any yad ad1 yc c1 S S (Nat.le_trans HSL.out (by decide)) w13 (rl_own8 HOx.out) (HS.out _ (below_up8 HBe2.out HBx.out))
          rw [decide_eq_true rfl] at this
          exact this)
        have HBy := Lib.hid (below_up8 HBe.out HBx.out)
        have HBy2 := Lib.hid (below_up8 HBe2.out HBx.out)
        clear HSP2 HMK HRO HBe HBe2 HOe HOx HO
        go_wp2_with fail
        refine HSE.out.mono ?_
        rintro e w14 ⟨rfl, hb⟩
        have H14 := Lib.hid hb
        clear hb HSE
        go_wp2_with fail
        refine (HZZ.out _).mono ?_
        rintro e w15 ⟨rfl, hb⟩
        have H15 := Lib.hid (below_up8 H14.out hb)
        clear hb H14
        have HCH := Lib.hid (fun W (b : Below w15.heap.size w15 W) => show Calls Tryd.prog 15 #[.string Z0, .slice ad1 S.length c1] W (fun e w' => e = .returned (.tuple #[.string HF, .int .i64 0]) ∧ Below W.heap.size W w') from by
          have h := chainB_u zz32 ad1 c1 S (Nat.le_trans HSL.out (by decide)) HOK.out.ew W (HRD.out _ (below_up8 HBy.out (below_up8 H15.out b))) (HDD.out _ (below_up8 HBy.out (below_up8 H15.out b))) (HS.out _ (below_up8 HBy2.out (below_up8 H15.out b)))
          rw [HOK.out.chain.1, HOK.out.chain.2, HHF.out, HZ0.out] at h
          exact h)
        have HEND := Lib.hid (below_up8 HBy.out H15.out)
        by_cases ho0 : O.length = 0
        · have HFZ := Lib.hid (show Z0 = HF from by rw [← HHF.out, ← HZ0.out, HOK.out.nil ho0]; rfl)
          have e0 : ¬ (0 : Int) < (O.length : Int) := by omega
          rw [HFZ.out] at HCH HZZ ⊢
          clear ho0
          go_wp2_with fail
          refine (HZZ.out _).mono ?_
          rintro e w16 ⟨rfl, hb⟩
          have H16 := Lib.hid hb
          clear hb
          go_wp2_with fail
          refine (HCH.out _ H16.out).mono ?_
          rintro e w17 ⟨rfl, hb⟩
          have H17 := Lib.hid (below_up8 H16.out hb)
          clear hb
          go_wp2_with fail
          go_ret
          exact ⟨rfl, below_up8 HEND.out H17.out⟩
        · obtain ⟨j, hj⟩ : ∃ j : Nat, j + 1 = O.length := ⟨O.length - 1, by omega⟩
          have hjl : j < O.length := by omega
          obtain ⟨B, bo, hd, rfl, hlast, hcl⟩ := HP2.out j hjl
          have hlast := hlast hj
          rw [HHF.out] at hlast
          subst hlast
          have e0 : (0 : Int) < (O.length : Int) := by omega
          have ew : IntKind.i64.wrap ((O.length : Int) - 1) = (j : Int) := by
            have : (O.length : Int) - 1 = (j : Int) := by omega
            rw [this]
            exact wrapq8 (by have := HOL.out; omega)
          have ixb := fun W => at_bv9 B bo O.length pc2 j hjl W
          have c4 := hcl w15 H15.out
          clear ho0 hj hjl hcl
          go_wp2_with fail
          refine (HZZ.out _).mono ?_
          rintro e w16 ⟨rfl, hb⟩
          have H16 := Lib.hid hb
          clear hb c4
          go_wp2_with fail
          refine (HCH.out _ H16.out).mono ?_
          rintro e w17 ⟨rfl, hb⟩
          have H17 := Lib.hid (below_up8 H16.out hb)
          clear hb
          go_wp2_with fail
          go_ret
          exact ⟨rfl, below_up8 HEND.out H17.out⟩
end Go.Proofs.YtnpfhcnjkekhbaaDoor
