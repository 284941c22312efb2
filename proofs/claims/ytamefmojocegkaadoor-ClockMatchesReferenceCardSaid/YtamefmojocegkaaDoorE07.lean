/-
  Layer 8: the reference's Constraints.
-/
import Derived.Test.YtamefmojocegkaaDoorE06
import Derived.Test.YtamefmojocegkaaDoorM00
import Derived.Deep.RegionHeld3
import Derived.Lib.QuietBelow
import Derived.Deep.DeepCutAuto
import Derived.WalkKit
import Derived.WalkLawsBesides
import Derived.Outline
import Derived.Lib.Hide
import Derived.Below
import Derived.BigQuiet
import Derived.Deep.QuietTactic
import Derived.Laws.Rows
import Derived.Laws.OwnMore
import Derived.OwnWalk
namespace Go.Proofs.YtamefmojocegkaaDoor
open Go Go.Proofs Go.RowKit Go.Lib

theorem con_push8 {X Y : World} {y y' : Value} {A : Nat} {a b : Ev} (o : Obj) (KA : CellsAt X A a.cells) (KB : CellsAt X (A + 1) b.cells) (N : y.ownBlock ≠ some A ∧ y.ownBlock ≠ some (A + 1)) (S : A + 1 < X.heap.size)
    (hg : (X.alloc o).grownBy Y y.ownBlock) (hbk : y'.ownBlock = y.ownBlock ∨ y'.ownBlock = some (X.alloc o).heap.size) : CellsAt Y A a.cells ∧ CellsAt Y (A + 1) b.cells ∧ (y'.ownBlock ≠ some A ∧ y'.ownBlock ≠ some (A + 1)) ∧ A + 1 < Y.heap.size := by
  have hz : (X.alloc o).heap.size = X.heap.size + 1 := by simp
  have up : ∀ B x, CellsAt X B (Ev.cells x) → CellsAt (X.alloc o) B (Ev.cells x) := fun B x h => CellsAt.below h ((Below.refl _ _).alloc (Nat.le_refl _) o)
  refine ⟨CellsAt.grown (up A a KA) hg (fun e => N.1 e.symm), CellsAt.grown (up (A + 1) b KB) hg (fun e => N.2 e.symm), ?_, by have := hg.size; omega⟩
  rcases hbk with h | h
  · rw [h]; exact N
  · rw [h, hz]
    constructor
    · intro e; injection e with e; omega
    · intro e; injection e with e; omega
end Go.Proofs.YtamefmojocegkaaDoor

namespace Go.Proofs.YtamefmojocegkaaDoor
open Go Go.Proofs Go.RowKit Go.Lib

set_option maxRecDepth 100000 in
set_option maxHeartbeats 16000000 in
theorem constraintsR_any (v : Value) (f : Fl) (ad : Option Addr) (c : Nat) (l : List Ev) (hfit : f.fit) (hl : l.length ≤ maxLen) (w : World) (hf : FlAt w v f) (hI : RL KE w ad l) :
    Calls Tryd.prog 17 #[v, .slice ad l.length c] w (ConPost w (conL f l) (conE f l)) := by
  have HFA := Lib.hid (fun W (b : Below w.heap.size w W) => hf.below b)
  have HIA := Lib.hid (fun W (b : Below w.heap.size w W) => hI.below b)
  obtain ⟨x1, c1, x2, c3, x3, c4, rfl, hdr, _, _⟩ := hf
  have CV := Lib.hid (fun W h h2 => eventsR_any (.agg #[.slice x1 f.dr.length c1, .int .i64 f.lat, .int .i64 f.lia, .slice x2 f.sv.length c3, .slice x3 f.tm.length c4]) f ad c l hfit hl W h h2)
  have CF := Lib.hid (fun W h a b ha => followsR_any (.agg #[.slice x1 f.dr.length c1, .int .i64 f.lat, .int .i64 f.lia, .slice x2 f.sv.length c3, .slice x3 f.tm.length c4]) f a b ha W h)
  have HDR := Lib.hid hdr
  unfold maxLen at hl
  obtain ⟨RL_, hRL⟩ : ∃ RL_, conL f l = RL_ := ⟨_, rfl⟩
  obtain ⟨RE, hRE⟩ : ∃ RE, conE f l = RE := ⟨_, rfl⟩
  rw [hRL, hRE]
  have HNO := Lib.hid (fun h : evsB f l = false => show RL_ = [] ∧ RE = 80 by rw [← hRL, ← hRE]; unfold conL conE; simp [h])
  have HYES := Lib.hid (fun h : evsB f l = true => show RL_ = conN f l l.length ∧ RE = 0 by rw [← hRL, ← hRE]; unfold conL conE; simp [h])
  have HC := Lib.hid (fun h => hI.evs h)
  clear hRL hRE hI hfit hdr
  obtain ⟨wb, hwb, hwz, hwc, hwB⟩ := lay8 w [.slice x1 f.dr.length c1, .int .i64 f.lat, .int .i64 f.lia, .slice x2 f.sv.length c3, .slice x3 f.tm.length c4] 24
  have HWB := Lib.hid hwb
  have HWZ := Lib.hid hwz
  have HWC := Lib.hid hwc
  have HWW := Lib.hid hwB
  clear hwb hwz hwc hwB
  go_enter Tryd.func17, Tryd.ntmps17
  go_wp2_with fail
  rw [HWB.out]
  refine (CV.out _ (HFA.out _ HWW.out) (HIA.out _ HWW.out)).mono ?_
  rintro e w1 ⟨rfl, hb⟩
  have HB1 := Lib.hid (show Below (w.heap.size + 1) wb w1 by rw [← HWZ.out]; exact hb)
  clear hb
  cases hv : evsB f l with
  | false =>
    have HF := Lib.hid (HNO.out hv)
    clear hv
    go_wp2_with fail
    go_ret2
    exact ⟨none, 0, by rw [HF.out.1, HF.out.2]; rfl, by rw [HF.out.1]; exact Nat.le_refl _, .inl HF.out.1, HWW.out.trans (HB1.out.mono (by omega))⟩
  | true =>
    have HV := Lib.hid (HYES.out hv)
    have HFV := Lib.hid (of_evsB hv)
    clear hv
    go_wp2_with fail
    go_loopw [6, 7] (fun u i wr => ∃ k : Nat, k ≤ l.length ∧ i = .int .i64 k ∧ Hid (Own KC wr (w.heap.size + 1) u (conN f l k)) ∧ Hid (Below (w.heap.size + 1) wb wr)) (fun _ i _ => l.length - (RowKit.intOf i).toNat)
    case atStart => exact ⟨0, Nat.zero_le _, rfl, Lib.hid (Own.nil _ _ _), HB1⟩
    case round =>
      clear HB1
      obtain ⟨k, hk, rfl, HO, HB⟩ := hrel
      generalize wr = w2 at *
      by_cases hlt : k < l.length
      · have hki : (k : Int) < (l.length : Int) := by omega
        have HO := Lib.hid (show Own KC w2 (w.heap.size + 1) u6 (conN f l k ++ conR f l k 0) from by simpa [conR] using HO.out)
        go_wp2_with fail
        go_loopw [6, 8] (fun u j wr => ∃ q : Nat, q ≤ l.length ∧ j = .int .i64 q ∧ Hid (Own KC wr (w.heap.size + 1) u (conN f l k ++ conR f l k q)) ∧ Hid (Below (w.heap.size + 1) wb wr)) (fun _ j _ => l.length - (RowKit.intOf j).toNat)
        case atStart => exact ⟨0, Nat.zero_le _, rfl, HO, HB⟩
        case round =>
          clear HO HB
          obtain ⟨q, hq, rfl, HO, HB⟩ := hrel
          generalize wr = w3 at *
          by_cases hqt : q < l.length
          · have hqi : (q : Int) < (l.length : Int) := by omega
            obtain ⟨eb, eo, rfl, heb, hcc⟩ := HC.out (by omega)
            have hww : ∀ W, Below (w.heap.size + 1) wb W → Below w.heap.size w W := fun W b => HWW.out.trans (b.mono (Nat.le_succ _))
            have hik := fun W => at_ev8 eb eo l.length c k hlt W
            have hiq := fun W => at_ev8 eb eo l.length c q hqt W
            have hcE := hcc k hlt
            have hcE2 := hcc q hqt
            have HLT := Lib.hid hlt; have HQT := Lib.hid hqt
            have HST := Lib.hid (show conN f l k ++ conR f l k (q + 1) = (conN f l k ++ conR f l k q) ++ conP f l k q by rw [conR_step, List.append_assoc])
            have HPP := Lib.hid (show conP f l k q = if k = q then [] else (if (evD l k).ag = (evD l q).ag ∧ k < q then
                [⟨q, k, -(low8 (f.drOf (evD l k).ag) ((evD l q).tm - (evD l k).tm)), mask8 (evD l k) (evD l q)⟩, ⟨k, q, ((evD l q).tm - (evD l k).tm + 1) * (1000000 + f.drOf (evD l k).ag) - 1, mask8 (evD l k) (evD l q)⟩]
              else []) ++ (if folB (evD l k) (evD l q) = true then [⟨q, k, -(folN f.lat (evD l k) (evD l q)), mask8 (evD l k) (evD l q)⟩] else []) from rfl)
            have HLE := Lib.hid (show (conN f l k ++ conR f l k q).length ≤ 10000 by
              have h1 := conN_le f l k
              have h2 := conR_le f l k q
              have h3 := HFV.out.2.1
              have h4 : 3 * l.length * k ≤ 3 * 24 * 24 := Nat.mul_le_mul (Nat.mul_le_mul_left _ h3) (by omega)
              rw [List.length_append]
              omega)
            obtain ⟨ea1, ea2, ea3⟩ := HFV.out.2.2 k hlt
            obtain ⟨eb1, eb2, eb3⟩ := HFV.out.2.2 q hqt
            clear ea3 eb3
            generalize conP f l k q = PP at *
            generalize conN f l k ++ conR f l k q = LL at *
            generalize evD l k = a at *
            generalize evD l q = b at *
            have KA := Lib.hid a.val_mk
            have KB := Lib.hid b.val_mk
            obtain ⟨⟨ag0, ag5⟩, _, ⟨at0, at1⟩, _, _, _, an0, an1⟩ := evB_of ea1
            obtain ⟨⟨bg0, bg5⟩, _, ⟨bt0, bt1⟩, _⟩ := evB_of eb1
            obtain ⟨dd0, dd1⟩ := drOf_bd HFV.out.1 ag0 ea2
            by_cases hkq : k = q
            · have e0 : ((k : Int) == (q : Int)) = true := by rw [hkq]; simp
              have HO2 := Lib.hid (show LL ++ PP = LL by rw [HPP.out, if_pos hkq, List.append_nil])
              clear hkq
              go_wp2_with fail
              go_roundw
              case rel => exact ⟨q + 1, HQT.out, by go_num, Lib.hid (by rw [HST.out, HO2.out]; exact HO.out), HB⟩
              case measure => have h9 := HQT.out; simp [RowKit.intOf]; omega
            · have e0 : ((k : Int) == (q : Int)) = false := by rw [beq_eq_false_iff_ne]; omega
              have HKQ := Lib.hid hkq
              obtain ⟨w4, V4, Z4, K4, B4⟩ := lay8 w3 [.int .i64 a.ag, .int .i64 a.sq, .int .i64 a.tm, .int .i64 a.kd, .int .i64 a.tr, .int .i64 a.sp, .int .i64 a.lk, .int .i64 a.gn, .int .i64 a.op, .int .i64 a.vr, .int .i64 a.pe, .int .i64 a.bt] 46
              obtain ⟨w5, V5, Z5, K5, B5⟩ := lay8 w4 [.int .i64 b.ag, .int .i64 b.sq, .int .i64 b.tm, .int .i64 b.kd, .int .i64 b.tr, .int .i64 b.sp, .int .i64 b.lk, .int .i64 b.gn, .int .i64 b.op, .int .i64 b.vr, .int .i64 b.pe, .int .i64 b.bt] 46
              have K4 := Lib.hid (show CellsAt w4 w3.heap.size a.cells from K4)
              have K5 := Lib.hid (show CellsAt w5 w4.heap.size b.cells from K5)
              have B4 := Lib.hid B4; have B5 := Lib.hid B5
              have H4 := Lib.hid (show Below (w.heap.size + 1) wb w4 from HB.out.trans (B4.out.mono (by have := HB.out.size; have := HWZ.out; omega)))
              obtain ⟨a0, a1, a2, a3, a4, a5, a6, a7, a8, a9, a10, a11⟩ := hcE w3 (hww w3 HB.out)
              go_upto_region 12 with fail
              clear a0 a1 a2 a3 a4 a5 a6 a7 a8 a9 a10 a11
              obtain ⟨b0, b1, b2, b3, b4, b5, b6, b7, b8, b9, b10, b11⟩ := hcE2 w4 (hww w4 H4.out)
              go_upto_region 13 with fail
              clear V4 V5
              clear b0 b1 b2 b3 b4 b5 b6 b7 b8 b9 b10 b11
              have H5 := Lib.hid (show Below (w.heap.size + 1) wb w5 from H4.out.trans (B5.out.mono (by have := H4.out.size; have := HWZ.out; omega)))
              obtain ⟨a0, a1, a2, a3, a4, a5, a6, a7, a8, a9, a10, a11⟩ := (K4.out.below B5.out).ev
              obtain ⟨b0, b1, b2, b3, b4, b5, b6, b7, b8, b9, b10, b11⟩ := K5.out.ev
              have HOX := Lib.hid (show Own KC w5 (w.heap.size + 1) u6 LL from ((HO.out.below B4.out (Nat.le_refl _)).below B5.out (Nat.le_refl _)))
              have KAX := Lib.hid (K4.out.below B5.out)
              have KBX := Lib.hid (show CellsAt w5 (w3.heap.size + 1) b.cells by have := K5.out; rw [Z4] at this; exact this)
              have NX := Lib.hid (show u6.ownBlock ≠ some w3.heap.size ∧ u6.ownBlock ≠ some (w3.heap.size + 1) from ⟨fun e => by have := (HO.out.ge _ e).2; omega, fun e => by have := (HO.out.ge _ e).2; omega⟩)
              clear b0 b1 b2 b3 b4 b5 b6 b7 b8 b9 b10 b11
              obtain ⟨b0, b1, b2, b3, b4, b5, b6, b7, b8, b9, b10, b11⟩ := KBX.out.ev
              have SX : w3.heap.size + 1 < w5.heap.size := by rw [Z5, Z4]; omega
              have HZ := Lib.hid (show w.heap.size + 1 ≤ w3.heap.size by have := HB.out.size; have := HWZ.out; omega)
              clear Z4 Z5
              obtain ⟨na, hna⟩ := Int.eq_ofNat_of_zero_le ag0
              obtain ⟨nb, hnb⟩ := Int.eq_ofNat_of_zero_le bg0
              obtain ⟨MA, hMA⟩ : ∃ MA, (2 : Int) ^ a.ag.toNat = MA := ⟨_, rfl⟩
              obtain ⟨MB, hMB⟩ : ∃ MB, (2 : Int) ^ b.ag.toNat = MB := ⟨_, rfl⟩
              have hma : 1 ≤ MA ∧ MA ≤ 32 := by rw [← hMA]; exact pow8 _ (by omega)
              have hmb : 1 ≤ MB ∧ MB ≤ 32 := by rw [← hMB]; exact pow8 _ (by omega)
              obtain ⟨ma0, ma1⟩ := hma
              obtain ⟨mb0, mb1⟩ := hmb
              have HM := Lib.hid (show mask8 a b = if a.ag = b.ag then MA else MA + MB by unfold mask8; rw [hMA, hMB])
              generalize mask8 a b = MM at *
              have hnl : na < f.dr.length := by omega
              obtain ⟨gb, go_, rfl, hgb, hgc⟩ := HDR.out.int na hnl
              have hda : ∀ W, (Instr.indexAt 22 (.slice (some ⟨gb, go_, none⟩) f.dr.length c1) (.int .i64 a.ag)).run Tryd.prog W = .ok (.pointer (some ⟨gb, go_ + na, none⟩)) W := fun W => by rw [hna]; exact at_int8 gb go_ f.dr.length c1 na hnl W
              have hdo : f.drOf a.ag = f.dr[na] := by unfold Fl.drOf; rw [hna, Int.toNat_natCast, List.getD_eq_getElem?_getD, List.getElem?_eq_getElem hnl]; rfl
              rw [← hdo] at hgc
              generalize f.drOf a.ag = D at *
              have HGC := Lib.hid (fun W b => hgc W (hww W b))
              have HFB := Lib.hid (fun (W : World) (b : Below (w.heap.size + 1) wb W) => (HWC.out.up b (Nat.lt_succ_self _)).fl)
              obtain ⟨p1, p2⟩ := mul_bd (x := b.tm - a.tm - 1) (y := 1000000 - D) (X := 1000001) (Y := 1000000) (by omega) (by omega) (by omega) (by omega) (by decide)
              obtain ⟨q1, q2⟩ := mul_bd (x := b.tm - a.tm + 1) (y := 1000000 + D) (X := 1000001) (Y := 1001000) (by omega) (by omega) (by omega) (by omega) (by decide)
              have CF2 := Lib.hid (fun W h => CF.out W h a b ⟨by omega, by omega⟩)
              rw [KA.out, KB.out] at CF2
              have fnb := folN_bd (flB_of HFV.out.1).2.2.1.1 (flB_of HFV.out.1).2.2.1.2 a b
              obtain ⟨fn0, fn1⟩ := fnb
              have HNA := Lib.hid hna
              clear hna hnb hgc hdo hnl hgb heb
              by_cases hsa : a.ag = b.ag
              · have HMM := Lib.hid (show MM = MA by rw [HM.out, if_pos hsa])
                have HSA := Lib.hid hsa
                have g3 : (a.ag != b.ag) = false := by rw [hsa]; simp
                have g4 : (a.ag == b.ag) = true := by rw [beq_iff_eq]; exact hsa
                clear hsa
                by_cases hsm : a.ag = b.ag ∧ k < q
                · skip
                  have HPQ0 := Lib.hid (show PP = [⟨q, k, -(low8 D (b.tm - a.tm)), MM⟩, ⟨k, q, (b.tm - a.tm + 1) * (1000000 + D) - 1, MM⟩] ++ (if folB a b = true then [⟨q, k, -(folN f.lat a b), MM⟩] else []) by rw [HPP.out, if_neg HKQ.out, if_pos hsm])
                  have g1 : decide ((k : Int) < (q : Int)) = true := decide_eq_true (by omega)
                  have g2 : decide (k < q) = true := decide_eq_true hsm.2
                  clear hsm
                  obtain ⟨f0, f1, f2, f3, f4⟩ := HFB.out w5 H5.out
                  have d0 := HGC.out w5 H5.out
                  by_cases hd : 1 ≤ b.tm - a.tm
                  · have e2 : decide (1 ≤ b.tm - a.tm) = true := decide_eq_true hd
                    have HLO := Lib.hid (show -(low8 D (b.tm - a.tm)) = -((b.tm - a.tm - 1) * (1000000 - D) + 1) by unfold low8; rw [if_pos hd])
                    have HLEN : LL.length + 1 ≤ 100000000 := by have := HLE.out; omega
                    have HLEN2 : (LL ++ [((⟨q, k, -((b.tm - a.tm - 1) * (1000000 - D) + 1), MM⟩ : C4) : C4)]).length + 1 ≤ 100000000 := by have := HLE.out; simp; omega
                    have hz5 : w.heap.size + 1 ≤ w5.heap.size := by have := H5.out.size; have := HWZ.out; omega
                    go_upto_region 22 with (first | (at_builtin; refine walk_push8 KC (w0 := wb) rfl _ _ rfl (w.heap.size + 1) _ LL (⟨q, k, -((b.tm - a.tm - 1) * (1000000 - D) + 1), MM⟩ : C4) rfl (HOX.out.alloc _) (H5.out.alloc hz5 _) (by simp; omega) w5.heap.size 1 rfl (by rw [HMM.out]; exact cellsAt_new rfl) HLEN ?_; intro y6 w6 ho6 hb6 hg6 hk6))
                    obtain ⟨ka6, kb6, n6, s6⟩ := con_push8 _ KAX.out KBX.out NX.out SX hg6 hk6
                    have HO6 := Lib.hid ho6; have H6 := Lib.hid hb6; have KA6 := Lib.hid ka6; have KB6 := Lib.hid kb6; have N6 := Lib.hid n6
                    clear ho6 hb6 hg6 hk6 ka6 kb6 n6 f0 f1 f2 f3 f4 d0
                    clear a0 a1 a2 a3 a4 a5 a6 a7 a8 a9 a10 a11 b0 b1 b2 b3 b4 b5 b6 b7 b8 b9 b10 b11
                    obtain ⟨a0, a1, a2, a3, a4, a5, a6, a7, a8, a9, a10, a11⟩ := KA6.out.ev
                    obtain ⟨b0, b1, b2, b3, b4, b5, b6, b7, b8, b9, b10, b11⟩ := KB6.out.ev
                    obtain ⟨f0, f1, f2, f3, f4⟩ := HFB.out w6 H6.out
                    have d0 := HGC.out w6 H6.out
                    have hz6 : w.heap.size + 1 ≤ w6.heap.size := by have := H6.out.size; have := HWZ.out; omega
                    go_upto_region 23 with (first | (at_builtin; refine walk_push8 KC (w0 := wb) rfl _ _ rfl (w.heap.size + 1) _ (LL ++ [(⟨q, k, -((b.tm - a.tm - 1) * (1000000 - D) + 1), MM⟩ : C4)]) (⟨k, q, (b.tm - a.tm + 1) * (1000000 + D) - 1, MM⟩ : C4) rfl (HO6.out.alloc _) (H6.out.alloc hz6 _) (by simp; omega) w6.heap.size 1 rfl (by rw [HMM.out]; exact cellsAt_new rfl) HLEN2 ?_; intro y8 w8 ho8 hb8 hg8 hk8))
                    obtain ⟨ka8, kb8, n8, s8⟩ := con_push8 _ KA6.out KB6.out N6.out s6 hg8 hk8
                    have HO8 := Lib.hid ho8; have H8 := Lib.hid hb8; have KA8 := Lib.hid ka8; have KB8 := Lib.hid kb8
                    clear ho8 hb8 hg8 hk8 ka8 kb8 n8 s8 f0 f1 f2 f3 f4 d0
                    clear a0 a1 a2 a3 a4 a5 a6 a7 a8 a9 a10 a11 b0 b1 b2 b3 b4 b5 b6 b7 b8 b9 b10 b11
                    obtain ⟨a0, a1, a2, a3, a4, a5, a6, a7, a8, a9, a10, a11⟩ := KA8.out.ev
                    obtain ⟨b0, b1, b2, b3, b4, b5, b6, b7, b8, b9, b10, b11⟩ := KB8.out.ev
                    have HPQ := Lib.hid (show PP = [(⟨q, k, -((b.tm - a.tm - 1) * (1000000 - D) + 1), MM⟩ : C4), (⟨k, q, (b.tm - a.tm + 1) * (1000000 + D) - 1, MM⟩ : C4)] ++ (if folB a b = true then [⟨q, k, -(folN f.lat a b), MM⟩] else []) by rw [HPQ0.out, HLO.out])
                    clear hd e2 HLEN HLEN2 g1 g2 g3 g4 p1 p2 q1 q2
                    obtain ⟨f0, f1, f2, f3, f4⟩ := HFB.out w8 H8.out
                    go_wp2_with fail
                    refine (CF2.out _ (HFA.out _ (hww _ H8.out))).mono ?_
                    rintro e w7 ⟨rfl, hb7⟩
                    have H7 := Lib.hid (show Below (w.heap.size + 1) wb w7 from H8.out.trans (hb7.mono (by have := H8.out.size; have := HWZ.out; omega)))
                    have HO7 := Lib.hid (HO8.out.below hb7 (Nat.le_refl _))
                    clear hb7 f0 f1 f2 f3 f4
                    clear a0 a1 a2 a3 a4 a5 a6 a7 a8 a9 a10 a11 b0 b1 b2 b3 b4 b5 b6 b7 b8 b9 b10 b11
                    cases hfo : folB a b with
                    | false =>
                      have HPR := Lib.hid (show LL ++ PP = (LL ++ [(⟨q, k, -((b.tm - a.tm - 1) * (1000000 - D) + 1), MM⟩ : C4)] ++ [(⟨k, q, (b.tm - a.tm + 1) * (1000000 + D) - 1, MM⟩ : C4)]) by rw [HPQ.out, if_neg (by rw [hfo]; decide)]; simp)
                      clear hfo
                      go_wp2_with fail
                      go_roundw
                      case rel => exact ⟨q + 1, HQT.out, by go_num, Lib.hid (by rw [HST.out, HPR.out]; exact HO7.out), H7⟩
                      case measure => have h9 := HQT.out; simp [RowKit.intOf]; omega
                    | true =>
                      have HPR := Lib.hid (show LL ++ PP = (LL ++ [(⟨q, k, -((b.tm - a.tm - 1) * (1000000 - D) + 1), MM⟩ : C4)] ++ [(⟨k, q, (b.tm - a.tm + 1) * (1000000 + D) - 1, MM⟩ : C4)]) ++ [⟨q, k, -(folN f.lat a b), MM⟩] by rw [HPQ.out, if_pos hfo]; simp)
                      clear hfo
                      generalize folN f.lat a b = FN at *
                      have HLEN : ((LL ++ [(⟨q, k, -((b.tm - a.tm - 1) * (1000000 - D) + 1), MM⟩ : C4)] ++ [(⟨k, q, (b.tm - a.tm + 1) * (1000000 + D) - 1, MM⟩ : C4)])).length + 1 ≤ 100000000 := by have := HLE.out; simp; omega
                      obtain ⟨LX, hLX⟩ : ∃ LX : List C4, (LL ++ [(⟨q, k, -((b.tm - a.tm - 1) * (1000000 - D) + 1), MM⟩ : C4)] ++ [(⟨k, q, (b.tm - a.tm + 1) * (1000000 + D) - 1, MM⟩ : C4)]) = LX := ⟨_, rfl⟩
                      rw [hLX] at HPR HLEN
                      have HO7 := Lib.hid (show Own KC w7 (w.heap.size + 1) _ LX by rw [← hLX]; exact HO7.out)
                      clear hLX
                      have hz7 : w.heap.size + 1 ≤ w7.heap.size := by have := H7.out.size; have := HWZ.out; omega
                      go_wp2_with (first | (at_builtin; refine walk_push8 KC (w0 := wb) rfl _ _ rfl (w.heap.size + 1) _ LX ⟨q, k, -FN, MM⟩ rfl (HO7.out.alloc _) (H7.out.alloc hz7 _) (by simp; omega) w7.heap.size 1 rfl (by rw [HMM.out]; exact cellsAt_new rfl) HLEN ?_; intro v9 w9 ho9 hb9 _ _))
                      have HO9 := Lib.hid ho9; have H9 := Lib.hid hb9
                      clear ho9 hb9
                      go_roundw
                      case rel => exact ⟨q + 1, HQT.out, by go_num, Lib.hid (by rw [HST.out, HPR.out]; exact HO9.out), H9⟩
                      case measure => have h9 := HQT.out; simp [RowKit.intOf]; omega
                  · have e2 : decide (1 ≤ b.tm - a.tm) = false := decide_eq_false hd
                    have HLO := Lib.hid (show -(low8 D (b.tm - a.tm)) = 0 by unfold low8; rw [if_neg hd]; rfl)
                    have HLEN : LL.length + 1 ≤ 100000000 := by have := HLE.out; omega
                    have HLEN2 : (LL ++ [((⟨q, k, 0, MM⟩ : C4) : C4)]).length + 1 ≤ 100000000 := by have := HLE.out; simp; omega
                    have hz5 : w.heap.size + 1 ≤ w5.heap.size := by have := H5.out.size; have := HWZ.out; omega
                    go_upto_region 22 with (first | (at_builtin; refine walk_push8 KC (w0 := wb) rfl _ _ rfl (w.heap.size + 1) _ LL (⟨q, k, 0, MM⟩ : C4) rfl (HOX.out.alloc _) (H5.out.alloc hz5 _) (by simp; omega) w5.heap.size 1 rfl (by rw [HMM.out]; exact cellsAt_new rfl) HLEN ?_; intro y6 w6 ho6 hb6 hg6 hk6))
                    obtain ⟨ka6, kb6, n6, s6⟩ := con_push8 _ KAX.out KBX.out NX.out SX hg6 hk6
                    have HO6 := Lib.hid ho6; have H6 := Lib.hid hb6; have KA6 := Lib.hid ka6; have KB6 := Lib.hid kb6; have N6 := Lib.hid n6
                    clear ho6 hb6 hg6 hk6 ka6 kb6 n6 f0 f1 f2 f3 f4 d0
                    clear a0 a1 a2 a3 a4 a5 a6 a7 a8 a9 a10 a11 b0 b1 b2 b3 b4 b5 b6 b7 b8 b9 b10 b11
                    obtain ⟨a0, a1, a2, a3, a4, a5, a6, a7, a8, a9, a10, a11⟩ := KA6.out.ev
                    obtain ⟨b0, b1, b2, b3, b4, b5, b6, b7, b8, b9, b10, b11⟩ := KB6.out.ev
                    obtain ⟨f0, f1, f2, f3, f4⟩ := HFB.out w6 H6.out
                    have d0 := HGC.out w6 H6.out
                    have hz6 : w.heap.size + 1 ≤ w6.heap.size := by have := H6.out.size; have := HWZ.out; omega
                    go_upto_region 23 with (first | (at_builtin; refine walk_push8 KC (w0 := wb) rfl _ _ rfl (w.heap.size + 1) _ (LL ++ [(⟨q, k, 0, MM⟩ : C4)]) (⟨k, q, (b.tm - a.tm + 1) * (1000000 + D) - 1, MM⟩ : C4) rfl (HO6.out.alloc _) (H6.out.alloc hz6 _) (by simp; omega) w6.heap.size 1 rfl (by rw [HMM.out]; exact cellsAt_new rfl) HLEN2 ?_; intro y8 w8 ho8 hb8 hg8 hk8))
                    obtain ⟨ka8, kb8, n8, s8⟩ := con_push8 _ KA6.out KB6.out N6.out s6 hg8 hk8
                    have HO8 := Lib.hid ho8; have H8 := Lib.hid hb8; have KA8 := Lib.hid ka8; have KB8 := Lib.hid kb8
                    clear ho8 hb8 hg8 hk8 ka8 kb8 n8 s8 f0 f1 f2 f3 f4 d0
                    clear a0 a1 a2 a3 a4 a5 a6 a7 a8 a9 a10 a11 b0 b1 b2 b3 b4 b5 b6 b7 b8 b9 b10 b11
                    obtain ⟨a0, a1, a2, a3, a4, a5, a6, a7, a8, a9, a10, a11⟩ := KA8.out.ev
                    obtain ⟨b0, b1, b2, b3, b4, b5, b6, b7, b8, b9, b10, b11⟩ := KB8.out.ev
                    have HPQ := Lib.hid (show PP = [(⟨q, k, 0, MM⟩ : C4), (⟨k, q, (b.tm - a.tm + 1) * (1000000 + D) - 1, MM⟩ : C4)] ++ (if folB a b = true then [⟨q, k, -(folN f.lat a b), MM⟩] else []) by rw [HPQ0.out, HLO.out])
                    clear hd e2 HLEN HLEN2 g1 g2 g3 g4 p1 p2 q1 q2
                    obtain ⟨f0, f1, f2, f3, f4⟩ := HFB.out w8 H8.out
                    go_wp2_with fail
                    refine (CF2.out _ (HFA.out _ (hww _ H8.out))).mono ?_
                    rintro e w7 ⟨rfl, hb7⟩
                    have H7 := Lib.hid (show Below (w.heap.size + 1) wb w7 from H8.out.trans (hb7.mono (by have := H8.out.size; have := HWZ.out; omega)))
                    have HO7 := Lib.hid (HO8.out.below hb7 (Nat.le_refl _))
                    clear hb7 f0 f1 f2 f3 f4
                    clear a0 a1 a2 a3 a4 a5 a6 a7 a8 a9 a10 a11 b0 b1 b2 b3 b4 b5 b6 b7 b8 b9 b10 b11
                    cases hfo : folB a b with
                    | false =>
                      have HPR := Lib.hid (show LL ++ PP = (LL ++ [(⟨q, k, 0, MM⟩ : C4)] ++ [(⟨k, q, (b.tm - a.tm + 1) * (1000000 + D) - 1, MM⟩ : C4)]) by rw [HPQ.out, if_neg (by rw [hfo]; decide)]; simp)
                      clear hfo
                      go_wp2_with fail
                      go_roundw
                      case rel => exact ⟨q + 1, HQT.out, by go_num, Lib.hid (by rw [HST.out, HPR.out]; exact HO7.out), H7⟩
                      case measure => have h9 := HQT.out; simp [RowKit.intOf]; omega
                    | true =>
                      have HPR := Lib.hid (show LL ++ PP = (LL ++ [(⟨q, k, 0, MM⟩ : C4)] ++ [(⟨k, q, (b.tm - a.tm + 1) * (1000000 + D) - 1, MM⟩ : C4)]) ++ [⟨q, k, -(folN f.lat a b), MM⟩] by rw [HPQ.out, if_pos hfo]; simp)
                      clear hfo
                      generalize folN f.lat a b = FN at *
                      have HLEN : ((LL ++ [(⟨q, k, 0, MM⟩ : C4)] ++ [(⟨k, q, (b.tm - a.tm + 1) * (1000000 + D) - 1, MM⟩ : C4)])).length + 1 ≤ 100000000 := by have := HLE.out; simp; omega
                      obtain ⟨LX, hLX⟩ : ∃ LX : List C4, (LL ++ [(⟨q, k, 0, MM⟩ : C4)] ++ [(⟨k, q, (b.tm - a.tm + 1) * (1000000 + D) - 1, MM⟩ : C4)]) = LX := ⟨_, rfl⟩
                      rw [hLX] at HPR HLEN
                      have HO7 := Lib.hid (show Own KC w7 (w.heap.size + 1) _ LX by rw [← hLX]; exact HO7.out)
                      clear hLX
                      have hz7 : w.heap.size + 1 ≤ w7.heap.size := by have := H7.out.size; have := HWZ.out; omega
                      go_wp2_with (first | (at_builtin; refine walk_push8 KC (w0 := wb) rfl _ _ rfl (w.heap.size + 1) _ LX ⟨q, k, -FN, MM⟩ rfl (HO7.out.alloc _) (H7.out.alloc hz7 _) (by simp; omega) w7.heap.size 1 rfl (by rw [HMM.out]; exact cellsAt_new rfl) HLEN ?_; intro v9 w9 ho9 hb9 _ _))
                      have HO9 := Lib.hid ho9; have H9 := Lib.hid hb9
                      clear ho9 hb9
                      go_roundw
                      case rel => exact ⟨q + 1, HQT.out, by go_num, Lib.hid (by rw [HST.out, HPR.out]; exact HO9.out), H9⟩
                      case measure => have h9 := HQT.out; simp [RowKit.intOf]; omega
                · have HPQ := Lib.hid (show PP = if folB a b = true then [⟨q, k, -(folN f.lat a b), MM⟩] else [] by rw [HPP.out, if_neg HKQ.out, if_neg hsm, List.nil_append])
                  have hkq2 : ¬ k < q := fun h => hsm ⟨HSA.out, h⟩
                  have g1 : decide ((k : Int) < (q : Int)) = false := decide_eq_false (by omega)
                  have g2 : decide (k < q) = false := decide_eq_false hkq2
                  clear hkq2
                  clear hsm
                  obtain ⟨f0, f1, f2, f3, f4⟩ := HFB.out w5 H5.out
                  go_wp2_with fail
                  refine (CF2.out _ (HFA.out _ (hww _ H5.out))).mono ?_
                  rintro e w7 ⟨rfl, hb7⟩
                  have H7 := Lib.hid (show Below (w.heap.size + 1) wb w7 from H5.out.trans (hb7.mono (by have := H5.out.size; have := HWZ.out; omega)))
                  have HO7 := Lib.hid (HOX.out.below hb7 (Nat.le_refl _))
                  clear hb7 f0 f1 f2 f3 f4
                  clear a0 a1 a2 a3 a4 a5 a6 a7 a8 a9 a10 a11 b0 b1 b2 b3 b4 b5 b6 b7 b8 b9 b10 b11
                  cases hfo : folB a b with
                  | false =>
                    have HPR := Lib.hid (show LL ++ PP = LL by rw [HPQ.out, if_neg (by rw [hfo]; decide)]; simp)
                    clear hfo
                    go_wp2_with fail
                    go_roundw
                    case rel => exact ⟨q + 1, HQT.out, by go_num, Lib.hid (by rw [HST.out, HPR.out]; exact HO7.out), H7⟩
                    case measure => have h9 := HQT.out; simp [RowKit.intOf]; omega
                  | true =>
                    have HPR := Lib.hid (show LL ++ PP = LL ++ [⟨q, k, -(folN f.lat a b), MM⟩] by rw [HPQ.out, if_pos hfo])
                    clear hfo
                    generalize folN f.lat a b = FN at *
                    have HLEN : (LL).length + 1 ≤ 100000000 := by have := HLE.out; omega
                    have hz7 : w.heap.size + 1 ≤ w7.heap.size := by have := H7.out.size; have := HWZ.out; omega
                    go_wp2_with (first | (at_builtin; refine walk_push8 KC (w0 := wb) rfl _ _ rfl (w.heap.size + 1) _ LL ⟨q, k, -FN, MM⟩ rfl (HO7.out.alloc _) (H7.out.alloc hz7 _) (by simp; omega) w7.heap.size 1 rfl (by rw [HMM.out]; exact cellsAt_new rfl) HLEN ?_; intro v9 w9 ho9 hb9 _ _))
                    have HO9 := Lib.hid ho9; have H9 := Lib.hid hb9
                    clear ho9 hb9
                    go_roundw
                    case rel => exact ⟨q + 1, HQT.out, by go_num, Lib.hid (by rw [HST.out, HPR.out]; exact HO9.out), H9⟩
                    case measure => have h9 := HQT.out; simp [RowKit.intOf]; omega
              · have HMM := Lib.hid (show MM = MA + MB by rw [HM.out, if_neg hsa])
                have HSA := Lib.hid hsa
                have g3 : (a.ag != b.ag) = true := by rw [bne_iff_ne]; exact hsa
                have g4 : (a.ag == b.ag) = false := by rw [beq_eq_false_iff_ne]; exact hsa
                clear hsa
                by_cases hsm : a.ag = b.ag ∧ k < q
                · exact absurd hsm.1 HSA.out
                · have HPQ := Lib.hid (show PP = if folB a b = true then [⟨q, k, -(folN f.lat a b), MM⟩] else [] by rw [HPP.out, if_neg HKQ.out, if_neg hsm, List.nil_append])
                  clear hsm
                  obtain ⟨f0, f1, f2, f3, f4⟩ := HFB.out w5 H5.out
                  go_wp2_with fail
                  refine (CF2.out _ (HFA.out _ (hww _ H5.out))).mono ?_
                  rintro e w7 ⟨rfl, hb7⟩
                  have H7 := Lib.hid (show Below (w.heap.size + 1) wb w7 from H5.out.trans (hb7.mono (by have := H5.out.size; have := HWZ.out; omega)))
                  have HO7 := Lib.hid (HOX.out.below hb7 (Nat.le_refl _))
                  clear hb7 f0 f1 f2 f3 f4
                  clear a0 a1 a2 a3 a4 a5 a6 a7 a8 a9 a10 a11 b0 b1 b2 b3 b4 b5 b6 b7 b8 b9 b10 b11
                  cases hfo : folB a b with
                  | false =>
                    have HPR := Lib.hid (show LL ++ PP = LL by rw [HPQ.out, if_neg (by rw [hfo]; decide)]; simp)
                    clear hfo
                    go_wp2_with fail
                    go_roundw
                    case rel => exact ⟨q + 1, HQT.out, by go_num, Lib.hid (by rw [HST.out, HPR.out]; exact HO7.out), H7⟩
                    case measure => have h9 := HQT.out; simp [RowKit.intOf]; omega
                  | true =>
                    have HPR := Lib.hid (show LL ++ PP = LL ++ [⟨q, k, -(folN f.lat a b), MM⟩] by rw [HPQ.out, if_pos hfo])
                    clear hfo
                    generalize folN f.lat a b = FN at *
                    have HLEN : (LL).length + 1 ≤ 100000000 := by have := HLE.out; omega
                    have hz7 : w.heap.size + 1 ≤ w7.heap.size := by have := H7.out.size; have := HWZ.out; omega
                    go_wp2_with (first | (at_builtin; refine walk_push8 KC (w0 := wb) rfl _ _ rfl (w.heap.size + 1) _ LL ⟨q, k, -FN, MM⟩ rfl (HO7.out.alloc _) (H7.out.alloc hz7 _) (by simp; omega) w7.heap.size 1 rfl (by rw [HMM.out]; exact cellsAt_new rfl) HLEN ?_; intro v9 w9 ho9 hb9 _ _))
                    have HO9 := Lib.hid ho9; have H9 := Lib.hid hb9
                    clear ho9 hb9
                    go_roundw
                    case rel => exact ⟨q + 1, HQT.out, by go_num, Lib.hid (by rw [HST.out, HPR.out]; exact HO9.out), H9⟩
                    case measure => have h9 := HQT.out; simp [RowKit.intOf]; omega
          · obtain rfl : q = l.length := by omega
            have hqi : ¬ (l.length : Int) < (l.length : Int) := by omega
            have HLT := Lib.hid hlt
            have HO2 := Lib.hid (show Own KC w3 (w.heap.size + 1) _ (conN f l (k + 1)) from by rw [conN_step]; exact HO.out)
            go_wp2_with fail
            go_roundw
            case rel => exact ⟨k + 1, HLT.out, by go_num, HO2, HB⟩
            case measure => have h9 := HLT.out; simp [RowKit.intOf]; omega
      · obtain rfl : k = l.length := by omega
        have hki : ¬ (l.length : Int) < (l.length : Int) := by omega
        obtain ⟨ad5, c5, rfl, hc5, hn5⟩ := HO.out.rn
        have H5 := Lib.hid (And.intro hc5 (hn5.base (Nat.le_succ _)))
        clear hc5 hn5
        go_wp2_with fail
        go_ret2
        exact ⟨ad5, c5, by rw [HV.out.1, HV.out.2]; rfl, by rw [HV.out.1]; exact H5.out.1, by rw [HV.out.1]; exact H5.out.2, HWW.out.trans (HB.out.mono (Nat.le_succ _))⟩
end Go.Proofs.YtamefmojocegkaaDoor
