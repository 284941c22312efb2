/-
  Layer 9, the program: chain, Chain, Encode. Layer 9, the program: Valid, EncodeBatch, Follows. Layer 9, the program: EncodeBatch, Follows. Layer 9, the program: parts of rows by two bounds; rows of batches; parts. Layer 9: '==' of two events; the reference's SameEvents. Layer 9: the reference's SameEvents and Zero. Layer 9: the reference's Same: whether two batches are equal. Layer 9: the reference's Zero: 32 zeros. Layer 9: two lists of events of one length whose chains are equal are the same, or two different strings have one digest.
-/
import Derived.Test.YtnpfhcnjkekhbaaGreatDoorProg
import Derived.Test.YtnpfhcnjkekhbaaGreatDoorK03
import Derived.Test.YtnpfhcnjkekhbaaGreatDoorK18
import Derived.Test.YtnpfhcnjkekhbaaGreatDoorK20
import Derived.Test.YtnpfhcnjkekhbaaGreatDoorK23
import Derived.Shelf.Strings.BuilderK
import Derived.Shelf.Strings.Repeat
import Derived.Maps.Own
import Derived.Maps.OwnOps
import Derived.Laws.Rows
import Derived.Laws.OwnMore
import Derived.OwnWalk
import Derived.WalkKit
import Derived.WalkLawsBesides
import Derived.Outline
import Derived.Lib.Hide
import Derived.Below
import Derived.BigQuiet
import Derived.Deep.QuietTactic
import Derived.Deep.RegionHeld3
import Derived.Lib.QuietBelow
import Derived.Deep.DeepCutAuto
import Derived.StillTail
import Derived.Lib.Varint
import Derived.Lib.SlBytesRow
import Derived.Shelf.Abstract
import Derived.OwnWalkIn
import Derived.TacticsInMore
import Derived.LoopNIn
import Derived.LoopIn
import Derived.RangeFuncNested
import Derived.RangeFuncBound
import Derived.RangeFuncCalls
import Derived.RangeFuncLeaves
import Derived.RangeFuncBox
import Derived.Lib.ConvBytes
import Derived.DefersIn
import Derived.Laws.CopyOwn
import Derived.RegionTactic
import Derived.ChangeAlike
import Derived.Deep.RegionWith
import Derived.Deep.CutRange
import Derived.IntWalk
import Derived.Lib.EndianBits
import Derived.Lib.Strings
import Derived.ControlIn
import Derived.WalkMore
import Derived.Lib.SliceRun
import Derived.RangeFuncRecord
import Derived.Shelf.LaysM
import Derived.Shelf.Strconv.Clone
import Derived.RangeFuncFrom
import Derived.TacticsIn
import Derived.OrdersIn
import Derived.Laws.StructEq
import Derived.Laws.MakeOwn
set_option maxRecDepth 100000
set_option maxHeartbeats 16000000
namespace Go.Proofs.YtnpfhcnjkekhbaaGreatDoor
open Go Go.Proofs Go.RowKit Go.Lib Go.Maps
open W1 (clone_any)
theorem chainF_size (a b : ByteArray) : (chainF a b).size = 32 := sha_size _
theorem encE_le {e : Ev} (h : evB e = true) : (encE e).length ≤ 108 := by
 have := encL_le e.nums (nums_fit h)
 rw [nums_len] at this
 exact this
theorem encT_size {e : Ev} (h : evB e = true) : (encT e).size ≤ 108 := by
 have : (encT e).size = (encE e).length := by unfold encT; show (encE e).toArray.size = _; simp
 rw [this]
 exact encE_le h
theorem chH_take {H : ByteArray → ByteArray → ByteArray} {h : ByteArray} {l : List Ev} {k : Nat} (hk : k < l.length) : chH H h (l.take (k + 1)) = H (chH H h (l.take k)) (encT l[k]) := by
 rw [List.take_succ_eq_append_getElem hk, chH_snoc]
 rfl
theorem chH_le {h : ByteArray} (hs : h.size ≤ 1000000) (l : List Ev) : (chH chainF h l).size ≤ 1000000 := by
 induction l generalizing h with
 | nil => exact hs
 | cons e l ih => exact ih (by rw [chainF_size]; omega)
theorem chain_u (h : ByteArray) (hs : h.size ≤ 1000000) (ad : Option Addr) (c : Nat) (l : List Ev) (hl : l.length ≤ maxLen) (hv : ∀ x ∈ l, evB x = true) (w : World) (hR : Ready w) (hI : RL KE w ad l) :
 Calls Tryz.prog 51 #[.string h, .slice ad l.length c] w fun e w' => e = .returned (.string (chH chainF h l)) ∧ Below w.heap.size w w' := by
 unfold maxLen at hl
 have HC := Lib.hid (fun k hk => hI.ev k hk)
 have HV := Lib.hid (show ∀ k (hk : k < l.length), evB l[k] = true from fun k hk => hv _ (List.getElem_mem hk))
 have HRD := Lib.hid hR
 have HTK := Lib.hid (fun k (hk : k < l.length) => chH_take (H := chainF) (h := h) hk)
 have HLE := Lib.hid (fun k => chH_le hs (l.take k))
 have H0 := Lib.hid (show h = chH chainF h (l.take 0) from rfl)
 have HN := Lib.hid (show chH chainF h (l.take l.length) = chH chainF h l by rw [List.take_length])
 obtain ⟨P, hP⟩ : ∃ P : Nat → ByteArray, P = fun k => chH chainF h (l.take k) := ⟨_, rfl⟩
 obtain ⟨R, hR2⟩ : ∃ R, R = chH chainF h l := ⟨_, rfl⟩
 have HTK := Lib.hid (show ∀ k (hk : k < l.length), P (k + 1) = chainF (P k) (encT l[k]) from by rw [hP]; exact HTK.out)
 have HLE := Lib.hid (show ∀ k, (P k).size ≤ 1000000 from by rw [hP]; exact HLE.out)
 have H0 := Lib.hid (show h = P 0 from by rw [hP]; rfl)
 have HN := Lib.hid (show P l.length = R from by rw [hP, hR2]; exact HN.out)
 rw [← hR2]
 clear hI hv hR hP hR2 hs
 go_enter Tryz.func51, Tryz.ntmps51
 go_wp2_with fail
 go_loopw [0, 9] (fun s i wr => ∃ k : Nat, i = .int .i64 k ∧ k ≤ l.length ∧ s = .string (P k) ∧ Hid (Below w.heap.size w wr)) (fun _ i _ => l.length - (RowKit.intOf i).toNat)
 case atStart => exact ⟨0, rfl, Nat.zero_le _, by rw [← H0.out], Lib.hid (Below.refl _ _)⟩
 case round =>
  obtain ⟨k, rfl, hk, rfl, HB⟩ := hrel
  by_cases hlt : k < l.length
  · have hki : (k : Int) < (l.length : Int) := by omega
    obtain ⟨xb, xo, rfl, _, hxc⟩ := HC.out k hlt
    obtain ⟨d0, d1, d2, d3, d4, d5, d6, d7, d8, d9, d10, d11⟩ := hxc wr HB.out
    have hik := fun W => at_ev8 xb xo l.length c k hlt W
    have HLT := Lib.hid hlt
    have HVX := Lib.hid (HV.out k hlt)
    have HT := Lib.hid (HTK.out k hlt)
    have HLP := Lib.hid (HLE.out k)
    generalize l[k]'hlt = x at *
    obtain ⟨PN, hPN⟩ : ∃ PN, PN = P (k + 1) := ⟨_, rfl⟩
    rw [← hPN] at HT
    have HPN := Lib.hid hPN
    generalize P k = p at *
    obtain ⟨w3, w4, V3, Z3, G3, V4, K4, B4, B3, Z4⟩ := evcopy9 wr x
    obtain ⟨g0, g0'⟩ := G3 0 (by decide)
    obtain ⟨g1, g1'⟩ := G3 1 (by decide)
    obtain ⟨g2, g2'⟩ := G3 2 (by decide)
    obtain ⟨g3, g3'⟩ := G3 3 (by decide)
    obtain ⟨g4, g4'⟩ := G3 4 (by decide)
    obtain ⟨g5, g5'⟩ := G3 5 (by decide)
    obtain ⟨g6, g6'⟩ := G3 6 (by decide)
    obtain ⟨g7, g7'⟩ := G3 7 (by decide)
    obtain ⟨g8, g8'⟩ := G3 8 (by decide)
    obtain ⟨g9, g9'⟩ := G3 9 (by decide)
    obtain ⟨g10, g10'⟩ := G3 10 (by decide)
    obtain ⟨g11, g11'⟩ := G3 11 (by decide)
    obtain ⟨e0, e1, e2, e3, e4, e5, e6, e7, e8, e9, e10, e11⟩ := CellsAt.ev K4
    have HB4 := Lib.hid (below_up8 HB.out B4)
    have HE := Lib.hid (fun W => encoding_u x HVX.out W)
    rw [Ev.val_mk] at HE
    have HCH := Lib.hid (fun W (b : Below w4.heap.size w4 W) => chain_any p (encT x) (by have := HLP.out; omega) (by have := encT_size HVX.out; omega) W ((HRD.out.below HB4.out).below b))
    have HT2 := Lib.hid HT.out.symm
    generalize encT x = X at *
    rw [HT2.out] at HCH
    clear hxc G3 K4 B4 B3 hlt Z3 hPN
    go_upto_region 4 with fail
    clear V3 V4 g0 g0' g1 g1' g2 g2' g3 g3' g4 g4' g5 g5' g6 g6' g7 g7' g8 g8' g9 g9' g10 g10' g11 g11' d0 d1 d2 d3 d4 d5 d6 d7 d8 d9 d10 d11
    go_wp2_with fail
    refine (HE.out _).mono ?_
    rintro e z ⟨rfl, hz⟩
    have HZ := Lib.hid hz
    clear hz e0 e1 e2 e3 e4 e5 e6 e7 e8 e9 e10 e11
    go_wp2_with fail
    refine (HCH.out _ HZ.out).mono ?_
    rintro e z2 ⟨rfl, hz⟩
    have HZ2 := Lib.hid (below_up8 HB4.out (below_up8 HZ.out hz))
    clear hz
    go_wp2_with fail
    go_roundw
    case rel => exact ⟨k + 1, by go_num, HLT.out, by rw [← HPN.out], HZ2⟩
    case measure => have := HLT.out; simp [RowKit.intOf]; omega
  · have hke : k = l.length := by omega
    have hki : ¬ (k : Int) < (l.length : Int) := by omega
    have HF := Lib.hid (show P k = R from by rw [hke]; exact HN.out)
    have HCL := Lib.hid (clone_any (P k) wr (by have := HLE.out k; omega))
    rw [HF.out] at HCL ⊢
    clear hke hlt HF
    go_wp2_with fail
    refine HCL.out.mono ?_
    rintro e z ⟨rfl, hz⟩
    have HZ := Lib.hid (below_up8 HB.out hz)
    clear hz
    go_wp2_with fail
    go_ret
    exact ⟨rfl, HZ.out⟩
def encV (x : Ev) : ByteArray := if evB x = true then encT x else ByteArray.empty
def encN (x : Ev) : Int := if evB x = true then 0 else 90
theorem encode_u (x : Ev) (hk : x.wf) (w : World) (hR : Rdy w) :
 Calls Tryz.prog 8 #[x.val] w fun e w' => e = .returned (.tuple #[.string (encV x), .int .i64 (encN x)]) ∧ Below w.heap.size w w' := by
 obtain ⟨w1, V1, Z1, K1, B1⟩ := lay8 w x.cells 23
 have V1 := (show w.alloc (.cells #[.int .i64 x.ag, .int .i64 x.sq, .int .i64 x.tm, .int .i64 x.kd, .int .i64 x.tr, .int .i64 x.sp, .int .i64 x.lk, .int .i64 x.gn, .int .i64 x.op, .int .i64 x.vr, .int .i64 x.pe, .int .i64 x.bt] 23) = w1 from V1)
 obtain ⟨d0, d1, d2, d3, d4, d5, d6, d7, d8, d9, d10, d11⟩ := CellsAt.ev K1
 have HB := Lib.hid B1
 have HE := Lib.hid (event_u x hk w1 (hR.below B1))
 have KV := Lib.hid (fun W (b : Below w1.heap.size w1 W) => CellsAt.ev (CellsAt.below K1 b))
 have HN := Lib.hid (fun W (h : evB x = true) => encoding_u x h W)
 rw [Ev.val_mk] at HE HN ⊢
 obtain ⟨S, hS⟩ : ∃ S, encV x = S := ⟨_, rfl⟩
 obtain ⟨C, hC⟩ : ∃ C, encN x = C := ⟨_, rfl⟩
 rw [hS, hC]
 have HS := Lib.hid hS
 have HCC := Lib.hid hC
 clear hk hR K1 B1 Z1 hS hC
 cases hv : evB x with
 | true =>
  have HSV := Lib.hid (show S = encT x from by rw [← HS.out]; unfold encV; rw [if_pos hv])
  have HCV := Lib.hid (show C = 0 from by rw [← HCC.out]; unfold encN; rw [if_pos hv])
  have HN := Lib.hid (fun W => HN.out W hv)
  rw [hv] at HE
  rw [← HSV.out] at HN
  clear hv
  go_enter Tryz.func8, Tryz.ntmps8
  go_wp2_with fail
  refine HE.out.mono ?_
  rintro e z ⟨rfl, hz⟩
  have HZ := Lib.hid hz
  clear hz V1 d0 d1 d2 d3 d4 d5 d6 d7 d8 d9 d10 d11
  obtain ⟨d0, d1, d2, d3, d4, d5, d6, d7, d8, d9, d10, d11⟩ := KV.out z HZ.out
  go_wp2_with fail
  refine (HN.out _).mono ?_
  rintro e z2 ⟨rfl, hz⟩
  have HZ2 := Lib.hid (below_up8 HB.out (below_up8 HZ.out hz))
  clear hz d0 d1 d2 d3 d4 d5 d6 d7 d8 d9 d10 d11
  go_wp2_with fail
  go_ret2
  exact ⟨by rw [HCV.out]; rfl, HZ2.out⟩
 | false =>
  have HSV := Lib.hid (show S = ByteArray.empty from by rw [← HS.out]; unfold encV; rw [if_neg (by rw [hv]; decide)])
  have HCV := Lib.hid (show C = 90 from by rw [← HCC.out]; unfold encN; rw [if_neg (by rw [hv]; decide)])
  rw [hv] at HE
  clear hv
  go_enter Tryz.func8, Tryz.ntmps8
  go_wp2_with fail
  refine HE.out.mono ?_
  rintro e z ⟨rfl, hz⟩
  have HZ := Lib.hid (below_up8 HB.out hz)
  clear hz V1 d0 d1 d2 d3 d4 d5 d6 d7 d8 d9 d10 d11
  go_wp2_with fail
  go_ret2
  exact ⟨by rw [HCV.out, HSV.out]; rfl, HZ.out⟩
def chainV (h : ByteArray) (l : List Ev) : ByteArray := if h.size = 32 ∧ l.all evB = true then chH chainF h l else ByteArray.empty
def chainN (h : ByteArray) (l : List Ev) : Int := if h.size = 32 ∧ l.all evB = true then 0 else 90
end Go.Proofs.YtnpfhcnjkekhbaaGreatDoor

namespace Go.Proofs.YtnpfhcnjkekhbaaGreatDoor
open Go Go.Proofs Go.RowKit Go.Lib Go.Maps
theorem btB_no {b : Bt} (h : ¬ btB b = true) : btB b = false := by simpa using h
theorem btbox9 (w : World) (b : Bt) (ad : Option Addr) (c : Nat) : ∃ w1, w.alloc (.cells #[.int .i64 b.ag, .int .i64 b.fs, .slice ad b.ev.length c, .int .i64 b.lw, .string b.hd] 26) = w1 ∧ w1.heap.size = w.heap.size + 1 ∧ Below w.heap.size w w1 ∧
 ∀ W, Below w1.heap.size w1 W → W.cell? ⟨w.heap.size, 0, none⟩ = some (.int .i64 b.ag) ∧ W.cell? ⟨w.heap.size, 1, none⟩ = some (.int .i64 b.fs) ∧ W.cell? ⟨w.heap.size, 2, none⟩ = some (.slice ad b.ev.length c) ∧ W.cell? ⟨w.heap.size, 3, none⟩ = some (.int .i64 b.lw) ∧ W.cell? ⟨w.heap.size, 4, none⟩ = some (.string b.hd) := by
 obtain ⟨w1, V1, Z1, K1, B1⟩ := lay8 w [.int .i64 b.ag, .int .i64 b.fs, .slice ad b.ev.length c, .int .i64 b.lw, .string b.hd] 26
 refine ⟨w1, V1, Z1, B1, fun W h => ?_⟩
 have K := CellsAt.below K1 h
 exact ⟨(K 0 (by simp)).1, (K 1 (by simp)).1, (K 2 (by simp)).1, (K 3 (by simp)).1, (K 4 (by simp)).1⟩
theorem validB_u (b : Bt) (ad : Option Addr) (c : Nat) (hl : b.ev.length ≤ maxLen) (hw : evsW b.ev) (w : World) (hR : Rdy w) (hI : RL KE w ad b.ev) :
 Calls Tryz.prog 15 #[.agg #[.int .i64 b.ag, .int .i64 b.fs, .slice ad b.ev.length c, .int .i64 b.lw, .string b.hd]] w fun e w' => e = .returned (.bool (btB b)) ∧ Below w.heap.size w w' := by
 obtain ⟨w1, V1, Z1, B1, KB⟩ := btbox9 w b ad c
 obtain ⟨y0, y1, y2, y3, y4⟩ := KB w1 (Below.refl _ _)
 have HB1 := Lib.hid B1
 obtain ⟨R, hR2⟩ : ∃ R, btB b = R := ⟨_, rfl⟩
 rw [hR2]
 have HB := Lib.hid hR2
 have HNO := Lib.hid (fun h : ¬ btB b = true => show R = false from by rw [← HB.out]; exact btB_no h)
 have HA := Lib.hid (fun W => isAgent_u b.ag W)
 have HFI := Lib.hid (fun W => isFirst_u b.fs W)
 have HLO := Lib.hid (fun W => isLow_u b.lw W)
 have HHE := Lib.hid (fun W => isHead_u b.hd W)
 have HNU := Lib.hid (fun (h0 : 0 ≤ b.fs) (h1 : b.fs ≤ 1000000) => numbered_u b.ag b.fs ad c b.ev hl h0 h1 hw w1 (hR.below B1) (hI.below B1))
 clear hl hw hR hI B1 KB Z1 hR2
 cases h1 : inB b.ag 0 5 with
 | false =>
  have HF := Lib.hid (HNO.out (fun h => by have := (btB_of h).1; rw [inB_yes this.1 this.2] at h1; cases h1))
  rw [h1] at HA
  clear h1
  go_enter Tryz.func15, Tryz.ntmps15
  go_wp2_with (first | (go_at_call 44; refine (HA.out _).mono ?_; rintro e z ⟨rfl, rfl⟩) | (go_at_call 45; refine (HFI.out _).mono ?_; rintro e z ⟨rfl, rfl⟩) | (go_at_call 46; refine (HLO.out _).mono ?_; rintro e z ⟨rfl, rfl⟩) | (go_at_call 47; refine (HHE.out _).mono ?_; rintro e z ⟨rfl, rfl⟩))
  go_ret
  exact ⟨by rw [HF.out]; rfl, HB1.out⟩
 | true =>
  have h1t := Lib.hid h1
  rw [h1] at HA
  clear h1
  cases h2 : inB b.fs 0 999 with
  | false =>
   have HF := Lib.hid (HNO.out (fun h => by have := (btB_of h).2.1; rw [inB_yes this.1 this.2] at h2; cases h2))
   rw [h2] at HFI
   clear h2
   go_enter Tryz.func15, Tryz.ntmps15
   go_wp2_with (first | (go_at_call 44; refine (HA.out _).mono ?_; rintro e z ⟨rfl, rfl⟩) | (go_at_call 45; refine (HFI.out _).mono ?_; rintro e z ⟨rfl, rfl⟩) | (go_at_call 46; refine (HLO.out _).mono ?_; rintro e z ⟨rfl, rfl⟩) | (go_at_call 47; refine (HHE.out _).mono ?_; rintro e z ⟨rfl, rfl⟩))
   go_ret
   exact ⟨by rw [HF.out]; rfl, HB1.out⟩
  | true =>
   have h2t := Lib.hid h2
   rw [h2] at HFI
   clear h2
   cases h3 : inB b.lw 0 1000 with
   | false =>
    have HF := Lib.hid (HNO.out (fun h => by have := (btB_of h).2.2.2.1; rw [inB_yes this.1 this.2] at h3; cases h3))
    rw [h3] at HLO
    clear h3
    go_enter Tryz.func15, Tryz.ntmps15
    go_wp2_with (first | (go_at_call 44; refine (HA.out _).mono ?_; rintro e z ⟨rfl, rfl⟩) | (go_at_call 45; refine (HFI.out _).mono ?_; rintro e z ⟨rfl, rfl⟩) | (go_at_call 46; refine (HLO.out _).mono ?_; rintro e z ⟨rfl, rfl⟩) | (go_at_call 47; refine (HHE.out _).mono ?_; rintro e z ⟨rfl, rfl⟩))
    go_ret
    exact ⟨by rw [HF.out]; rfl, HB1.out⟩
   | true =>
    have h3t := Lib.hid h3
    rw [h3] at HLO
    clear h3
    cases h4 : decide (b.hd.size = 32) with
    | false =>
     have HF := Lib.hid (HNO.out (fun h => by have := (btB_of h).2.2.2.2.1; rw [decide_eq_true this] at h4; cases h4))
     rw [h4] at HHE
     clear h4
     go_enter Tryz.func15, Tryz.ntmps15
     go_wp2_with (first | (go_at_call 44; refine (HA.out _).mono ?_; rintro e z ⟨rfl, rfl⟩) | (go_at_call 45; refine (HFI.out _).mono ?_; rintro e z ⟨rfl, rfl⟩) | (go_at_call 46; refine (HLO.out _).mono ?_; rintro e z ⟨rfl, rfl⟩) | (go_at_call 47; refine (HHE.out _).mono ?_; rintro e z ⟨rfl, rfl⟩))
     go_ret
     exact ⟨by rw [HF.out]; rfl, HB1.out⟩
    | true =>
     have h4t := Lib.hid h4
     rw [h4] at HHE
     clear h4
     by_cases h5 : (b.ev.length : Int) ≤ 24
     · have HY := Lib.hid (show R = numB b.ag b.fs b.ev from by rw [← HB.out]; unfold btB; rw [h1t.out, h2t.out, h3t.out, h4t.out, decide_eq_true (show b.ev.length ≤ 24 by omega)]; rfl)
       have HNU := Lib.hid (HNU.out (of_inB h2t.out).1 (by have := (of_inB h2t.out).2; omega))
       rw [← HY.out] at HNU
       go_enter Tryz.func15, Tryz.ntmps15
       go_wp2_with (first | (go_at_call 44; refine (HA.out _).mono ?_; rintro e z ⟨rfl, rfl⟩) | (go_at_call 45; refine (HFI.out _).mono ?_; rintro e z ⟨rfl, rfl⟩) | (go_at_call 46; refine (HLO.out _).mono ?_; rintro e z ⟨rfl, rfl⟩) | (go_at_call 47; refine (HHE.out _).mono ?_; rintro e z ⟨rfl, rfl⟩))
       refine HNU.out.mono ?_
       rintro e z ⟨rfl, hz⟩
       have HZ := Lib.hid (below_up8 HB1.out hz)
       clear hz V1 y0 y1 y2 y3 y4
       go_wp2_with fail
       go_ret
       exact ⟨rfl, HZ.out⟩
     · have HF := Lib.hid (HNO.out (fun h => by have := (btB_of h).2.2.1; omega))
       go_enter Tryz.func15, Tryz.ntmps15
       go_wp2_with (first | (go_at_call 44; refine (HA.out _).mono ?_; rintro e z ⟨rfl, rfl⟩) | (go_at_call 45; refine (HFI.out _).mono ?_; rintro e z ⟨rfl, rfl⟩) | (go_at_call 46; refine (HLO.out _).mono ?_; rintro e z ⟨rfl, rfl⟩) | (go_at_call 47; refine (HHE.out _).mono ?_; rintro e z ⟨rfl, rfl⟩))
       go_ret
       exact ⟨by rw [HF.out]; rfl, HB1.out⟩
def encBT (b : Bt) : ByteArray := ⟨(encB b).toArray⟩
theorem encEs_snoc (a : List Ev) (x : Ev) : encEs (a ++ [x]) = encEs a ++ encE x := by
 unfold encEs
 rw [List.flatMap_append]
 simp
theorem encEs_le : ∀ (l : List Ev), (∀ x ∈ l, evB x = true) → (encEs l).length ≤ 108 * l.length
 | [], _ => by simp [encEs]
 | x :: l, h => by
  have h1 := encE_le (h x List.mem_cons_self)
  have h2 := encEs_le l fun y hy => h y (List.mem_cons_of_mem _ hy)
  rw [encEs_cons, List.length_append, List.length_cons]
  omega
theorem bld_step {B b : Nat} {P : List UInt8} {S : ByteArray} {q : List UInt8} {W : World} (hS : S.data.toList = q) (h : Lib.BuilderAtF 100 5 B b (.pointer (some ⟨b, 0, none⟩)) (Lib.byteCells P ++ Lib.byteCells S.data.toList) W) : BldAt B b (P ++ q) W := by
 rw [hS, byteCells_app] at h
 exact .inr h
theorem batchEncoding_u (b : Bt) (hv : btB b = true) (ad : Option Addr) (c : Nat) (w : World) (hI : RL KE w ad b.ev) :
 Calls Tryz.prog 43 #[.agg #[.int .i64 b.ag, .int .i64 b.fs, .slice ad b.ev.length c, .int .i64 b.lw, .string b.hd]] w fun e w' => e = .returned (.string (encBT b)) ∧ Below w.heap.size w w' := by
 obtain ⟨w1, V1, Z1, B1, KB⟩ := btbox9 w b ad c
 have HB1 := Lib.hid B1
 have HKB := Lib.hid KB
 have HEV := Lib.hid (show ∀ k (hk : k < b.ev.length), evB b.ev[k] = true from fun k hk => numB_ev (btB_of hv).2.2.2.2.2 _ (List.getElem_mem hk))
 have HC := Lib.hid (fun k hk => (hI.below B1).ev k hk)
 have hl : b.ev.length ≤ 24 := (btB_of hv).2.2.1
 have HN0 := Lib.hid (bld_new w1)
 have B2 := ((Below.refl w1.heap.size w1).alloc (Nat.le_refl _) (.cells #[.pointer none, .slice none 0 0] 100))
 obtain ⟨wb, hwb⟩ : ∃ wb, w1.alloc (.cells #[.pointer none, .slice none 0 0] 100) = wb := ⟨_, rfl⟩
 rw [hwb] at HN0 B2
 have zb : wb.heap.size = w1.heap.size + 1 := by rw [← hwb]; simp
 obtain ⟨y0, y1, y2, y3, y4⟩ := KB wb B2
 obtain ⟨wn, Vn, Zn, Kn, Bn⟩ := lay8 wb (b.nums.map (Value.int .i64)) 3
 have Vn := (show wb.alloc (.cells #[.int .i64 b.ag, .int .i64 b.fs, .int .i64 b.lw, .int .i64 (b.ev.length : Int)] 3) = wn from Vn)
 have HBn := Lib.hid (show Below w1.heap.size w1 wn from B2.trans (Bn.mono B2.size))
 have HNn := Lib.hid (bld_move HN0.out Bn (Nat.le_refl _))
 have HNU := Lib.hid (show Calls Tryz.prog 66 #[.slice (some ⟨wb.heap.size, 0, none⟩) 4 4] wn fun e w' => e = .returned (.string ⟨(encL b.nums).toArray⟩) ∧ Below wn.heap.size wn w' from
  numbers_u (some ⟨wb.heap.size, 0, none⟩) 4 b.nums (show 4 ≤ 100 by decide) (bt_fit hv) wn (.inr ⟨wb.heap.size, 0, rfl, by omega, fun i hi j hj => by
   have hj0 : j = 0 := by have : j < 1 := hj; omega
   subst hj0
   have h := (Kn i (by rw [List.length_map]; exact hi)).1
   rw [List.getElem_map] at h
   rw [show 0 + KI.n * i + 0 = i by show 0 + 1 * i + 0 = i; omega, h]
   rfl⟩))
 have HS0 := Lib.hid (show (encL b.nums).length ≤ 36 from by have := encL_le b.nums (bt_fit hv); exact this)
 have HHS := Lib.hid (btB_of hv).2.2.2.2.1
 have HFIN := Lib.hid (show encBT b = ⟨(encL b.nums ++ encEs b.ev ++ b.hd.data.toList).toArray⟩ from by unfold encBT encB; rw [List.append_assoc])
 have HES := Lib.hid (fun k => encEs_le (b.ev.take k) fun y hy => numB_ev (btB_of hv).2.2.2.2.2 y (List.mem_of_mem_take hy))
 have HTK := Lib.hid (fun k (hk : k < b.ev.length) => show encEs (b.ev.take (k + 1)) = encEs (b.ev.take k) ++ encE b.ev[k] from by rw [List.take_succ_eq_append_getElem hk, encEs_snoc])
 have HTA := Lib.hid (show encEs (b.ev.take b.ev.length) = encEs b.ev by rw [List.take_length])
 rw [zb, Z1] at HNU
 rw [Z1] at HN0 HNn
 obtain ⟨Q0, hQ0⟩ : ∃ Q0, Q0 = encL b.nums := ⟨_, rfl⟩
 rw [← hQ0] at HNU HS0 HFIN
 obtain ⟨QT, hQT⟩ : ∃ QT : ByteArray, QT = ⟨Q0.toArray⟩ := ⟨_, rfl⟩
 have HQT := Lib.hid (show QT.data.toList = Q0 from by rw [hQT])
 have HQS := Lib.hid (show QT.size = Q0.length from by rw [hQT]; show Q0.toArray.size = _; rw [List.size_toArray])
 rw [← hQT] at HNU
 obtain ⟨RT, hRT⟩ : ∃ RT, encBT b = RT := ⟨_, rfl⟩
 rw [hRT] at HFIN ⊢
 clear hv hI KB B1 B2 Bn Kn Zn hQ0 hRT hQT
 go_enter Tryz.func43, Tryz.ntmps43
 go_wp2_with fail
 refine HNU.out.mono ?_
 rintro e wo ⟨rfl, h1⟩
 have HBo := Lib.hid (show Below w1.heap.size w1 wo from HBn.out.trans (h1.mono HBn.out.size))
 have HNo := Lib.hid (bld_move HNn.out h1 (Nat.le_refl _))
 clear h1 Vn hwb V1 y0 y1 y2 y3 y4 zb
 have HWR := Lib.hid (write9 (w.heap.size + 1) (w.heap.size + 1) (Lib.byteCells []) QT wo HNo.out (by rw [Lib.byteCells_length]; show 0 + QT.size ≤ _; have := HQS.out; have := HS0.out; omega) (by have := HBo.out.size; omega))
 go_wp2_with fail
 refine HWR.out.mono ?_
 rintro e wp ⟨rfl, h2, h3, _⟩
 have HBp := Lib.hid (show Below w1.heap.size w1 wp from HBo.out.trans (by rw [← Z1] at h3; exact h3))
 have HNp := Lib.hid (show BldAt (w.heap.size + 1) (w.heap.size + 1) ([] ++ Q0) wp from bld_step HQT.out h2)
 obtain ⟨y0, y1, y2, y3, y4⟩ := HKB.out wp HBp.out
 clear h2 h3 HWR HNo HNn
 go_wp2_with fail
 clear y0 y1 y2 y3 y4
 go_loopw [21] (fun i wr => ∃ k : Nat, i = .int .i64 k ∧ k ≤ b.ev.length ∧ Hid (BldAt (w.heap.size + 1) (w.heap.size + 1) (Q0 ++ encEs (b.ev.take k)) wr) ∧ Hid (Below w1.heap.size w1 wr)) (fun i _ => b.ev.length - (RowKit.intOf i).toNat)
 case atStart => exact ⟨0, rfl, Nat.zero_le _, Lib.hid (by rw [List.nil_append] at HNp; show BldAt _ _ (Q0 ++ []) _; rw [List.append_nil]; exact HNp.out), HBp⟩
 case round =>
  clear HNp HBp HBo
  obtain ⟨k, rfl, hk, HO, HB⟩ := hrel
  by_cases hlt : k < b.ev.length
  · have hki : (k : Int) < (b.ev.length : Int) := by omega
    obtain ⟨xb, xo, rfl, _, hxc⟩ := HC.out k hlt
    obtain ⟨d0, d1, d2, d3, d4, d5, d6, d7, d8, d9, d10, d11⟩ := hxc wr HB.out
    have hik := fun W => at_ev8 xb xo b.ev.length c k hlt W
    have HLT := Lib.hid hlt
    have HVX := Lib.hid (HEV.out k hlt)
    have HT := Lib.hid (HTK.out k hlt)
    have HLP := Lib.hid (show (encEs (b.ev.take k)).length ≤ 2592 from by have := HES.out k; rw [List.length_take] at this; omega)
    generalize b.ev[k]'hlt = x at *
    generalize encEs (b.ev.take k) = P at *
    obtain ⟨w3, w4, V3, Z3, G3, V4, K4, B4, B3, Z4⟩ := evcopy9 wr x
    obtain ⟨g0, g0'⟩ := G3 0 (by decide)
    obtain ⟨g1, g1'⟩ := G3 1 (by decide)
    obtain ⟨g2, g2'⟩ := G3 2 (by decide)
    obtain ⟨g3, g3'⟩ := G3 3 (by decide)
    obtain ⟨g4, g4'⟩ := G3 4 (by decide)
    obtain ⟨g5, g5'⟩ := G3 5 (by decide)
    obtain ⟨g6, g6'⟩ := G3 6 (by decide)
    obtain ⟨g7, g7'⟩ := G3 7 (by decide)
    obtain ⟨g8, g8'⟩ := G3 8 (by decide)
    obtain ⟨g9, g9'⟩ := G3 9 (by decide)
    obtain ⟨g10, g10'⟩ := G3 10 (by decide)
    obtain ⟨g11, g11'⟩ := G3 11 (by decide)
    obtain ⟨e0, e1, e2, e3, e4, e5, e6, e7, e8, e9, e10, e11⟩ := CellsAt.ev K4
    have HB4 := Lib.hid (HB.out.trans (B4.mono HB.out.size))
    have HO4 := Lib.hid (bld_move HO.out B4 (Nat.le_refl _))
    have HE := Lib.hid (fun W => encoding_u x HVX.out W)
    rw [Ev.val_mk] at HE
    have HXS := Lib.hid (encT_size HVX.out)
    have HXB := Lib.hid (show (encT x).data.toList = encE x from by unfold encT; rfl)
    generalize encT x = X at *
    clear hxc G3 K4 B4 B3 hlt
    go_upto_region 6 with fail
    clear V3 V4 g0 g0' g1 g1' g2 g2' g3 g3' g4 g4' g5 g5' g6 g6' g7 g7' g8 g8' g9 g9' g10 g10' g11 g11' d0 d1 d2 d3 d4 d5 d6 d7 d8 d9 d10 d11
    go_wp2_with fail
    refine (HE.out _).mono ?_
    rintro e z ⟨rfl, hz⟩
    have HZ := Lib.hid (show Below w1.heap.size w1 z from HB4.out.trans (hz.mono HB4.out.size))
    have HO5 := Lib.hid (bld_move HO4.out hz (Nat.le_refl _))
    clear hz e0 e1 e2 e3 e4 e5 e6 e7 e8 e9 e10 e11 HO4
    have HWR := Lib.hid (write9 (w.heap.size + 1) (w.heap.size + 1) (Lib.byteCells (Q0 ++ P)) X z HO5.out (by rw [Lib.byteCells_length, List.length_append]; have := HS0.out; have := HLP.out; have := HXS.out; omega) (by have := HZ.out.size; omega))
    go_wp2_with fail
    refine HWR.out.mono ?_
    rintro e z2 ⟨rfl, h2, h3, _⟩
    have HZ2 := Lib.hid (show Below w1.heap.size w1 z2 from HZ.out.trans (by rw [← Z1] at h3; exact h3))
    have HO6 := Lib.hid (show BldAt (w.heap.size + 1) (w.heap.size + 1) (Q0 ++ P ++ encE x) z2 from bld_step HXB.out h2)
    clear h2 h3 HWR HO5
    go_wp2_with fail
    go_roundw
    case rel => exact ⟨k + 1, by go_num, HLT.out, by rw [HT.out, ← List.append_assoc]; exact HO6, HZ2⟩
    case measure => have := HLT.out; simp [RowKit.intOf]; omega
  · have hke : k = b.ev.length := by omega
    have hki : ¬ (k : Int) < (b.ev.length : Int) := by omega
    have HO2 := Lib.hid (show BldAt (w.heap.size + 1) (w.heap.size + 1) (Q0 ++ encEs b.ev) wr from by rw [← HTA.out, ← hke]; exact HO.out)
    have HLP := Lib.hid (show (encEs b.ev).length ≤ 2592 from by have := HES.out b.ev.length; rw [HTA.out, List.length_take] at this; omega)
    obtain ⟨y0, y1, y2, y3, y4⟩ := HKB.out wr HB.out
    have HWR := Lib.hid (write9 (w.heap.size + 1) (w.heap.size + 1) (Lib.byteCells (Q0 ++ encEs b.ev)) b.hd wr HO2.out (by rw [Lib.byteCells_length, List.length_append]; have := HS0.out; have := HLP.out; have := HHS.out; omega) (by have := HB.out.size; omega))
    clear hke hlt HO
    go_wp2_with fail
    refine HWR.out.mono ?_
    rintro e z2 ⟨rfl, h2, h3, _⟩
    have HZ2 := Lib.hid (show Below w1.heap.size w1 z2 from HB.out.trans (by rw [← Z1] at h3; exact h3))
    have HO6 := Lib.hid (show BldAt (w.heap.size + 1) (w.heap.size + 1) (Q0 ++ encEs b.ev ++ b.hd.data.toList) z2 from bld_step rfl h2)
    clear h2 h3 HWR HO2 y0 y1 y2 y3 y4
    have HST := Lib.hid (string9 (w.heap.size + 1) (w.heap.size + 1) _ z2 HO6.out (by have := HZ2.out.size; omega))
    rw [← HFIN.out] at HST
    go_wp2_with fail
    refine HST.out.mono ?_
    rintro e z3 ⟨rfl, h1⟩
    have HZ3 := Lib.hid (show Below w.heap.size w z3 from HB1.out.trans ((HZ2.out.trans (by rw [← Z1] at h1; exact h1)).mono HB1.out.size))
    clear h1 HST
    go_wp2_with fail
    go_ret
    exact ⟨rfl, HZ3.out⟩
end Go.Proofs.YtnpfhcnjkekhbaaGreatDoor

namespace Go.Proofs.YtnpfhcnjkekhbaaGreatDoor
open Go Go.Proofs Go.RowKit Go.Lib Go.Maps
theorem str_eq_iff (a b : ByteArray) : (a.toList == b.toList) = decide (a = b) := by
 rw [ByteArray.toList_eq, ByteArray.toList_eq, Bool.eq_iff_iff, beq_iff_eq, decide_eq_true_eq]
 exact ⟨fun h => ba_ext h, fun h => by rw [h]⟩
def encBV (b : Bt) : ByteArray := if btB b = true then encBT b else ByteArray.empty
def encBN (b : Bt) : Int := if btB b = true then 0 else 90
theorem encodeBatch_u (b : Bt) (ad : Option Addr) (c : Nat) (hl : b.ev.length ≤ maxLen) (hw : evsW b.ev) (w : World) (hR : Rdy w) (hI : RL KE w ad b.ev) :
 Calls Tryz.prog 13 #[.agg #[.int .i64 b.ag, .int .i64 b.fs, .slice ad b.ev.length c, .int .i64 b.lw, .string b.hd]] w fun e w' => e = .returned (.tuple #[.string (encBV b), .int .i64 (encBN b)]) ∧ Below w.heap.size w w' := by
 obtain ⟨w1, V1, Z1, B1, KB⟩ := btbox9 w b ad c
 obtain ⟨y0, y1, y2, y3, y4⟩ := KB w1 (Below.refl _ _)
 have HB := Lib.hid B1
 have HKB := Lib.hid KB
 have HE := Lib.hid (validB_u b ad c hl hw w1 (hR.below B1) (hI.below B1))
 have HN := Lib.hid (fun W (bw : Below w1.heap.size w1 W) (h : btB b = true) => batchEncoding_u b h ad c W (hI.below (below_up8 B1 bw)))
 obtain ⟨S, hS⟩ : ∃ S, encBV b = S := ⟨_, rfl⟩
 obtain ⟨C, hC⟩ : ∃ C, encBN b = C := ⟨_, rfl⟩
 rw [hS, hC]
 have HS := Lib.hid hS
 have HCC := Lib.hid hC
 clear hl hw hR hI B1 KB Z1 hS hC
 cases hv : btB b with
 | true =>
  have HSV := Lib.hid (show S = encBT b from by rw [← HS.out]; unfold encBV; rw [if_pos hv])
  have HCV := Lib.hid (show C = 0 from by rw [← HCC.out]; unfold encBN; rw [if_pos hv])
  have HN := Lib.hid (fun W bw => HN.out W bw hv)
  rw [hv] at HE
  rw [← HSV.out] at HN
  clear hv
  go_enter Tryz.func13, Tryz.ntmps13
  go_wp2_with fail
  refine HE.out.mono ?_
  rintro e z ⟨rfl, hz⟩
  have HZ := Lib.hid hz
  clear hz V1 y0 y1 y2 y3 y4
  obtain ⟨y0, y1, y2, y3, y4⟩ := HKB.out z HZ.out
  go_wp2_with fail
  refine (HN.out _ HZ.out).mono ?_
  rintro e z2 ⟨rfl, hz⟩
  have HZ2 := Lib.hid (below_up8 HB.out (below_up8 HZ.out hz))
  clear hz y0 y1 y2 y3 y4
  go_wp2_with fail
  go_ret2
  exact ⟨by rw [HCV.out]; rfl, HZ2.out⟩
 | false =>
  have HSV := Lib.hid (show S = ByteArray.empty from by rw [← HS.out]; unfold encBV; rw [if_neg (by rw [hv]; decide)])
  have HCV := Lib.hid (show C = 90 from by rw [← HCC.out]; unfold encBN; rw [if_neg (by rw [hv]; decide)])
  rw [hv] at HE
  clear hv
  go_enter Tryz.func13, Tryz.ntmps13
  go_wp2_with fail
  refine HE.out.mono ?_
  rintro e z ⟨rfl, hz⟩
  have HZ := Lib.hid (below_up8 HB.out hz)
  clear hz V1 y0 y1 y2 y3 y4
  go_wp2_with fail
  go_ret2
  exact ⟨by rw [HCV.out, HSV.out]; rfl, HZ.out⟩
noncomputable def folB9 (h : ByteArray) (b : Bt) : Bool := decide (h.size = 32) && btB b && decide (chH chainF h b.ev = b.hd)
theorem follows9_u (h : ByteArray) (b : Bt) (ad : Option Addr) (c : Nat) (hl : b.ev.length ≤ maxLen) (hw : evsW b.ev) (w : World) (hR : Rdy w) (hD : Ready w) (hI : RL KE w ad b.ev) :
 Calls Tryz.prog 19 #[.string h, .agg #[.int .i64 b.ag, .int .i64 b.fs, .slice ad b.ev.length c, .int .i64 b.lw, .string b.hd]] w fun e w' => e = .returned (.bool (folB9 h b)) ∧ Below w.heap.size w w' := by
 obtain ⟨w1, V1, Z1, B1, KB⟩ := btbox9 w b ad c
 have HB := Lib.hid B1
 have HKB := Lib.hid KB
 have HH := Lib.hid (fun W => (isHead_u h W).mono (R' := fun e w' => e = .returned (.bool (decide (h.size = 32))) ∧ Below W.heap.size W w') (fun e w' p => ⟨p.1, p.2 ▸ Below.refl _ _⟩))
 have HE := Lib.hid (fun W (bw : Below w1.heap.size w1 W) => validB_u b ad c hl hw W (hR.below (below_up8 B1 bw)) (hI.below (below_up8 B1 bw)))
 have HCH := Lib.hid (fun W (bw : Below w1.heap.size w1 W) (h1 : h.size = 32) (h2 : btB b = true) => chain_u h (by omega) ad c b.ev hl (fun x hx => numB_ev (btB_of h2).2.2.2.2.2 x hx) W (hD.below (below_up8 B1 bw)) (hI.below (below_up8 B1 bw)))
 obtain ⟨R, hRR⟩ : ∃ R, folB9 h b = R := ⟨_, rfl⟩
 rw [hRR]
 have HRR := Lib.hid hRR
 clear hl hw hR hD hI B1 KB Z1 hRR
 by_cases hh : h.size = 32
 · have HHT := Lib.hid hh
   rw [decide_eq_true hh] at HH
   clear hh
   cases hv : btB b with
   | true =>
    have HVT := Lib.hid hv
    rw [hv] at HE
    have HCH := Lib.hid (fun W bw => HCH.out W bw HHT.out HVT.out)
    have HEQ := Lib.hid (show R = decide (chH chainF h b.ev = b.hd) from by rw [← HRR.out]; unfold folB9; rw [decide_eq_true HHT.out, HVT.out]; rfl)
    generalize chH chainF h b.ev = P at *
    clear hv
    by_cases hp : P = b.hd
    · subst hp
      have HF := Lib.hid (show R = true from by rw [HEQ.out]; exact decide_eq_true rfl)
      go_enter Tryz.func19, Tryz.ntmps19
      go_upto_region 1 with fail
      go_cut [4] from 5 to 19 (fun s4 wx => s4 = .bool true ∧ Hid (Below w1.heap.size w1 wx))
      case first =>
       clear V1
       have y0 := fun d os => (HKB.out _ (below_regrown w1 d os)).1
       have y1 := fun d os => (HKB.out _ (below_regrown w1 d os)).2.1
       have y2 := fun d os => (HKB.out _ (below_regrown w1 d os)).2.2.1
       have y3 := fun d os => (HKB.out _ (below_regrown w1 d os)).2.2.2.1
       have y4 := fun d os => (HKB.out _ (below_regrown w1 d os)).2.2.2.2
       refine wp_region_quiet_below (by kernel_rfl) (by kernel_rfl) ?_
       repeat (first | go_big_quiet_step ((first | fail | (go_at_call 47; exact Calls.regrown_of (HH.out _)) | (go_at_call 15; exact Calls.regrown_of (HE.out _ (below_regrown _ _ _))) | (go_at_call 51; exact Calls.regrown_of (HCH.out _ (below_regrown _ _ _))))) | quiet_step ((first | fail | (go_at_call 47; exact Calls.regrown_of (HH.out _)) | (go_at_call 15; exact Calls.regrown_of (HE.out _ (below_regrown _ _ _))) | (go_at_call 51; exact Calls.regrown_of (HCH.out _ (below_regrown _ _ _))))))
       refine wpQuiet_nil ?_
       intro _ hw'
       obtain ⟨⟨dq, osq⟩, hw''⟩ := hw'
       subst hw''
       go_wp2_with fail
       go_meet
       exact ⟨by first | rfl | simp | (simp; exact fun e => hp (by rw [beq_eq_false_iff_ne] at hp2; exact absurd e hp2)), Lib.hid (below_regrown _ _ _)⟩
      case rest =>
       obtain ⟨rfl, HZ⟩ := hcut
       generalize wc = w5 at *
       go_wp2_with fail
       go_ret
       exact ⟨by rw [HF.out]; rfl, below_up8 HB.out HZ.out⟩
    · have HF := Lib.hid (show R = false from by rw [HEQ.out]; exact decide_eq_false hp)
      have hp2 : (P.toList == b.hd.toList) = false := by rw [str_eq_iff, decide_eq_false hp]
      go_enter Tryz.func19, Tryz.ntmps19
      go_upto_region 1 with fail
      go_cut [4] from 5 to 19 (fun s4 wx => s4 = .bool false ∧ Hid (Below w1.heap.size w1 wx))
      case first =>
       clear V1
       have y0 := fun d os => (HKB.out _ (below_regrown w1 d os)).1
       have y1 := fun d os => (HKB.out _ (below_regrown w1 d os)).2.1
       have y2 := fun d os => (HKB.out _ (below_regrown w1 d os)).2.2.1
       have y3 := fun d os => (HKB.out _ (below_regrown w1 d os)).2.2.2.1
       have y4 := fun d os => (HKB.out _ (below_regrown w1 d os)).2.2.2.2
       refine wp_region_quiet_below (by kernel_rfl) (by kernel_rfl) ?_
       repeat (first | go_big_quiet_step ((first | fail | (go_at_call 47; exact Calls.regrown_of (HH.out _)) | (go_at_call 15; exact Calls.regrown_of (HE.out _ (below_regrown _ _ _))) | (go_at_call 51; exact Calls.regrown_of (HCH.out _ (below_regrown _ _ _))))) | quiet_step ((first | fail | (go_at_call 47; exact Calls.regrown_of (HH.out _)) | (go_at_call 15; exact Calls.regrown_of (HE.out _ (below_regrown _ _ _))) | (go_at_call 51; exact Calls.regrown_of (HCH.out _ (below_regrown _ _ _))))))
       refine wpQuiet_nil ?_
       intro _ hw'
       obtain ⟨⟨dq, osq⟩, hw''⟩ := hw'
       subst hw''
       go_wp2_with fail
       go_meet
       exact ⟨by first | rfl | simp | (simp; exact fun e => hp (by rw [beq_eq_false_iff_ne] at hp2; exact absurd e hp2)), Lib.hid (below_regrown _ _ _)⟩
      case rest =>
       obtain ⟨rfl, HZ⟩ := hcut
       generalize wc = w5 at *
       go_wp2_with fail
       go_ret
       exact ⟨by rw [HF.out]; rfl, below_up8 HB.out HZ.out⟩
   | false =>
    have HF := Lib.hid (show R = false from by rw [← HRR.out]; unfold folB9; rw [hv, Bool.and_false]; rfl)
    rw [hv] at HE
    clear hv
    go_enter Tryz.func19, Tryz.ntmps19
    go_upto_region 1 with fail
    go_cut [4] from 5 to 19 (fun s4 wx => s4 = .bool false ∧ Hid (Below w1.heap.size w1 wx))
    case first =>
     clear V1
     have y0 := fun d os => (HKB.out _ (below_regrown w1 d os)).1
     have y1 := fun d os => (HKB.out _ (below_regrown w1 d os)).2.1
     have y2 := fun d os => (HKB.out _ (below_regrown w1 d os)).2.2.1
     have y3 := fun d os => (HKB.out _ (below_regrown w1 d os)).2.2.2.1
     have y4 := fun d os => (HKB.out _ (below_regrown w1 d os)).2.2.2.2
     refine wp_region_quiet_below (by kernel_rfl) (by kernel_rfl) ?_
     repeat (first | go_big_quiet_step ((first | fail | (go_at_call 47; exact Calls.regrown_of (HH.out _)) | (go_at_call 15; exact Calls.regrown_of (HE.out _ (below_regrown _ _ _))))) | quiet_step ((first | fail | (go_at_call 47; exact Calls.regrown_of (HH.out _)) | (go_at_call 15; exact Calls.regrown_of (HE.out _ (below_regrown _ _ _))))))
     refine wpQuiet_nil ?_
     intro _ hw'
     obtain ⟨⟨dq, osq⟩, hw''⟩ := hw'
     subst hw''
     go_wp2_with fail
     go_meet
     exact ⟨by first | rfl | simp | (simp; exact fun e => hp (by rw [beq_eq_false_iff_ne] at hp2; exact absurd e hp2)), Lib.hid (below_regrown _ _ _)⟩
    case rest =>
     obtain ⟨rfl, HZ⟩ := hcut
     generalize wc = w5 at *
     go_wp2_with fail
     go_ret
     exact ⟨by rw [HF.out]; rfl, below_up8 HB.out HZ.out⟩
 · have HF := Lib.hid (show R = false from by rw [← HRR.out]; unfold folB9; rw [decide_eq_false hh]; rfl)
   rw [decide_eq_false hh] at HH
   clear hh
   go_enter Tryz.func19, Tryz.ntmps19
   go_upto_region 1 with fail
   go_cut [4] from 5 to 19 (fun s4 wx => s4 = .bool false ∧ Hid (Below w1.heap.size w1 wx))
   case first =>
    clear V1
    have y0 := fun d os => (HKB.out _ (below_regrown w1 d os)).1
    have y1 := fun d os => (HKB.out _ (below_regrown w1 d os)).2.1
    have y2 := fun d os => (HKB.out _ (below_regrown w1 d os)).2.2.1
    have y3 := fun d os => (HKB.out _ (below_regrown w1 d os)).2.2.2.1
    have y4 := fun d os => (HKB.out _ (below_regrown w1 d os)).2.2.2.2
    refine wp_region_quiet_below (by kernel_rfl) (by kernel_rfl) ?_
    repeat (first | go_big_quiet_step ((first | fail | (go_at_call 47; exact Calls.regrown_of (HH.out _)))) | quiet_step ((first | fail | (go_at_call 47; exact Calls.regrown_of (HH.out _)))))
    refine wpQuiet_nil ?_
    intro _ hw'
    obtain ⟨⟨dq, osq⟩, hw''⟩ := hw'
    subst hw''
    go_wp2_with fail
    go_meet
    exact ⟨by first | rfl | simp | (simp; exact fun e => hp (by rw [beq_eq_false_iff_ne] at hp2; exact absurd e hp2)), Lib.hid (below_regrown _ _ _)⟩
   case rest =>
    obtain ⟨rfl, HZ⟩ := hcut
    generalize wc = w5 at *
    go_wp2_with fail
    go_ret
    exact ⟨by rw [HF.out]; rfl, below_up8 HB.out HZ.out⟩
end Go.Proofs.YtnpfhcnjkekhbaaGreatDoor

namespace Go.Proofs.YtnpfhcnjkekhbaaGreatDoor
open Go Go.Proofs Go.RowKit Go.Lib Go.Sort
theorem rl_piece9 {T : Type} {K : RowK T} {W : World} {ad : Option Addr} {l : List T} {n c i m : Nat} (h : RL K W ad l) (hl : l.length = n) (hc : n ≤ c) (hi : i + m ≤ n) :
 RL K W (if c = i then ad else ad.map (·.add (i * K.n))) ((l.drop i).take m) := by
 rcases h with h | ⟨b, o, h1, h2, h3⟩
 · subst h; exact .inl (by simp)
 · subst h1
   by_cases e : c = i
   · refine .inl ?_
     have : m = 0 := by omega
     subst this
     simp
   · rw [if_neg e]
     have := RL.sub (K := K) (.inr ⟨b, o, rfl, h2, h3⟩ : RL K W (some ⟨b, o, none⟩) l) i m (by omega)
     rw [Option.map_some, add_at8, Nat.mul_comm]
     exact this
theorem RowK.size9 {T : Type} (K : RowK T) (w : World) : (Go.sizeOf (Tryz.prog.elem K.st)).run Tryz.prog w = .ok K.n w := by
 obtain ⟨i0, hi, hz0, hz1, hz2⟩ := info_parts K.info
 rw [← K.elem] at hi
 simp [sizeOf, typeInfo, hi, Result.andThen, hz1]
theorem RowK.cut9 {T : Type} (K : RowK T) (ad : Option Addr) (n c : Nat) (i j : Int) (h0 : 0 ≤ i) (h1 : i ≤ j) (h2 : j ≤ (n : Int)) (hc : n ≤ c) (hn : ad = none → c = 0) :
 ∃ ad', (∀ w, (Instr.slice K.st (.slice ad n c) (some (.int .i64 i)) (some (.int .i64 j)) none).run Tryz.prog w = .ok (.slice ad' (j.toNat - i.toNat) (c - i.toNat)) w) ∧
  (∀ W l, RL K W ad l → l.length = n → RL K W ad' ((l.drop i.toNat).take (j.toNat - i.toNat))) ∧ (ad' = none → c - i.toNat = 0) := by
 have hu := K.und
 rw [← K.elem] at hu
 refine ⟨if c = i.toNat then ad else ad.map (·.add (i.toNat * K.n)), fun w => ?_, fun W l h hl => rl_piece9 h hl hc (by omega), fun h => ?_⟩
 · rw [run_slice_lh w _ _ _ _ hu .i64 .i64 _ _ h0 h1 (by omega), K.size9]
   rfl
 · split at h
   · omega
   · cases ad with
     | none => have := hn rfl; omega
     | some a => cases h
theorem RowK.from9 {T : Type} (K : RowK T) (ad : Option Addr) (n c : Nat) (i : Int) (h0 : 0 ≤ i) (h2 : i ≤ (n : Int)) (hc : n ≤ c) :
 ∃ ad', (∀ w, (Instr.slice K.st (.slice ad n c) (some (.int .i64 i)) none none).run Tryz.prog w = .ok (.slice ad' (n - i.toNat) (c - i.toNat)) w) ∧
  (∀ W l, RL K W ad l → l.length = n → RL K W ad' (l.drop i.toNat)) := by
 have hu := K.und
 rw [← K.elem] at hu
 refine ⟨if c = i.toNat then ad else ad.map (·.add (i.toNat * K.n)), fun w => ?_, fun W l h hl => ?_⟩
 · rw [run_slice_l w _ _ _ _ hu .i64 _ h0 h2, K.size9]
   rfl
 · have := rl_piece9 (m := n - i.toNat) (i := i.toNat) h hl hc (by omega)
   rwa [List.take_of_length_le (by rw [List.length_drop]; omega)] at this
structure BV where
 (ag fs : Int) (ad : Option Addr) (n c : Nat) (lw : Int) (hd : ByteArray)
def BV.cells (x : BV) : List Value := [.int .i64 x.ag, .int .i64 x.fs, .slice x.ad x.n x.c, .int .i64 x.lw, .string x.hd]
def BV.val (x : BV) : Value := .agg #[.int .i64 x.ag, .int .i64 x.fs, .slice x.ad x.n x.c, .int .i64 x.lw, .string x.hd]
def KB9 : RowK BV where
 n := 5
 bytes := 64
 et := 26
 st := 35
 zero := .agg #[.int .i64 0, .int .i64 0, .slice none 0 0, .int .i64 0, .string .empty]
 cs := BV.cells
 len := fun _ => rfl
 one := fun x u hu => by
  simp [BV.cells] at hu
  rcases hu with rfl | rfl | rfl | rfl | rfl <;> rfl
 pos := by decide
 bb := by decide
 und := by kernel_rfl
 elem := by kernel_rfl
 info := by kernel_rfl
 zs := rfl
structure PV where
 (i : Nat) (ad : Option Addr) (c : Nat) (hd : ByteArray)
def PV.bv (ag : Int) (x y : List Int) (p : PV) : BV := ⟨ag, endK x p.i, p.ad, (x.getD p.i 0).toNat, p.c, y.getD p.i 0, p.hd⟩
theorem parts_u (ag : Int) (a1 : Option Addr) (n1 c1 : Nat) (a2 : Option Addr) (n2 c2 : Nat) (a3 : Option Addr) (n3 c3 : Nat) (w : World) : Calls Tryz.prog 60 #[.int .i64 ag, .slice a1 n1 c1, .slice a2 n2 c2, .slice a3 n3 c3] w fun e w' =>
 e = .returned (.func (.func 83) #[] #[.pointer (some ⟨w.heap.size + 1 + 1, 0, none⟩), .pointer (some ⟨w.heap.size + 1, 0, none⟩), .pointer (some ⟨w.heap.size, 0, none⟩), .pointer (some ⟨w.heap.size + 1 + 1 + 1, 0, none⟩)]) ∧
 (((w.alloc (.cells #[.int .i64 ag] 3)).alloc (.cells #[.slice a1 n1 c1] 24)).alloc (.cells #[.slice a2 n2 c2] 28)).alloc (.cells #[.slice a3 n3 c3] 28) = w' := by
 go_enter Tryz.func60, Tryz.ntmps60
 go_wp2
 go_ret
 exact ⟨rfl, rfl⟩
def Kp9 (n p : Nat) (A B : World) : Prop := n ≤ p → p + 4 ≤ A.heap.size → Below n A B ∧ (∀ k, p ≤ k → k < p + 4 → B.heap[k]? = A.heap[k]?) ∧ ∀ (k : Nat) (cs : Array Value) (fz : Nat × Nat), A.heap[k]? = some (Obj.cells cs 23 fz) → B.heap[k]? = A.heap[k]?
theorem Kp9.trans {n p : Nat} (A B C : World) (h : Kp9 n p A B) (k : Kp9 n p B C) : Kp9 n p A C := fun h1 h2 => by
 obtain ⟨a1, a2, a3⟩ := h h1 h2
 obtain ⟨b1, b2, b3⟩ := k h1 (Nat.le_trans h2 a1.size)
 exact ⟨a1.trans b1, fun q x y => (b2 q x y).trans (a2 q x y), fun q cs fz hq => (b3 q cs fz ((a3 q cs fz hq).trans hq)).trans (a3 q cs fz hq)⟩
theorem Kp9.grow {n p : Nat} (A B : World) (h : Below A.heap.size A B) : Kp9 n p A B := fun h1 h2 =>
 ⟨h.mono (by omega), fun k _ y => h.block k (by omega), fun k cs fz hk => h.block k (Array.getElem?_eq_some_iff.1 hk).1⟩
theorem Kp9.loop {n p q : Nat} (hq : p + 4 ≤ q) (W : World) {r} (o : Obj) (h : W.heap[q]? = some (.loop r)) : Kp9 n p W (W.putObj q o) := fun h1 _ => by
 refine ⟨(Below.refl n W).grown (grownBy_putObj' W q o) (by have := (Array.getElem?_eq_some_iff.1 h).1; omega) (fun k e => by cases e; omega), fun k _ y => World.putObj_heap_other (by omega), fun k cs fz hk => World.putObj_heap_other (fun e => ?_)⟩
 subst e
 rw [h] at hk
 cases hk
theorem own_type9 {A B : World} {n : Nat} {v : Value} {l : List Ev} (h : Own KE A n v l) (hk : ∀ (k : Nat) (cs : Array Value) (fz : Nat × Nat), n ≤ k → A.heap[k]? = some (Obj.cells cs 23 fz) → B.heap[k]? = A.heap[k]?) : Own KE B n v l := by
 refine own_move8 h fun j hj => ?_
 rcases h.2 with ⟨hv, _⟩ | ⟨g, cap, cur, hv, _, hg, _⟩
 · rw [hv] at hj; cases hj
 · rw [hv] at hj
   have e : g = j := by injection hj
   subst e
   exact hk _ _ _ (h.ge _ (by rw [hv]; rfl)).1 hg
def evP (l : List Ev) (x : List Int) (i : Nat) : List Ev := (l.drop (endK x i).toNat).take (x.getD i 0).toNat
def Tp9 (n : Nat) (l : List Ev) (x : List Int) (ps : List PV) (W : World) : Prop := ∀ j (h : j < ps.length), ps[j].i = j ∧ ps[j].hd = chH chainF zz32 (l.take (endK x (j + 1)).toNat) ∧ Own KE W n (.slice ps[j].ad (x.getD j 0).toNat ps[j].c) (evP l x j)
theorem Tp9.kept {n : Nat} {l : List Ev} {x : List Int} {ps : List PV} {A B : World} (h : Tp9 n l x ps A) (hk : ∀ (k : Nat) (cs : Array Value) (fz : Nat × Nat), n ≤ k → A.heap[k]? = some (Obj.cells cs 23 fz) → B.heap[k]? = A.heap[k]?) : Tp9 n l x ps B :=
 fun j hj => ⟨(h j hj).1, (h j hj).2.1, own_type9 (h j hj).2.2 hk⟩
theorem Tp9.grow {n : Nat} {l : List Ev} {x : List Int} {ps : List PV} {A B : World} (h : Tp9 n l x ps A) (hb : Below A.heap.size A B) : Tp9 n l x ps B :=
 h.kept fun k _ _ _ hk => hb.block k (Array.getElem?_eq_some_iff.1 hk).1
theorem Tp9.base {n n' : Nat} {l : List Ev} {x : List Int} {ps : List PV} {A : World} (h : Tp9 n l x ps A) (hn : n' ≤ n) : Tp9 n' l x ps A := fun j hj => ⟨(h j hj).1, (h j hj).2.1, (h j hj).2.2.base hn⟩
theorem Tp9.snoc {n : Nat} {l : List Ev} {x : List Int} {ps : List PV} {p : PV} {A : World} (h : Tp9 n l x ps A) (h1 : p.i = ps.length) (h2 : p.hd = chH chainF zz32 (l.take (endK x (ps.length + 1)).toNat)) (h3 : Own KE A n (.slice p.ad (x.getD ps.length 0).toNat p.c) (evP l x ps.length)) : Tp9 n l x (ps ++ [p]) A := fun j hj => by
 rw [List.length_append] at hj
 by_cases e : j < ps.length
 · rw [List.getElem_append_left e]
   exact h j e
 · have e2 : j = ps.length := by simp at hj; omega
   subst e2
   rw [List.getElem_append_right (Nat.le_refl _)]
   simp only [Nat.sub_self, List.getElem_cons_zero]
   exact ⟨h1, h2, h3⟩
end Go.Proofs.YtnpfhcnjkekhbaaGreatDoor

namespace Go.Proofs.YtnpfhcnjkekhbaaGreatDoor
open Go Go.Proofs Go.RowKit Go.Lib
def Ev.eqB (x y : Ev) : Bool := decide (x.ag = y.ag ∧ x.sq = y.sq ∧ x.tm = y.tm ∧ x.kd = y.kd ∧ x.tr = y.tr ∧ x.sp = y.sp ∧ x.lk = y.lk ∧ x.gn = y.gn ∧ x.op = y.op ∧ x.vr = y.vr ∧ x.pe = y.pe ∧ x.bt = y.bt)
theorem Ev.eqB_iff {x y : Ev} : x.eqB y = true ↔ x = y := by
 unfold Ev.eqB
 rw [decide_eq_true_eq]
 constructor
 · rcases x with ⟨x0, x1, x2, x3, x4, x5, x6, x7, x8, x9, x10, x11⟩
   rcases y with ⟨y0, y1, y2, y3, y4, y5, y6, y7, y8, y9, y10, y11⟩
   rintro ⟨h0, h1, h2, h3, h4, h5, h6, h7, h8, h9, h10, h11⟩
   dsimp only at h0 h1 h2 h3 h4 h5 h6 h7 h8 h9 h10 h11
   subst h0 h1 h2 h3 h4 h5 h6 h7 h8 h9 h10 h11
   rfl
 · rintro rfl
   simp
instance : DecidableEq Ev := fun a b => if h : a.eqB b = true then isTrue (Ev.eqB_iff.1 h) else isFalse fun e => h (Ev.eqB_iff.2 e)
theorem eq_ev9 (x y : Ev) (W : World) : (Op.equalIn 10000 23 (.agg #[.int .i64 x.ag, .int .i64 x.sq, .int .i64 x.tm, .int .i64 x.kd, .int .i64 x.tr, .int .i64 x.sp, .int .i64 x.lk, .int .i64 x.gn, .int .i64 x.op, .int .i64 x.vr, .int .i64 x.pe, .int .i64 x.bt]) (.agg #[.int .i64 y.ag, .int .i64 y.sq, .int .i64 y.tm, .int .i64 y.kd, .int .i64 y.tr, .int .i64 y.sp, .int .i64 y.lk, .int .i64 y.gn, .int .i64 y.op, .int .i64 y.vr, .int .i64 y.pe, .int .i64 y.bt])).run Tryz.prog W = .ok (x.eqB y) W := by
 unfold Ev.eqB
 rcases x with ⟨x0, x1, x2, x3, x4, x5, x6, x7, x8, x9, x10, x11⟩
 rcases y with ⟨y0, y1, y2, y3, y4, y5, y6, y7, y8, y9, y10, y11⟩
 dsimp only
 by_cases h0 : x0 = y0
 rotate_left
 · go_simp
 subst h0
 by_cases h1 : x1 = y1
 rotate_left
 · go_simp
 subst h1
 by_cases h2 : x2 = y2
 rotate_left
 · go_simp
 subst h2
 by_cases h3 : x3 = y3
 rotate_left
 · go_simp
 subst h3
 by_cases h4 : x4 = y4
 rotate_left
 · go_simp
 subst h4
 by_cases h5 : x5 = y5
 rotate_left
 · go_simp
 subst h5
 by_cases h6 : x6 = y6
 rotate_left
 · go_simp
 subst h6
 by_cases h7 : x7 = y7
 rotate_left
 · go_simp
 subst h7
 by_cases h8 : x8 = y8
 rotate_left
 · go_simp
 subst h8
 by_cases h9 : x9 = y9
 rotate_left
 · go_simp
 subst h9
 by_cases h10 : x10 = y10
 rotate_left
 · go_simp
 subst h10
 by_cases h11 : x11 = y11
 rotate_left
 · go_simp
 subst h11
 go_simp
end Go.Proofs.YtnpfhcnjkekhbaaGreatDoor

namespace Go.Proofs.YtnpfhcnjkekhbaaGreatDoor
open Go Go.Proofs Go.RowKit Go.Lib
theorem sameEvR9_any (a1 a2 : Option Addr) (c1 c2 : Nat) (l m : List Ev) (hl : l.length ≤ maxLen) (w : World) (h1 : RL KE w a1 l) (h2 : RL KE w a2 m) :
 Calls Tryz.prog 34 #[.slice a1 l.length c1, .slice a2 m.length c2] w fun e w' => e = .returned (.bool (decide (l = m))) ∧ Below w.heap.size w w' := by
 unfold maxLen at hl
 obtain ⟨R, hR⟩ : ∃ R, decide (l = m) = R := ⟨_, rfl⟩
 rw [hR]
 have HNO := Lib.hid (fun h : ¬ l = m => show R = false by rw [← hR]; exact decide_eq_false h)
 have HYES := Lib.hid (fun h : l = m => show R = true by rw [← hR]; exact decide_eq_true h)
 have HC := Lib.hid (fun k hk => h1.ev k hk); have HD := Lib.hid (fun k hk => h2.ev k hk)
 clear hR h1 h2
 go_enter Tryz.func34, Tryz.ntmps34
 by_cases hlen : l.length = m.length
 · have e0 : ((l.length : Int) != (m.length : Int)) = false := by rw [hlen]; simp
   have HLEN := Lib.hid hlen
   clear hlen
   go_wp2_with fail
   go_loopw [5] (fun i wr => ∃ k : Nat, k ≤ l.length ∧ i = .int .i64 k ∧ Hid (∀ j (hj : j < l.length) (hj2 : j < m.length), j < k → l[j] = m[j]) ∧ Hid (Below w.heap.size w wr)) (fun i _ => l.length - (RowKit.intOf i).toNat)
   case atStart => exact ⟨0, Nat.zero_le _, rfl, Lib.hid (fun j _ _ h => absurd h (Nat.not_lt_zero _)), Lib.hid (Below.refl _ _)⟩
   case round =>
    obtain ⟨k, hk, rfl, HK, HB⟩ := hrel
    by_cases hlt : k < l.length
    · have hki : (k : Int) < (l.length : Int) := by omega
      have hlt2 : k < m.length := by have := HLEN.out; omega
      obtain ⟨b, o, rfl, hb, cc⟩ := HC.out k hlt
      obtain ⟨b2, o2, rfl, hb2, cd⟩ := HD.out k hlt2
      have i1 := fun W => at_ev8 b o l.length c1 k hlt W
      have i2 := fun W => at_ev8 b2 o2 m.length c2 k hlt2 W
      have HST := Lib.hid (show l[k] = m[k] → ∀ j (hj : j < l.length) (hj2 : j < m.length), j < k + 1 → l[j] = m[j] from fun h j hj hj2 hjk => by
       rcases Nat.lt_or_ge j k with h9 | h9
       · exact HK.out j hj hj2 h9
       · have : j = k := by omega
         subst this; exact h)
      have HNE := Lib.hid (show l[k] ≠ m[k] → R = false from fun h => HNO.out (fun e => h (by congr 1)))
      have HLT := Lib.hid hlt
      have HCC := Lib.hid (fun W (bw : Below wr.heap.size wr W) => cc W (HB.out.trans (bw.mono HB.out.size)))
      have HDD := Lib.hid (fun W (bw : Below wr.heap.size wr W) => cd W (HB.out.trans (bw.mono HB.out.size)))
      generalize l[k]'hlt = x at *
      generalize m[k]'hlt2 = y at *
      clear cc cd hlt hlt2 hb hb2
      have heq := fun W => eq_ev9 x y W
      go_upto_region 6 with fail
      refine wp_region_noPanic ?_
      have e0 := fun d os => (HCC.out _ (below_regrown wr d os)).1
      have f0 := fun d os => (HDD.out _ (below_regrown wr d os)).1
      have e1 := fun d os => (HCC.out _ (below_regrown wr d os)).2.1
      have f1 := fun d os => (HDD.out _ (below_regrown wr d os)).2.1
      have e2 := fun d os => (HCC.out _ (below_regrown wr d os)).2.2.1
      have f2 := fun d os => (HDD.out _ (below_regrown wr d os)).2.2.1
      have e3 := fun d os => (HCC.out _ (below_regrown wr d os)).2.2.2.1
      have f3 := fun d os => (HDD.out _ (below_regrown wr d os)).2.2.2.1
      have e4 := fun d os => (HCC.out _ (below_regrown wr d os)).2.2.2.2.1
      have f4 := fun d os => (HDD.out _ (below_regrown wr d os)).2.2.2.2.1
      have e5 := fun d os => (HCC.out _ (below_regrown wr d os)).2.2.2.2.2.1
      have f5 := fun d os => (HDD.out _ (below_regrown wr d os)).2.2.2.2.2.1
      have e6 := fun d os => (HCC.out _ (below_regrown wr d os)).2.2.2.2.2.2.1
      have f6 := fun d os => (HDD.out _ (below_regrown wr d os)).2.2.2.2.2.2.1
      have e7 := fun d os => (HCC.out _ (below_regrown wr d os)).2.2.2.2.2.2.2.1
      have f7 := fun d os => (HDD.out _ (below_regrown wr d os)).2.2.2.2.2.2.2.1
      have e8 := fun d os => (HCC.out _ (below_regrown wr d os)).2.2.2.2.2.2.2.2.1
      have f8 := fun d os => (HDD.out _ (below_regrown wr d os)).2.2.2.2.2.2.2.2.1
      have e9 := fun d os => (HCC.out _ (below_regrown wr d os)).2.2.2.2.2.2.2.2.2.1
      have f9 := fun d os => (HDD.out _ (below_regrown wr d os)).2.2.2.2.2.2.2.2.2.1
      have e10 := fun d os => (HCC.out _ (below_regrown wr d os)).2.2.2.2.2.2.2.2.2.2.1
      have f10 := fun d os => (HDD.out _ (below_regrown wr d os)).2.2.2.2.2.2.2.2.2.2.1
      have e11 := fun d os => (HCC.out _ (below_regrown wr d os)).2.2.2.2.2.2.2.2.2.2.2
      have f11 := fun d os => (HDD.out _ (below_regrown wr d os)).2.2.2.2.2.2.2.2.2.2.2
      refine wp_region_quiet_below (by kernel_rfl) (by kernel_rfl) ?_
      repeat (first | go_big_quiet_step (fail) | quiet_step (fail))
      refine wpQuiet_nil ?_
      intro _ hw'
      obtain ⟨⟨dq, osq⟩, hw''⟩ := hw'
      subst hw''
      have HBX := Lib.hid (below_up8 HB.out (below_regrown wr dq osq))
      clear e0 f0 e1 f1 e2 f2 e3 f3 e4 f4 e5 f5 e6 f6 e7 f7 e8 f8 e9 f9 e10 f10 e11 f11
      skip
      cases hxy : x.eqB y with
      | true =>
       have HZ := Lib.hid (HST.out (Ev.eqB_iff.1 hxy))
       rw [hxy] at heq
       go_wp2_with fail
       refine NoPanic.normal ?_
       go_wp2_with fail
       go_roundw
       case rel => exact ⟨k + 1, HLT.out, by go_num, HZ, HBX⟩
       case measure => have h9 := HLT.out; simp [RowKit.intOf]; omega
      | false =>
       have HZ := Lib.hid (HNE.out (fun e => by have := Ev.eqB_iff.2 e; rw [hxy] at this; cases this))
       rw [hxy] at heq
       go_wp2_with fail
       refine NoPanic.normal ?_
       go_wp2_with fail
       go_ret
       exact ⟨by rw [HZ.out]; rfl, HBX.out⟩
    · obtain rfl : k = l.length := by omega
      have HF := Lib.hid (HYES.out (List.ext_getElem HLEN.out (fun j h1 h2 => HK.out j h1 h2 h1)))
      have hki : ¬ (l.length : Int) < (l.length : Int) := by omega
      go_wp2_with fail
      go_ret
      exact ⟨by rw [HF.out]; rfl, HB.out⟩
 · have e0 : ((l.length : Int) != (m.length : Int)) = true := by rw [bne_iff_ne]; omega
   have HF := Lib.hid (HNO.out (fun e => hlen (by rw [e])))
   go_wp2_with fail
   go_ret
   exact ⟨by rw [HF.out]; rfl, Below.refl _ _⟩
end Go.Proofs.YtnpfhcnjkekhbaaGreatDoor

namespace Go.Proofs.YtnpfhcnjkekhbaaGreatDoor
open Go Go.Proofs Go.RowKit Go.Lib
def Bt.eqB (x y : Bt) : Bool := decide (x.ag = y.ag ∧ x.fs = y.fs ∧ x.lw = y.lw ∧ x.hd = y.hd ∧ x.ev = y.ev)
theorem Bt.eqB_iff {x y : Bt} : x.eqB y = true ↔ x = y := by
 unfold Bt.eqB
 rw [decide_eq_true_eq]
 constructor
 · rcases x with ⟨a, b, c, d, e⟩
   rcases y with ⟨a', b', c', d', e'⟩
   rintro ⟨h1, h2, h3, h4, h5⟩
   dsimp only at h1 h2 h3 h4 h5
   subst h1 h2 h3 h4 h5
   rfl
 · rintro rfl
   simp
theorem sameR9_any (x y : Bt) (a1 a2 : Option Addr) (c1 c2 : Nat) (hl : x.ev.length ≤ maxLen) (w : World) (h1 : RL KE w a1 x.ev) (h2 : RL KE w a2 y.ev) :
 Calls Tryz.prog 26 #[.agg #[.int .i64 x.ag, .int .i64 x.fs, .slice a1 x.ev.length c1, .int .i64 x.lw, .string x.hd], .agg #[.int .i64 y.ag, .int .i64 y.fs, .slice a2 y.ev.length c2, .int .i64 y.lw, .string y.hd]] w fun e w' => e = .returned (.bool (x.eqB y)) ∧ Below w.heap.size w w' := by
 obtain ⟨w1, V1, Z1, B1, KB1⟩ := btbox9 w x a1 c1
 obtain ⟨w2, V2, Z2, B2, KB2⟩ := btbox9 w1 y a2 c2
 have HB := Lib.hid (below_up8 B1 B2)
 have HK1 := Lib.hid (fun W (b : Below w2.heap.size w2 W) => KB1 W (below_up8 B2 b))
 have HK2 := Lib.hid KB2
 have HSE := Lib.hid (fun W (b : Below w2.heap.size w2 W) => sameEvR9_any a1 a2 c1 c2 x.ev y.ev hl W (h1.below (below_up8 (below_up8 B1 B2) b)) (h2.below (below_up8 (below_up8 B1 B2) b)))
 obtain ⟨R, hR⟩ : ∃ R, x.eqB y = R := ⟨_, rfl⟩
 rw [hR]
 unfold Bt.eqB at hR
 have HR := Lib.hid hR
 clear hR h1 h2 hl B1 B2 KB1 KB2 Z1 Z2
 rcases x with ⟨xa, xf, xl, xe, xh⟩
 rcases y with ⟨ya, yf, yl, ye, yh⟩
 dsimp only at *
 generalize xe.length = nx at *
 generalize ye.length = ny at *
 obtain ⟨E, hE⟩ : ∃ E, decide (xe = ye) = E := ⟨_, rfl⟩
 rw [hE] at HSE
 have HE := Lib.hid hE
 clear hE
 by_cases h0 : xa = ya
 rotate_left
 · have e0 : (xa == ya) = false := by rw [beq_eq_false_iff_ne]; exact h0
   have HF := Lib.hid (show R = false from by rw [← HR.out]; exact decide_eq_false (fun e => h0 e.1))
   have y0 := (HK1.out _ (Below.refl _ _)).1
   have z0 := (HK2.out _ (Below.refl _ _)).1
   have y1 := (HK1.out _ (Below.refl _ _)).2.1
   have z1 := (HK2.out _ (Below.refl _ _)).2.1
   have y2 := (HK1.out _ (Below.refl _ _)).2.2.1
   have z2 := (HK2.out _ (Below.refl _ _)).2.2.1
   have y3 := (HK1.out _ (Below.refl _ _)).2.2.2.1
   have z3 := (HK2.out _ (Below.refl _ _)).2.2.2.1
   have y4 := (HK1.out _ (Below.refl _ _)).2.2.2.2
   have z4 := (HK2.out _ (Below.refl _ _)).2.2.2.2
   go_enter Tryz.func26, Tryz.ntmps26
   go_wp2_with fail
   go_ret
   exact ⟨by rw [HF.out]; rfl, HB.out⟩
 subst h0
 by_cases h1 : xf = yf
 rotate_left
 · have e1 : (xf == yf) = false := by rw [beq_eq_false_iff_ne]; exact h1
   have HF := Lib.hid (show R = false from by rw [← HR.out]; exact decide_eq_false (fun e => h1 e.2.1))
   have y0 := (HK1.out _ (Below.refl _ _)).1
   have z0 := (HK2.out _ (Below.refl _ _)).1
   have y1 := (HK1.out _ (Below.refl _ _)).2.1
   have z1 := (HK2.out _ (Below.refl _ _)).2.1
   have y2 := (HK1.out _ (Below.refl _ _)).2.2.1
   have z2 := (HK2.out _ (Below.refl _ _)).2.2.1
   have y3 := (HK1.out _ (Below.refl _ _)).2.2.2.1
   have z3 := (HK2.out _ (Below.refl _ _)).2.2.2.1
   have y4 := (HK1.out _ (Below.refl _ _)).2.2.2.2
   have z4 := (HK2.out _ (Below.refl _ _)).2.2.2.2
   go_enter Tryz.func26, Tryz.ntmps26
   go_wp2_with fail
   go_ret
   exact ⟨by rw [HF.out]; rfl, HB.out⟩
 subst h1
 by_cases h2 : xl = yl
 rotate_left
 · have e2 : (xl == yl) = false := by rw [beq_eq_false_iff_ne]; exact h2
   have HF := Lib.hid (show R = false from by rw [← HR.out]; exact decide_eq_false (fun e => h2 e.2.2.1))
   have y0 := (HK1.out _ (Below.refl _ _)).1
   have z0 := (HK2.out _ (Below.refl _ _)).1
   have y1 := (HK1.out _ (Below.refl _ _)).2.1
   have z1 := (HK2.out _ (Below.refl _ _)).2.1
   have y2 := (HK1.out _ (Below.refl _ _)).2.2.1
   have z2 := (HK2.out _ (Below.refl _ _)).2.2.1
   have y3 := (HK1.out _ (Below.refl _ _)).2.2.2.1
   have z3 := (HK2.out _ (Below.refl _ _)).2.2.2.1
   have y4 := (HK1.out _ (Below.refl _ _)).2.2.2.2
   have z4 := (HK2.out _ (Below.refl _ _)).2.2.2.2
   go_enter Tryz.func26, Tryz.ntmps26
   go_wp2_with fail
   go_ret
   exact ⟨by rw [HF.out]; rfl, HB.out⟩
 subst h2
 by_cases h3 : xh = yh
 rotate_left
 · have e3 : (xh.toList == yh.toList) = false := by rw [str_eq_iff, decide_eq_false h3]
   have HF := Lib.hid (show R = false from by rw [← HR.out]; exact decide_eq_false (fun e => h3 e.2.2.2.1))
   have y0 := (HK1.out _ (Below.refl _ _)).1
   have z0 := (HK2.out _ (Below.refl _ _)).1
   have y1 := (HK1.out _ (Below.refl _ _)).2.1
   have z1 := (HK2.out _ (Below.refl _ _)).2.1
   have y2 := (HK1.out _ (Below.refl _ _)).2.2.1
   have z2 := (HK2.out _ (Below.refl _ _)).2.2.1
   have y3 := (HK1.out _ (Below.refl _ _)).2.2.2.1
   have z3 := (HK2.out _ (Below.refl _ _)).2.2.2.1
   have y4 := (HK1.out _ (Below.refl _ _)).2.2.2.2
   have z4 := (HK2.out _ (Below.refl _ _)).2.2.2.2
   go_enter Tryz.func26, Tryz.ntmps26
   go_wp2_with fail
   go_ret
   exact ⟨by rw [HF.out]; rfl, HB.out⟩
 subst h3
 cases E with
 | true =>
  have HF := Lib.hid (show R = true from by rw [← HR.out]; exact decide_eq_true ⟨rfl, rfl, rfl, rfl, of_decide_eq_true HE.out⟩)
  have y0 := (HK1.out _ (Below.refl _ _)).1
  have z0 := (HK2.out _ (Below.refl _ _)).1
  have y1 := (HK1.out _ (Below.refl _ _)).2.1
  have z1 := (HK2.out _ (Below.refl _ _)).2.1
  have y2 := (HK1.out _ (Below.refl _ _)).2.2.1
  have z2 := (HK2.out _ (Below.refl _ _)).2.2.1
  have y3 := (HK1.out _ (Below.refl _ _)).2.2.2.1
  have z3 := (HK2.out _ (Below.refl _ _)).2.2.2.1
  have y4 := (HK1.out _ (Below.refl _ _)).2.2.2.2
  have z4 := (HK2.out _ (Below.refl _ _)).2.2.2.2
  go_enter Tryz.func26, Tryz.ntmps26
  go_wp2_with (go_at_call 34; refine (HSE.out _ (Below.refl _ _)).mono ?_; rintro e zz ⟨rfl, hz⟩)
  go_ret
  exact ⟨by rw [HF.out]; rfl, below_up8 HB.out hz⟩
 | false =>
  have HF := Lib.hid (show R = false from by rw [← HR.out]; exact decide_eq_false (fun e => of_decide_eq_false HE.out e.2.2.2.2))
  have y0 := (HK1.out _ (Below.refl _ _)).1
  have z0 := (HK2.out _ (Below.refl _ _)).1
  have y1 := (HK1.out _ (Below.refl _ _)).2.1
  have z1 := (HK2.out _ (Below.refl _ _)).2.1
  have y2 := (HK1.out _ (Below.refl _ _)).2.2.1
  have z2 := (HK2.out _ (Below.refl _ _)).2.2.1
  have y3 := (HK1.out _ (Below.refl _ _)).2.2.2.1
  have z3 := (HK2.out _ (Below.refl _ _)).2.2.2.1
  have y4 := (HK1.out _ (Below.refl _ _)).2.2.2.2
  have z4 := (HK2.out _ (Below.refl _ _)).2.2.2.2
  go_enter Tryz.func26, Tryz.ntmps26
  go_wp2_with (go_at_call 34; refine (HSE.out _ (Below.refl _ _)).mono ?_; rintro e zz ⟨rfl, hz⟩)
  go_ret
  exact ⟨by rw [HF.out]; rfl, below_up8 HB.out hz⟩
end Go.Proofs.YtnpfhcnjkekhbaaGreatDoor

namespace Go.Proofs.YtnpfhcnjkekhbaaGreatDoor
open Go Go.Proofs Go.RowKit Go.Lib
def zeros9 : Array Value := (List.replicate 32 (Value.int .u8 0)).toArray
theorem make_zero9 (W : World) :
 (Instr.makeSlice 42 (.int .i64 32) (.int .i64 32)).run Tryz.prog W = .ok (.slice (some ⟨W.heap.size, 0, none⟩) 32 32) (W.alloc (.cells zeros9 5)) := by
 obtain ⟨i0, hi, hz0, hz1, hz2⟩ := info_parts (show (Tryz.prog.info? 5).map (fun i => (i.zero, i.size, i.bytes)) = some (some (.int .u8 0), 1, 1) by kernel_rfl)
 have h := run_make (P := Tryz.prog) W 42 5 i0 (.int .u8 0) Tryz.underlying42 hi hz0 .i64 .i64 ((32 : Nat) : Int) ((32 : Nat) : Int) (by omega) (by omega) (by rw [hz2]; omega) (by decide)
 rw [hz1] at h
 have hm : madeCells (Value.int .u8 0).cells (32 * 1) = zeros9 := by kernel_rfl
 simpa [hm] using h
theorem zz32_at (i : Nat) (h : i < zz32.size) : zz32[i].toNat = 0 := by
 have : ∀ i : Fin 32, (zz32.data[i.val]'(by have := i.2; exact this)).toNat = 0 := by decide
 exact this ⟨i, h⟩
theorem conv_zero9 (W' : World) (g : Nat) (h : CellsAt W' g zeros9.toList) :
 (convert 42 9 (.slice (some ⟨g, 0, none⟩) 32 32)).run Tryz.prog W' = .ok (.string zz32) W' := by
 have hb : Bytes W' g 0 zz32 := by
  intro i hi
  have hi2 : i < 32 := hi
  have hk := (h i (by simpa [zeros9] using hi2)).1
  rw [zz32_at i hi, Nat.zero_add, hk]
  simp only [zeros9, List.toList_toArray, List.getElem_replicate]
  rfl
 exact run_convert_whole (P := Tryz.prog) W' 42 5 9 Tryz.underlying42 Tryz.underlying5 Tryz.underlying9 g 0 zz32 hb 32
theorem zeroR9_any (w : World) : Calls Tryz.prog 10 #[] w fun e w' => e = .returned (.string zz32) ∧ Below w.heap.size w w' := by
 obtain ⟨w1, V1, Z1, K1, B1⟩ := lay8 w zeros9.toList 5
 have HM := make_zero9 w
 rw [show w.alloc (.cells zeros9 5) = w1 from V1] at HM
 have HC := conv_zero9 w1 w.heap.size K1
 have HB := Lib.hid B1
 clear V1 Z1 K1 B1
 generalize zz32 = Z at *
 go_enter Tryz.func10, Tryz.ntmps10
 go_wp2_with fail
 go_ret
 exact ⟨rfl, HB.out⟩
end Go.Proofs.YtnpfhcnjkekhbaaGreatDoor

namespace Go.Proofs.YtnpfhcnjkekhbaaGreatDoor
open Go Go.Proofs Go.RowKit Go.Lib
def coll9 (x y : ByteArray) : Bool := decide (x ≠ y) && decide (sha x = sha y)
def colD (a b : List ByteArray) : Bool := a.any fun x => b.any fun y => coll9 x y
theorem colD_yes {a b : List ByteArray} {x y : ByteArray} (hx : x ∈ a) (hy : y ∈ b) (hn : x ≠ y) (h : sha x = sha y) : colD a b = true := by
 unfold colD
 rw [List.any_eq_true]
 refine ⟨x, hx, ?_⟩
 rw [List.any_eq_true]
 refine ⟨y, hy, ?_⟩
 unfold coll9
 rw [Bool.and_eq_true, decide_eq_true_eq, decide_eq_true_eq]
 exact ⟨hn, h⟩
theorem tagged_inj9 {t : UInt8} {a b : ByteArray} (h : tagged t a = tagged t b) : a = b := by
 have := congrArg (fun s : ByteArray => s.data.toList) h
 simp only [tagged, ByteArray.data_append, Array.toList_append] at this
 exact ByteArray.ext (Array.toList_inj.1 (List.append_cancel_left this))
theorem append_inj9 {a b c d : ByteArray} (h : a ++ b = c ++ d) (hs : a.size = c.size) : a = c ∧ b = d := by
 have := congrArg (fun s : ByteArray => s.data.toList) h
 simp only [ByteArray.data_append, Array.toList_append] at this
 have hl : a.data.toList.length = c.data.toList.length := by simpa using hs
 obtain ⟨e1, e2⟩ := List.append_inj this hl
 exact ⟨ByteArray.ext (Array.toList_inj.1 e1), ByteArray.ext (Array.toList_inj.1 e2)⟩
theorem encT_inj9 {a b : Ev} (ha : evB a = true) (hb : evB b = true) (h : encT a = encT b) : a = b := by
 have := congrArg (fun s : ByteArray => s.data.toList) h
 have : encE a = encE b := by simpa [encT] using this
 exact (encE_inj ha hb (p := []) (q := []) (by rw [this])).1
def chs9 (z : ByteArray) (l : List Ev) (i : Nat) : ByteArray := tagged 2 (chH chainF z (l.take i) ++ encT (evD l i))
def chsK (z : ByteArray) (l : List Ev) (k : Nat) : List ByteArray := (List.range k).map (chs9 z l)
def chsL (z : ByteArray) (l : List Ev) : List ByteArray := chsK z l l.length
theorem chs_mem {z : ByteArray} {l : List Ev} {i : Nat} (h : i < l.length) : chs9 z l i ∈ chsL z l := List.mem_map.2 ⟨i, List.mem_range.2 h, rfl⟩
theorem chH_get {z : ByteArray} {l : List Ev} {i : Nat} (h : i < l.length) : chH chainF z (l.take (i + 1)) = sha (chs9 z l i) := by
 rw [chH_take h]
 unfold chs9
 rw [evD_of h]
 rfl
theorem evB_evD {l : List Ev} (h : ∀ x ∈ l, evB x = true) {i : Nat} (hi : i < l.length) : evB (evD l i) = true := by
 rw [evD_of hi]
 exact h _ (List.getElem_mem hi)
theorem chain_binds9 {z : ByteArray} (hz : z.size = 32) {A B : List Ev} (hA : ∀ x ∈ A, evB x = true) (hB : ∀ x ∈ B, evB x = true) (hl : A.length = B.length) :
 ∀ k, k ≤ A.length → chH chainF z (A.take k) = chH chainF z (B.take k) → A.take k = B.take k ∨ colD (chsL z A) (chsL z B) = true
 | 0, _, _ => .inl rfl
 | k + 1, hk, h => by
  have hk1 : k < A.length := hk
  have hk2 : k < B.length := by omega
  rw [chH_get hk1, chH_get hk2] at h
  by_cases e : chs9 z A k = chs9 z B k
  · obtain ⟨e1, e2⟩ := append_inj9 (tagged_inj9 e) (by rw [chH_size chainF_size hz, chH_size chainF_size hz])
    have e3 := encT_inj9 (evB_evD hA hk1) (evB_evD hB hk2) e2
    rcases chain_binds9 hz hA hB hl k (by omega) e1 with h1 | h1
    · left
      rw [List.take_succ_eq_append_getElem hk1, List.take_succ_eq_append_getElem hk2, h1]
      rw [evD_of hk1, evD_of hk2] at e3
      rw [e3]
    · exact .inr h1
  · exact .inr (colD_yes (chs_mem hk1) (chs_mem hk2) e h)
theorem chain_bound9 {z : ByteArray} (hz : z.size = 32) {A B : List Ev} (hA : ∀ x ∈ A, evB x = true) (hB : ∀ x ∈ B, evB x = true) (hl : A.length = B.length) (h : chH chainF z A = chH chainF z B) : A = B ∨ colD (chsL z A) (chsL z B) = true := by
 have := chain_binds9 hz hA hB hl A.length (Nat.le_refl _) (by rw [List.take_length, hl, List.take_length]; exact h)
 rw [List.take_length, hl, List.take_length] at this
 exact this
end Go.Proofs.YtnpfhcnjkekhbaaGreatDoor
