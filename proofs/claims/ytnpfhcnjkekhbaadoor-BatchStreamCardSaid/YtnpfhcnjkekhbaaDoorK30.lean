/-
  Layer 9, the program: chain, Chain, Encode.
-/
import Derived.Test.YtnpfhcnjkekhbaaDoorProg
import Derived.Test.YtnpfhcnjkekhbaaDoorK23
import Derived.Test.YtnpfhcnjkekhbaaDoorK29
import Derived.Shelf.Strings.BuilderK
import Derived.Shelf.Strings.Repeat
import Derived.Maps.Own
import Derived.Maps.OwnOps
import Derived.Laws.Rows
import Derived.Laws.OwnMore
import Derived.OwnWalk
import Derived.WalkKit
import Derived.WalkLawsBesides
import Derived.Outline
import Derived.Lib.Hide
import Derived.Below
import Derived.BigQuiet
import Derived.Deep.QuietTactic
import Derived.Deep.RegionHeld3
import Derived.Lib.QuietBelow
import Derived.Deep.DeepCutAuto
import Derived.StillTail
import Derived.Lib.Varint
import Derived.Lib.SlBytesRow
import Derived.Shelf.Abstract
import Derived.OwnWalkIn
import Derived.TacticsInMore
import Derived.LoopNIn
import Derived.LoopIn
import Derived.RangeFuncNested
import Derived.RangeFuncBound
import Derived.RangeFuncCalls
import Derived.RangeFuncLeaves
import Derived.RangeFuncBox
import Derived.Lib.ConvBytes
import Derived.DefersIn
import Derived.Laws.CopyOwn
import Derived.RegionTactic
import Derived.ChangeAlike
import Derived.Deep.RegionWith
import Derived.Deep.CutRange
import Derived.IntWalk
import Derived.Lib.EndianBits
import Derived.Lib.Strings
import Derived.ControlIn
import Derived.WalkMore
import Derived.Lib.SliceRun
import Derived.RangeFuncRecord
import Derived.Shelf.LaysM
import Derived.Shelf.Strconv.Clone
set_option maxRecDepth 100000
set_option maxHeartbeats 16000000
namespace Go.Proofs.YtnpfhcnjkekhbaaDoor
open Go Go.Proofs Go.RowKit Go.Lib Go.Maps
open W1 (clone_any)
def chainV (h : ByteArray) (l : List Ev) : ByteArray := if h.size = 32 ∧ l.all evB = true then chH chainF h l else ByteArray.empty
def chainN (h : ByteArray) (l : List Ev) : Int := if h.size = 32 ∧ l.all evB = true then 0 else 90
theorem chainB_u (h : ByteArray) (ad : Option Addr) (c : Nat) (l : List Ev) (hl : l.length ≤ maxLen) (hw : evsW l) (w : World) (hR : Rdy w) (hD : Ready w) (hI : RL KE w ad l) :
 Calls Tryd.prog 15 #[.string h, .slice ad l.length c] w fun e w' => e = .returned (.tuple #[.string (chainV h l), .int .i64 (chainN h l)]) ∧ Below w.heap.size w w' := by
 have HH := Lib.hid (fun W => isHead_u h W)
 have HE := Lib.hid (areEvents_u ad c l hl hw w hR hI)
 have HCH := Lib.hid (fun W (b : Below w.heap.size w W) (h1 : h.size = 32) (h2 : l.all evB = true) => chain_u h (by omega) ad c l hl (List.all_eq_true.1 h2) W (hD.below b) (hI.below b))
 obtain ⟨S, hS⟩ : ∃ S, chainV h l = S := ⟨_, rfl⟩
 obtain ⟨C, hC⟩ : ∃ C, chainN h l = C := ⟨_, rfl⟩
 rw [hS, hC]
 have HS := Lib.hid hS
 have HCC := Lib.hid hC
 clear hw hR hD hI hS hC hl
 by_cases hh : h.size = 32
 · have HH1 := Lib.hid hh
   rw [decide_eq_true hh] at HH
   clear hh
   cases ha : l.all evB with
   | true =>
    have HSV := Lib.hid (show S = chH chainF h l from by rw [← HS.out]; unfold chainV; rw [if_pos ⟨HH1.out, ha⟩])
    have HCV := Lib.hid (show C = 0 from by rw [← HCC.out]; unfold chainN; rw [if_pos ⟨HH1.out, ha⟩])
    have HCH := Lib.hid (fun W b => HCH.out W b HH1.out ha)
    rw [ha] at HE
    rw [← HSV.out] at HCH
    clear ha
    go_enter Tryd.func15, Tryd.ntmps15
    go_wp2_with (go_at_call 32; refine (HH.out _).mono ?_; rintro e z ⟨rfl, rfl⟩)
    refine HE.out.mono ?_
    rintro e z ⟨rfl, hz⟩
    have HZ := Lib.hid hz
    clear hz
    go_wp2_with fail
    refine (HCH.out _ HZ.out).mono ?_
    rintro e z2 ⟨rfl, hz⟩
    have HZ2 := Lib.hid (below_up8 HZ.out hz)
    clear hz
    go_wp2_with fail
    go_ret2
    exact ⟨by rw [HCV.out]; rfl, HZ2.out⟩
   | false =>
    have HSV := Lib.hid (show S = ByteArray.empty from by rw [← HS.out]; unfold chainV; rw [if_neg (by rw [ha]; simp)])
    have HCV := Lib.hid (show C = 90 from by rw [← HCC.out]; unfold chainN; rw [if_neg (by rw [ha]; simp)])
    rw [ha] at HE
    clear ha
    go_enter Tryd.func15, Tryd.ntmps15
    go_wp2_with (go_at_call 32; refine (HH.out _).mono ?_; rintro e z ⟨rfl, rfl⟩)
    refine HE.out.mono ?_
    rintro e z ⟨rfl, hz⟩
    have HZ := Lib.hid hz
    clear hz
    go_wp2_with fail
    go_ret2
    exact ⟨by rw [HCV.out, HSV.out]; rfl, HZ.out⟩
 · have HSV := Lib.hid (show S = ByteArray.empty from by rw [← HS.out]; unfold chainV; rw [if_neg (fun h => hh h.1)])
   have HCV := Lib.hid (show C = 90 from by rw [← HCC.out]; unfold chainN; rw [if_neg (fun h => hh h.1)])
   rw [decide_eq_false hh] at HH
   clear hh
   go_enter Tryd.func15, Tryd.ntmps15
   go_wp2_with (go_at_call 32; refine (HH.out _).mono ?_; rintro e z ⟨rfl, rfl⟩)
   go_ret2
   exact ⟨by rw [HCV.out, HSV.out]; rfl, Below.refl _ _⟩
end Go.Proofs.YtnpfhcnjkekhbaaDoor
