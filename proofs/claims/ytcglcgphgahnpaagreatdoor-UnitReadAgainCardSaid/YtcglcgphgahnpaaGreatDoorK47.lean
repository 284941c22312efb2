/-
  What Decode answers, plainly; the contracts of reading an integer and a string at an offset, of package wire and of its reference. Plain mathematics of layer 5's laws: what Print and Encode give is read back, and what is read is what they give.
-/
import Derived.Test.YtcglcgphgahnpaaGreatDoorProg
import Derived.Test.YtcglcgphgahnpaaGreatDoorK36
import Derived.Test.YtcglcgphgahnpaaGreatDoorK43
import Derived.Test.YtcglcgphgahnpaaGreatDoorK46
import Derived.Lib.ConvBytes
import Derived.Lib.SlBytesRow
import Derived.Laws.Rows
import Derived.Below
import Derived.OwnWalk
import Derived.OwnWalkIn
import Derived.BigQuiet
import Derived.IntWalk
import Derived.RegionTactic
import Derived.Deep.RegionLaw
import Derived.Deep.RegionWith
import Derived.Deep.RegionHeld3
import Derived.Deep.QuietTactic
import Derived.Shelf.Abstract
import Derived.Laws.AppendOwn
import Derived.WalkKit
import Derived.WalkLawsBesides
import Derived.Outline
import Derived.Lib.Hide
import Derived.Laws.MakeOwn
import Derived.Lib.Varint
import Derived.TacticsInMore
import Derived.LoopNIn
import Derived.LoopIn
import Derived.RangeFuncNested
import Derived.RangeFuncBound
import Derived.RangeFuncCalls
import Derived.RangeFuncLeaves
import Derived.Shelf.LaysM
import Derived.Shelf.Strconv.Clone
import Derived.Lib.Strings
import Derived.RangeFuncRecord
import Derived.WalkMore
import Derived.ScopeJumps
import Derived.Laws.AppendOwnNone
import Derived.Stop.RegionWithIn
import Derived.RangeFuncBox
import Derived.Shelf.AbstractIn
import Derived.Laws.CopyOwn
import Derived.Shelf.LaysC
import Derived.Shelf.Strconv.Itoa3
import Derived.Shelf.Strconv.AtoiAll
import Derived.Shelf.Strconv.ErrVarAll
import Derived.Shelf.Strconv.AppendIntPublic10
import Derived.Lib.ItoaNum
import Derived.Lib.AtoiAll
import Derived.Shelf.Strings.Search2
import Derived.Shelf.Strings.Repeat
import Derived.Maps.AppendAt
import Derived.Deep.CutRange
import Derived.Deep.DeepCutAuto
set_option maxRecDepth 100000
set_option maxHeartbeats 16000000
namespace Go.Proofs.YtcglcgphgahnpaaGreatDoor
open Go Go.Proofs Go.RowKit Go.Lib
theorem decQt_short (s : ByteArray) (a : Int) : (decQt s a).short := by
 unfold decQt decO
 split
 · cases h : decU s a.toNat with
   | none => exact short_zero
   | some x =>
    obtain ⟨n, d, t, b, m, c, q⟩ := x
    exact Qt.short_ok (q := ⟨n, d, t, b, m, c⟩) (decU_sound h).1
 · exact short_zero
end Go.Proofs.YtcglcgphgahnpaaGreatDoor

namespace Go.Proofs.YtcglcgphgahnpaaGreatDoor
open Go Go.Proofs Go.RowKit Go.Lib
theorem par_read {s : ByteArray} (h : parUB s = true) : (parQt s).ok = true ∧ (parQt s).text5 = s := by
 obtain ⟨h1, h2⟩ := parU_sound h
 have e : parQt s = parQ0 s := by unfold parQt pickQt; rw [if_pos h]
 rw [e]
 exact ⟨h1, (text5_eq (q := parQ0 s) h1).trans h2⟩
theorem par_no {s : ByteArray} (h : parUB s = false) : parQt s = zeroQt := by unfold parQt pickQt; rw [h]; rfl
theorem dec_read (s : ByteArray) (p : Nat) (hp : p ≤ s.size) : (decE s p = 50 ∧ decP s p = 0 ∧ decQt s p = zeroQt) ∨
 (decE s p = 0 ∧ ∃ q : Nat, decP s p = ((q : Nat) : Int) ∧ p < q ∧ q ≤ s.size ∧ (decQt s p).ok = true ∧ s.extract p q = (decQt s p).code5) := by
 obtain ⟨h1, h2, h3⟩ := dec_in hp
 rw [h1, h2, h3]
 cases hd : decU s p with
 | none => exact .inl ⟨rfl, rfl, rfl⟩
 | some x =>
  obtain ⟨n, d, t, b, m, c, q⟩ := x
  obtain ⟨k1, k2, r, k3⟩ := decU_sound hd
  have hp' := encU_pos n d t b m c
  have hl := congrArg List.length k3
  rw [fromB_len, List.length_append, size_list] at hl
  exact .inr ⟨rfl, q, rfl, by omega, by omega, k1, (decU_text hd).trans (code5_eq (q := ⟨n, d, t, b, m, c⟩) k1).symm⟩
theorem valid_q5 (q : Qt) (hq : q.short) (w : World) (hR : Ready w) : Calls Tryz.prog 13 #[.agg #[.string q.n, .string q.d, .int .i64 q.t, .int .i64 q.b, .int .i64 q.m, .int .i64 q.c]] w fun e w' => e = .returned (.bool q.ok) ∧ Below w.heap.size w w' :=
 valid_u q.n q.d q.t q.b q.m q.c (Nat.le_trans hq.1 (by decide)) (Nat.le_trans hq.2 (by decide)) w hR
end Go.Proofs.YtcglcgphgahnpaaGreatDoor
