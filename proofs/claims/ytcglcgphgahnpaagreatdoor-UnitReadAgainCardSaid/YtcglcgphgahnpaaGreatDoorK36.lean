/-
  Plain mathematics of layer 5's laws: what Print and Encode give is read back, and what is read is what they give. The contract of the reference of layer 5: Encode. The reference's Valid, Print, Parse, Encode and Decode over quantities, in the form that the program's have.
-/
import Derived.Test.YtcglcgphgahnpaaGreatDoorProg
import Derived.Test.YtcglcgphgahnpaaGreatDoorK24
import Derived.Test.YtcglcgphgahnpaaGreatDoorK32
import Derived.Test.YtcglcgphgahnpaaGreatDoorK34
import Derived.Deep.CutRange
import Derived.Deep.DeepCutAuto
import Derived.Deep.RegionHeld3
import Derived.WalkKit
import Derived.Below
import Derived.Lib.ConvBytes
import Derived.Lib.SlBytesRow
import Derived.Laws.Rows
import Derived.OwnWalk
import Derived.OwnWalkIn
import Derived.BigQuiet
import Derived.IntWalk
import Derived.RegionTactic
import Derived.Deep.RegionLaw
import Derived.Deep.RegionWith
import Derived.Deep.QuietTactic
import Derived.Shelf.Abstract
import Derived.Laws.AppendOwn
import Derived.WalkLawsBesides
import Derived.Outline
import Derived.Lib.Hide
import Derived.Laws.MakeOwn
import Derived.Stop.RegionWithIn
import Derived.RangeFuncNested
import Derived.RangeFuncBound
import Derived.RangeFuncCalls
import Derived.RangeFuncLeaves
import Derived.RangeFuncBox
import Derived.TacticsInMore
import Derived.LoopNIn
import Derived.LoopIn
import Derived.Shelf.AbstractIn
import Derived.Laws.CopyOwn
import Derived.Shelf.LaysM
import Derived.Shelf.LaysC
import Derived.Shelf.Strconv.Itoa3
import Derived.Shelf.Strconv.AtoiAll
import Derived.Shelf.Strconv.ErrVarAll
import Derived.Shelf.Strconv.AppendIntPublic10
import Derived.Lib.ItoaNum
import Derived.Lib.AtoiAll
import Derived.Laws.AppendOwnNone
import Derived.Lib.Varint
import Derived.Shelf.Strconv.Clone
import Derived.Lib.Strings
import Derived.RangeFuncRecord
import Derived.WalkMore
import Derived.ScopeJumps
import Derived.Shelf.Strings.Search2
import Derived.Shelf.Strings.Repeat
import Derived.Maps.AppendAt
import Derived.ChangeAlike
set_option maxRecDepth 100000
set_option maxHeartbeats 16000000
namespace Go.Proofs.YtcglcgphgahnpaaGreatDoor
open Go Go.Proofs Go.RowKit Go.Lib
theorem encU_pos (n d : ByteArray) (t b m c : Int) : 0 < (encU n d t b m c).size := by
 have := W1.encS_pos' t
 rw [encU_size]
 omega
theorem code5_pos {q : Qt} (h : q.ok = true) : 0 < q.code5.size := by rw [code5_eq h]; exact encU_pos _ _ _ _ _ _
theorem par_empty : parUB ⟨#[]⟩ = false := by decide +kernel
theorem text5_pos {q : Qt} (h : q.ok = true) : 0 < q.text5.size := by
 rcases Nat.eq_zero_or_pos q.text5.size with h0 | h0
 · have e : q.text5 = ⟨#[]⟩ := bytesL_inj (List.eq_nil_of_length_eq_zero ((bytesL_length _).trans h0))
   have k := (parU_print h).1
   rw [← text5_eq h, e, par_empty] at k
   cases k
 · exact h0
end Go.Proofs.YtcglcgphgahnpaaGreatDoor

namespace Go.Proofs.YtcglcgphgahnpaaGreatDoor
open Go Go.Proofs Go.RowKit Go.Lib
theorem encS_small {x : Int} (h : InE x) : (W1.encS x).size ≤ 9 := W1.encS_size_le x (by unfold InE at h; omega) (by unfold InE at h; omega)
theorem box_exps (w : World) (t b m c : Int) : ∃ W0, w.alloc (.cells #[.int .i64 t, .int .i64 b, .int .i64 m, .int .i64 c] 28) = W0 ∧ Below w.heap.size w W0 ∧
 ∀ W, Below W0.heap.size W0 W → CellsAt W w.heap.size [.int .i64 t, .int .i64 b, .int .i64 m, .int .i64 c] := by
 obtain ⟨W1, h1⟩ : ∃ W, w.alloc (.cells #[.int .i64 t, .int .i64 b, .int .i64 m, .int .i64 c] 28) = W := ⟨_, rfl⟩
 have b1 : Below w.heap.size w W1 := by rw [← h1]; exact (Below.refl _ _).alloc (Nat.le_refl _) _
 have k1 : CellsAt W1 w.heap.size [.int .i64 t, .int .i64 b, .int .i64 m, .int .i64 c] := by rw [← h1]; exact cellsAt_new rfl
 exact ⟨W1, h1, b1, fun W hb => k1.below hb⟩
theorem encodeUR_any (n d : ByteArray) (t b m c : Int) (hn : n.size ≤ 1099511627776) (hd : d.size ≤ 1099511627776) (w : World) : Calls Tryz.prog 28 #[.agg #[.string n, .string d, .int .i64 t, .int .i64 b, .int .i64 m, .int .i64 c]] w fun e w' => e = .returned (.tuple #[.string (if okU n d t b m c then encU n d t b m c else ⟨#[]⟩), .int .i64 (if okU n d t b m c then 0 else 50)]) ∧ Below w.heap.size w w' := by
 obtain ⟨W0, hW0, b0, hcc⟩ := box_qty w n d t b m c
 have cv := fun W => validUR_any n d t b m c hn hd W
 have HW := Lib.hid hW0; have B0 := Lib.hid b0; have HC := Lib.hid hcc
 clear hW0 b0 hcc
 cases hv : okU n d t b m c with
 | false =>
  rw [hv] at cv
  show Calls _ _ _ _ fun e w' => e = .returned (.tuple #[.string ⟨#[]⟩, .int .i64 50]) ∧ _
  have CV := Lib.hid cv
  clear cv hv
  go_enter Tryz.func28, Tryz.ntmps28
  obtain ⟨⟨p0, p1, p2, p3, p4, p5⟩, ⟨p6, p7, p8, p9, pa, pb⟩⟩ := qty_facts (HC.out W0 (Below.refl _ _))
  go_wp2_with (rw [HW.out])
  refine (CV.out _).mono ?_
  rintro e1 z1 ⟨rfl, b1⟩
  have P1 := Lib.hid (below_up B0.out b1)
  clear b1 p0 p1 p2 p3 p4 p5 p6 p7 p8 p9 pa pb
  go_wp2
  go_ret2
  exact ⟨rfl, P1.out⟩
 | true =>
  rw [hv] at cv
  show Calls _ _ _ _ fun e w' => e = .returned (.tuple #[.string (encU n d t b m c), .int .i64 0]) ∧ _
  obtain ⟨ht, hb, hm, hc⟩ := okE_in (okU_parts hv).1
  have hz := fit60_size (okU_parts hv).2
  have c0 := fun W => W1.refPut_yes t (by unfold InE at ht; omega) (by unfold InE at ht; omega) W
  have c1 := fun W => W1.refPut_yes b (by unfold InE at hb; omega) (by unfold InE at hb; omega) W
  have c2 := fun W => W1.refPut_yes m (by unfold InE at hm; omega) (by unfold InE at hm; omega) W
  have c3 := fun W => W1.refPut_yes c (by unfold InE at hc; omega) (by unfold InE at hc; omega) W
  have cn := fun W => W1.refPutString_ok n (by omega) W
  have cd := fun W => W1.refPutString_ok d (by omega) W
  have ln := W1.putS_le n (by omega); have ld := W1.putS_le d (by omega)
  have l0 := encS_small ht; have l1 := encS_small hb; have l2 := encS_small hm; have l3 := encS_small hc
  rw [show W1.encS n.size ++ n = W1.putS n from rfl] at cn
  rw [show W1.encS d.size ++ d = W1.putS d from rfl] at cd
  unfold encU
  generalize W1.putS n = SN at *
  generalize W1.putS d = SD at *
  generalize W1.encS t = S0 at *
  generalize W1.encS b = S1 at *
  generalize W1.encS m = S2 at *
  generalize W1.encS c = S3 at *
  obtain ⟨O0, h0⟩ : ∃ x, SN ++ SD = x := ⟨_, rfl⟩
  rw [h0]
  obtain ⟨O1, h1⟩ : ∃ x, O0 ++ S0 = x := ⟨_, rfl⟩
  rw [h1]
  obtain ⟨O2, h2⟩ : ∃ x, O1 ++ S1 = x := ⟨_, rfl⟩
  rw [h2]
  obtain ⟨O3, h3⟩ : ∃ x, O2 ++ S2 = x := ⟨_, rfl⟩
  rw [h3]
  obtain ⟨O4, h4⟩ : ∃ x, O3 ++ S3 = x := ⟨_, rfl⟩
  rw [h4]
  have k0 : O0.size ≤ 200 := by rw [← h0, ByteArray.size_append]; omega
  have k1 : O1.size ≤ 209 := by rw [← h1, ByteArray.size_append]; omega
  have k2 : O2.size ≤ 218 := by rw [← h2, ByteArray.size_append]; omega
  have k3 : O3.size ≤ 227 := by rw [← h3, ByteArray.size_append]; omega
  have KS := Lib.hid (show ¬ 9223372036854775807 < SN.size + SD.size by omega)
  have KS0 := Lib.hid (show ¬ 9223372036854775807 < O0.size + S0.size by omega)
  have KS1 := Lib.hid (show ¬ 9223372036854775807 < O1.size + S1.size by omega)
  have KS2 := Lib.hid (show ¬ 9223372036854775807 < O2.size + S2.size by omega)
  have KS3 := Lib.hid (show ¬ 9223372036854775807 < O3.size + S3.size by omega)
  have HEE := Lib.hid h0; have HE0 := Lib.hid h1; have HE1 := Lib.hid h2; have HE2 := Lib.hid h3; have HE3 := Lib.hid h4
  have CV := Lib.hid cv; have CN := Lib.hid cn; have CD := Lib.hid cd; have C0 := Lib.hid c0; have C1 := Lib.hid c1; have C2 := Lib.hid c2; have C3 := Lib.hid c3
  clear cv cn cd c0 c1 c2 c3 hv ht hb hm hc hz ln ld l0 l1 l2 l3 h0 h1 h2 h3 h4 k0 k1 k2 k3
  go_enter Tryz.func28, Tryz.ntmps28
  obtain ⟨⟨p0, p1, p2, p3, p4, p5⟩, ⟨p6, p7, p8, p9, pa, pb⟩⟩ := qty_facts (HC.out W0 (Below.refl _ _))
  go_wp2_with (rw [HW.out])
  refine (CV.out _).mono ?_
  rintro e1 z1 ⟨rfl, b1⟩
  have B1 := Lib.hid b1
  clear b1 p0 p1 p2 p3 p4 p5 p6 p7 p8 p9 pa pb
  obtain ⟨⟨p0, p1, p2, p3, p4, p5⟩, ⟨p6, p7, p8, p9, pa, pb⟩⟩ := qty_facts (HC.out z1 B1.out)
  go_wp2_with fail
  refine (CN.out _).mono ?_
  rintro e1 z2 ⟨rfl, b2⟩
  have B2 := Lib.hid (below_up B1.out b2)
  clear b2 p0 p1 p2 p3 p4 p5 p6 p7 p8 p9 pa pb
  obtain ⟨⟨p0, p1, p2, p3, p4, p5⟩, ⟨p6, p7, p8, p9, pa, pb⟩⟩ := qty_facts (HC.out z2 B2.out)
  go_wp2_with fail
  refine (CD.out _).mono ?_
  rintro e1 z3 ⟨rfl, b3⟩
  have B3 := Lib.hid (below_up B2.out b3)
  clear b3 p0 p1 p2 p3 p4 p5 p6 p7 p8 p9 pa pb
  obtain ⟨⟨p0, p1, p2, p3, p4, p5⟩, ⟨p6, p7, p8, p9, pa, pb⟩⟩ := qty_facts (HC.out z3 B3.out)
  obtain ⟨z4, hz4, b4, f4⟩ := box_exps z3 t b m c
  have V4 := Lib.hid hz4; have FX := Lib.hid f4
  have P4 := Lib.hid (below_up B0.out (below_up B3.out b4))
  clear hz4 f4 b4
  have ks := KS.out
  have hee := HEE.out
  go_wp2_with (rw [V4.out])
  clear p0 p1 p2 p3 p4 p5 p6 p7 p8 p9 pa pb ks hee
  go_loopw [8, 10] (fun v i wr => Hid (Below z4.heap.size z4 wr) ∧ ((v = .string O0 ∧ i = .int .i64 0) ∨ (v = .string O1 ∧ i = .int .i64 1) ∨ (v = .string O2 ∧ i = .int .i64 2) ∨ (v = .string O3 ∧ i = .int .i64 3) ∨ (v = .string O4 ∧ i = .int .i64 4))) (fun _ i _ => 4 - (RowKit.intOf i).toNat)
  case atStart => exact ⟨Lib.hid (Below.refl _ _), .inl ⟨rfl, rfl⟩⟩
  case round =>
   obtain ⟨hbw, ⟨rfl, rfl⟩ | ⟨rfl, rfl⟩ | ⟨rfl, rfl⟩ | ⟨rfl, rfl⟩ | ⟨rfl, rfl⟩⟩ := hrel
   · have ks := KS0.out
     obtain ⟨⟨u0, u1, u2, u3⟩, _⟩ := unit_facts (FX.out wr hbw.out)
     go_wp2_with fail
     refine (C0.out _).mono ?_
     rintro e1 x1 ⟨rfl, b1⟩
     have PX := Lib.hid (below_up hbw.out b1)
     clear b1 u0 u1 u2 u3
     go_wp2_with fail
     go_roundw
     case rel => exact ⟨PX, .inr (.inl ⟨congrArg Value.string HE0.out, rfl⟩)⟩
     case measure => simp [RowKit.intOf]
   · have ks := KS1.out
     obtain ⟨⟨u0, u1, u2, u3⟩, _⟩ := unit_facts (FX.out wr hbw.out)
     go_wp2_with fail
     refine (C1.out _).mono ?_
     rintro e1 x1 ⟨rfl, b1⟩
     have PX := Lib.hid (below_up hbw.out b1)
     clear b1 u0 u1 u2 u3
     go_wp2_with fail
     go_roundw
     case rel => exact ⟨PX, .inr (.inr (.inl ⟨congrArg Value.string HE1.out, rfl⟩))⟩
     case measure => simp [RowKit.intOf]
   · have ks := KS2.out
     obtain ⟨⟨u0, u1, u2, u3⟩, _⟩ := unit_facts (FX.out wr hbw.out)
     go_wp2_with fail
     refine (C2.out _).mono ?_
     rintro e1 x1 ⟨rfl, b1⟩
     have PX := Lib.hid (below_up hbw.out b1)
     clear b1 u0 u1 u2 u3
     go_wp2_with fail
     go_roundw
     case rel => exact ⟨PX, .inr (.inr (.inr (.inl ⟨congrArg Value.string HE2.out, rfl⟩)))⟩
     case measure => simp [RowKit.intOf]
   · have ks := KS3.out
     obtain ⟨⟨u0, u1, u2, u3⟩, _⟩ := unit_facts (FX.out wr hbw.out)
     go_wp2_with fail
     refine (C3.out _).mono ?_
     rintro e1 x1 ⟨rfl, b1⟩
     have PX := Lib.hid (below_up hbw.out b1)
     clear b1 u0 u1 u2 u3
     go_wp2_with fail
     go_roundw
     case rel => exact ⟨PX, .inr (.inr (.inr (.inr (⟨congrArg Value.string HE3.out, rfl⟩))))⟩
     case measure => simp [RowKit.intOf]
   · go_wp2
     go_ret2
     exact ⟨rfl, below_up P4.out hbw.out⟩
end Go.Proofs.YtcglcgphgahnpaaGreatDoor

namespace Go.Proofs.YtcglcgphgahnpaaGreatDoor
open Go Go.Proofs Go.RowKit Go.Lib
theorem printR_q5 (q : Qt) (hq : q.short) (w : World) : Calls Tryz.prog 30 #[.agg #[.string q.n, .string q.d, .int .i64 q.t, .int .i64 q.b, .int .i64 q.m, .int .i64 q.c]] w fun e w' => e = .returned (.string q.text5) ∧ Below w.heap.size w w' :=
 printUR_any q.n q.d q.t q.b q.m q.c (Nat.le_trans hq.1 (by decide)) (Nat.le_trans hq.2 (by decide)) w
theorem encodeR_q5 (q : Qt) (hq : q.short) (w : World) : Calls Tryz.prog 28 #[.agg #[.string q.n, .string q.d, .int .i64 q.t, .int .i64 q.b, .int .i64 q.m, .int .i64 q.c]] w fun e w' => e = .returned (.tuple #[.string q.code5, .int .i64 (eU q.ok)]) ∧ Below w.heap.size w w' :=
 encodeUR_any q.n q.d q.t q.b q.m q.c (Nat.le_trans hq.1 (by decide)) (Nat.le_trans hq.2 (by decide)) w
end Go.Proofs.YtcglcgphgahnpaaGreatDoor
