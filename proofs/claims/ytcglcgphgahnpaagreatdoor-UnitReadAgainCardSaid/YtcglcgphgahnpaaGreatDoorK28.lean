/-
  The contracts of the reference of layer 5: which units, fractions and quantities are valid.
-/
import Derived.Test.YtcglcgphgahnpaaGreatDoorProg
import Derived.Test.YtcglcgphgahnpaaGreatDoorK23
import Derived.Test.YtcglcgphgahnpaaGreatDoorK27
import Derived.Deep.CutRange
import Derived.Deep.DeepCutAuto
import Derived.Deep.RegionHeld3
import Derived.Lib.ConvBytes
import Derived.Lib.SlBytesRow
import Derived.Laws.Rows
import Derived.Below
import Derived.OwnWalk
import Derived.OwnWalkIn
import Derived.BigQuiet
import Derived.IntWalk
import Derived.RegionTactic
import Derived.Deep.RegionLaw
import Derived.Deep.RegionWith
import Derived.Deep.QuietTactic
import Derived.Shelf.Abstract
import Derived.Laws.AppendOwn
import Derived.WalkKit
import Derived.WalkLawsBesides
import Derived.Outline
import Derived.Lib.Hide
import Derived.Laws.MakeOwn
import Derived.Laws.AppendOwnNone
import Derived.Stop.RegionWithIn
import Derived.RangeFuncNested
import Derived.RangeFuncBound
import Derived.RangeFuncCalls
import Derived.RangeFuncLeaves
import Derived.RangeFuncBox
import Derived.TacticsInMore
import Derived.LoopNIn
import Derived.LoopIn
import Derived.Shelf.AbstractIn
import Derived.Laws.CopyOwn
import Derived.Shelf.LaysM
import Derived.Shelf.LaysC
import Derived.Shelf.Strconv.Itoa3
import Derived.Shelf.Strconv.AtoiAll
import Derived.Shelf.Strconv.ErrVarAll
import Derived.Shelf.Strconv.AppendIntPublic10
import Derived.Lib.ItoaNum
import Derived.Lib.AtoiAll
import Derived.Shelf.Strconv.Clone
import Derived.Shelf.Strings.Search2
import Derived.Shelf.Strings.Repeat
import Derived.WalkMore
import Derived.ScopeJumps
set_option maxRecDepth 100000
set_option maxHeartbeats 16000000
namespace Go.Proofs.YtcglcgphgahnpaaGreatDoor
open Go Go.Proofs Go.RowKit Go.Lib
theorem in_any (n : Int) (w : World) : Calls Tryz.prog 42 #[.int .i64 n] w fun e w' => e = .returned (.bool (decide (InE n))) ∧ w = w' := by
 by_cases h1 : -3 ≤ n
 · by_cases h2 : n ≤ 3
   · rw [decide_eq_true (show InE n from ⟨h1, h2⟩)]
     go_enter Tryz.func42, Tryz.ntmps42
     go_wp2
     go_ret
     exact ⟨rfl, rfl⟩
   · rw [decide_eq_false (fun h : InE n => h2 h.2)]
     go_enter Tryz.func42, Tryz.ntmps42
     go_wp2
     go_ret
     exact ⟨rfl, rfl⟩
 · rw [decide_eq_false (fun h : InE n => h1 h.1)]
   go_enter Tryz.func42, Tryz.ntmps42
   go_wp2
   go_ret
   exact ⟨rfl, rfl⟩
theorem box_unit (w : World) (t b m c : Int) : ∃ W0, w.alloc (.cells #[.int .i64 t, .int .i64 b, .int .i64 m, .int .i64 c] 25) = W0 ∧ Below w.heap.size w W0 ∧
 ∀ W, Below W0.heap.size W0 W → CellsAt W w.heap.size [.int .i64 t, .int .i64 b, .int .i64 m, .int .i64 c] := by
 obtain ⟨W1, h1⟩ : ∃ W, w.alloc (.cells #[.int .i64 t, .int .i64 b, .int .i64 m, .int .i64 c] 25) = W := ⟨_, rfl⟩
 have b1 : Below w.heap.size w W1 := by rw [← h1]; exact (Below.refl _ _).alloc (Nat.le_refl _) _
 have k1 := cellsAt_of (vs := [.int .i64 t, .int .i64 b, .int .i64 m, .int .i64 c]) (heap_alloc_new w (.cells #[.int .i64 t, .int .i64 b, .int .i64 m, .int .i64 c] 25))
 rw [h1] at k1
 exact ⟨W1, h1, b1, fun W hb => k1.below hb⟩
theorem box_qty (w : World) (n d : ByteArray) (t b m c : Int) : ∃ W0, w.alloc (.cells #[.string n, .string d, .int .i64 t, .int .i64 b, .int .i64 m, .int .i64 c] 27) = W0 ∧ Below w.heap.size w W0 ∧
 ∀ W, Below W0.heap.size W0 W → CellsAt W w.heap.size [.string n, .string d, .int .i64 t, .int .i64 b, .int .i64 m, .int .i64 c] := by
 obtain ⟨W1, h1⟩ : ∃ W, w.alloc (.cells #[.string n, .string d, .int .i64 t, .int .i64 b, .int .i64 m, .int .i64 c] 27) = W := ⟨_, rfl⟩
 have b1 : Below w.heap.size w W1 := by rw [← h1]; exact (Below.refl _ _).alloc (Nat.le_refl _) _
 have k1 := cellsAt_of (vs := [.string n, .string d, .int .i64 t, .int .i64 b, .int .i64 m, .int .i64 c]) (heap_alloc_new w (.cells #[.string n, .string d, .int .i64 t, .int .i64 b, .int .i64 m, .int .i64 c] 27))
 rw [h1] at k1
 exact ⟨W1, h1, b1, fun W hb => k1.below hb⟩
theorem qty_facts {W : World} {B : Nat} {n d : ByteArray} {t b m c : Int} (h : CellsAt W B [.string n, .string d, .int .i64 t, .int .i64 b, .int .i64 m, .int .i64 c]) :
 (W.cell? ⟨B, 0, none⟩ = some (.string n) ∧ W.cell? ⟨B, 1, none⟩ = some (.string d) ∧ W.cell? ⟨B, 2, none⟩ = some (.int .i64 t) ∧ W.cell? ⟨B, 3, none⟩ = some (.int .i64 b) ∧ W.cell? ⟨B, 4, none⟩ = some (.int .i64 m) ∧ W.cell? ⟨B, 5, none⟩ = some (.int .i64 c)) ∧
  (W.frozen? ⟨B, 0, none⟩ = false ∧ W.frozen? ⟨B, 1, none⟩ = false ∧ W.frozen? ⟨B, 2, none⟩ = false ∧ W.frozen? ⟨B, 3, none⟩ = false ∧ W.frozen? ⟨B, 4, none⟩ = false ∧ W.frozen? ⟨B, 5, none⟩ = false) :=
 ⟨⟨(h 0 (by simp)).1, (h 1 (by simp)).1, (h 2 (by simp)).1, (h 3 (by simp)).1, (h 4 (by simp)).1, (h 5 (by simp)).1⟩, (h 0 (by simp)).2, (h 1 (by simp)).2, (h 2 (by simp)).2, (h 3 (by simp)).2, (h 4 (by simp)).2, (h 5 (by simp)).2⟩
theorem unit_facts {W : World} {B : Nat} {t b m c : Int} (h : CellsAt W B [.int .i64 t, .int .i64 b, .int .i64 m, .int .i64 c]) :
 (W.cell? ⟨B, 0, none⟩ = some (.int .i64 t) ∧ W.cell? ⟨B, 1, none⟩ = some (.int .i64 b) ∧ W.cell? ⟨B, 2, none⟩ = some (.int .i64 m) ∧ W.cell? ⟨B, 3, none⟩ = some (.int .i64 c)) ∧
  (W.frozen? ⟨B, 0, none⟩ = false ∧ W.frozen? ⟨B, 1, none⟩ = false ∧ W.frozen? ⟨B, 2, none⟩ = false ∧ W.frozen? ⟨B, 3, none⟩ = false) :=
 ⟨⟨(h 0 (by simp)).1, (h 1 (by simp)).1, (h 2 (by simp)).1, (h 3 (by simp)).1⟩, (h 0 (by simp)).2, (h 1 (by simp)).2, (h 2 (by simp)).2, (h 3 (by simp)).2⟩
theorem validUnitR_any (t b m c : Int) (w : World) : Calls Tryz.prog 16 #[.agg #[.int .i64 t, .int .i64 b, .int .i64 m, .int .i64 c]] w fun e w' => e = .returned (.bool (okE t b m c)) ∧ Below w.heap.size w w' := by
 obtain ⟨W0, hW0, b0, hcc⟩ := box_unit w t b m c
 obtain ⟨⟨c0, c1, c2, c3⟩, _⟩ := unit_facts (hcc W0 (Below.refl _ _))
 have i0 := fun W => in_any t W
 have i1 := fun W => in_any b W
 have i2 := fun W => in_any m W
 have i3 := fun W => in_any c W
 unfold okE
 generalize decide (InE t) = x0 at *
 generalize decide (InE b) = x1 at *
 generalize decide (InE m) = x2 at *
 generalize decide (InE c) = x3 at *
 have HW := Lib.hid hW0; have B0 := Lib.hid b0; have I0 := Lib.hid i0; have I1 := Lib.hid i1; have I2 := Lib.hid i2; have I3 := Lib.hid i3
 clear hW0 b0 hcc i0 i1 i2 i3
 go_enter Tryz.func16, Tryz.ntmps16
 go_wp2_with (rw [HW.out])
 refine (I0.out _).mono ?_
 rintro e z1 ⟨rfl, rfl⟩
 cases x0 with
 | false =>
  go_wp2
  go_ret
  exact ⟨rfl, B0.out⟩
 | true =>
  go_wp2_with fail
  refine (I1.out _).mono ?_
  rintro e z1 ⟨rfl, rfl⟩
  cases x1 with
  | false =>
   go_wp2
   go_ret
   exact ⟨rfl, B0.out⟩
  | true =>
   go_wp2_with fail
   refine (I2.out _).mono ?_
   rintro e z1 ⟨rfl, rfl⟩
   cases x2 with
   | false =>
    go_wp2
    go_ret
    exact ⟨rfl, B0.out⟩
   | true =>
    go_wp2_with fail
    refine (I3.out _).mono ?_
    rintro e z1 ⟨rfl, rfl⟩
    go_wp2
    go_ret
    exact ⟨rfl, B0.out⟩
theorem bytes_head {n : ByteArray} (h : 0 < n.size) : (bytesL n).head? = some (n[0].toNat) := by
 obtain ⟨⟨l⟩⟩ := n
 cases l with
 | nil => exact absurd h (by decide)
 | cons a r => rfl
def negT (n : ByteArray) : Bool := decide ((bytesL n).head? = some 45)
theorem negT_zero {n : ByteArray} (h : ¬ 0 < n.size) : negT n = false := by
 have : n = ⟨#[]⟩ := ByteArray.ext (Array.eq_empty_of_size_eq_zero (show n.data.size = 0 from Nat.eq_zero_of_not_pos h))
 subst this
 rfl
theorem negT_minus {n : ByteArray} (h : 0 < n.size) (h1 : n[0].toNat = 45) : negT n = true := by unfold negT; rw [bytes_head h, h1]; rfl
theorem negT_plain {n : ByteArray} (h : 0 < n.size) (h1 : n[0].toNat ≠ 45) : negT n = false := by
 unfold negT
 rw [bytes_head h]
 exact decide_eq_false (fun e => h1 (by injection e))
theorem negT_yes {n : ByteArray} (h : negT n = true) : 0 < n.size ∧ lenT n = n.size - 1 := by
 have h2 := of_decide_eq_true h
 refine ⟨?_, by unfold lenT; rw [if_pos h2]⟩
 rcases Nat.eq_zero_or_pos n.size with h0 | h0
 · have := negT_zero (n := n) (by omega)
   rw [h] at this
   cases this
 · exact h0
theorem negT_no {n : ByteArray} (h : negT n = false) : lenT n = n.size := by unfold lenT; rw [if_neg (of_decide_eq_false h)]
theorem fitsR_any (n d : ByteArray) (hn : n.size ≤ 1099511627776) (hd : d.size ≤ 1099511627776) (w : World) : Calls Tryz.prog 40 #[.agg #[.string n, .string d]] w fun e w' => e = .returned (.bool (fit60 n d)) ∧ Below w.heap.size w w' := by
 obtain ⟨W0, hW0, b0, hcc⟩ := box_one w n d
 have cv := fun W => validR4_any n d hn hd W
 unfold fit60
 generalize validQ n d = v at *
 have HW := Lib.hid hW0; have B0 := Lib.hid b0; have CV := Lib.hid cv; have HC := Lib.hid hcc
 clear hW0 b0 hcc cv
 by_cases h2 : lenT n ≤ 60
 · rw [decide_eq_true h2, Bool.true_and]
   have H2 := Lib.hid h2
   clear h2
   by_cases h3 : d.size ≤ 60
   · rw [decide_eq_true h3, Bool.true_and]
     have H3 := Lib.hid h3
     clear h3
     go_enter Tryz.func40, Tryz.ntmps40
     obtain ⟨c0, c1, _, _⟩ := HC.out W0 (Below.refl _ _)
     go_upto_region 2 with (rw [HW.out])
     go_cut [14] from 7 to 14 (fun sl wx => sl = .bool (negT n) ∧ wx = W0)
     case first =>
      by_cases h0 : 0 < n.size
      · have e0 : (0 : Int) < n.size := by omega
        by_cases h1 : n[0].toNat = 45
        · have HL := Lib.hid (negT_minus h0 h1)
          have e1 : ((n[0].toNat : Int) == 45) = true := by rw [h1]; rfl
          clear h1
          go_wp2_with fail
          go_meet
          exact ⟨by rw [HL.out], rfl⟩
        · have HL := Lib.hid (negT_plain h0 h1)
          have e1 : ((n[0].toNat : Int) == 45) = false := by rw [beq_eq_false_iff_ne]; omega
          clear h1
          go_wp2_with fail
          go_meet
          exact ⟨by rw [HL.out], rfl⟩
      · have HL := Lib.hid (negT_zero h0)
        have e0 : ¬ (0 : Int) < n.size := by omega
        clear h0
        go_wp2_with fail
        go_meet
        exact ⟨by rw [HL.out], rfl⟩
     case rest =>
      obtain ⟨rfl, rfl⟩ := hcut
      have h2 := H2.out
      have h3 := H3.out
      cases hng : negT n with
      | true =>
       obtain ⟨hp, hl⟩ := negT_yes hng
       have e2 : (n.size : Int) - 1 ≤ 60 := by omega
       clear hng hl h2
       have e3 : (d.size : Int) ≤ 60 := by omega
       clear h3
       go_wp2_with fail
       refine (CV.out _).mono ?_
       rintro e z1 ⟨rfl, b1⟩
       have P1 := Lib.hid (below_up B0.out b1)
       clear b1
       go_wp2
       go_ret
       exact ⟨rfl, P1.out⟩
      | false =>
       have hl := negT_no hng
       have e2 : (n.size : Int) ≤ 60 := by omega
       clear hng hl h2
       have e3 : (d.size : Int) ≤ 60 := by omega
       clear h3
       go_wp2_with fail
       refine (CV.out _).mono ?_
       rintro e z1 ⟨rfl, b1⟩
       have P1 := Lib.hid (below_up B0.out b1)
       clear b1
       go_wp2
       go_ret
       exact ⟨rfl, P1.out⟩
   · rw [decide_eq_false h3, Bool.false_and]
     have H3 := Lib.hid h3
     clear h3
     go_enter Tryz.func40, Tryz.ntmps40
     obtain ⟨c0, c1, _, _⟩ := HC.out W0 (Below.refl _ _)
     go_upto_region 2 with (rw [HW.out])
     go_cut [14] from 7 to 14 (fun sl wx => sl = .bool (negT n) ∧ wx = W0)
     case first =>
      by_cases h0 : 0 < n.size
      · have e0 : (0 : Int) < n.size := by omega
        by_cases h1 : n[0].toNat = 45
        · have HL := Lib.hid (negT_minus h0 h1)
          have e1 : ((n[0].toNat : Int) == 45) = true := by rw [h1]; rfl
          clear h1
          go_wp2_with fail
          go_meet
          exact ⟨by rw [HL.out], rfl⟩
        · have HL := Lib.hid (negT_plain h0 h1)
          have e1 : ((n[0].toNat : Int) == 45) = false := by rw [beq_eq_false_iff_ne]; omega
          clear h1
          go_wp2_with fail
          go_meet
          exact ⟨by rw [HL.out], rfl⟩
      · have HL := Lib.hid (negT_zero h0)
        have e0 : ¬ (0 : Int) < n.size := by omega
        clear h0
        go_wp2_with fail
        go_meet
        exact ⟨by rw [HL.out], rfl⟩
     case rest =>
      obtain ⟨rfl, rfl⟩ := hcut
      have h2 := H2.out
      have h3 := H3.out
      cases hng : negT n with
      | true =>
       obtain ⟨hp, hl⟩ := negT_yes hng
       have e2 : (n.size : Int) - 1 ≤ 60 := by omega
       clear hng hl h2
       have e3 : ¬ (d.size : Int) ≤ 60 := by omega
       clear h3
       go_wp2
       go_ret
       exact ⟨rfl, B0.out⟩
      | false =>
       have hl := negT_no hng
       have e2 : (n.size : Int) ≤ 60 := by omega
       clear hng hl h2
       have e3 : ¬ (d.size : Int) ≤ 60 := by omega
       clear h3
       go_wp2
       go_ret
       exact ⟨rfl, B0.out⟩
 · rw [decide_eq_false h2, Bool.false_and]
   have H2 := Lib.hid h2
   clear h2
   go_enter Tryz.func40, Tryz.ntmps40
   obtain ⟨c0, c1, _, _⟩ := HC.out W0 (Below.refl _ _)
   go_upto_region 2 with (rw [HW.out])
   go_cut [14] from 7 to 14 (fun sl wx => sl = .bool (negT n) ∧ wx = W0)
   case first =>
    by_cases h0 : 0 < n.size
    · have e0 : (0 : Int) < n.size := by omega
      by_cases h1 : n[0].toNat = 45
      · have HL := Lib.hid (negT_minus h0 h1)
        have e1 : ((n[0].toNat : Int) == 45) = true := by rw [h1]; rfl
        clear h1
        go_wp2_with fail
        go_meet
        exact ⟨by rw [HL.out], rfl⟩
      · have HL := Lib.hid (negT_plain h0 h1)
        have e1 : ((n[0].toNat : Int) == 45) = false := by rw [beq_eq_false_iff_ne]; omega
        clear h1
        go_wp2_with fail
        go_meet
        exact ⟨by rw [HL.out], rfl⟩
    · have HL := Lib.hid (negT_zero h0)
      have e0 : ¬ (0 : Int) < n.size := by omega
      clear h0
      go_wp2_with fail
      go_meet
      exact ⟨by rw [HL.out], rfl⟩
   case rest =>
    obtain ⟨rfl, rfl⟩ := hcut
    have h2 := H2.out
    cases hng : negT n with
    | true =>
     obtain ⟨hp, hl⟩ := negT_yes hng
     have e2 : ¬ (n.size : Int) - 1 ≤ 60 := by omega
     clear hng hl h2
     go_wp2
     go_ret
     exact ⟨rfl, B0.out⟩
    | false =>
     have hl := negT_no hng
     have e2 : ¬ (n.size : Int) ≤ 60 := by omega
     clear hng hl h2
     go_wp2
     go_ret
     exact ⟨rfl, B0.out⟩
theorem validUR_any (n d : ByteArray) (t b m c : Int) (hn : n.size ≤ 1099511627776) (hd : d.size ≤ 1099511627776) (w : World) : Calls Tryz.prog 14 #[.agg #[.string n, .string d, .int .i64 t, .int .i64 b, .int .i64 m, .int .i64 c]] w fun e w' => e = .returned (.bool (okU n d t b m c)) ∧ Below w.heap.size w w' := by
 obtain ⟨W0, hW0, b0, hcc⟩ := box_qty w n d t b m c
 have cu := fun W => validUnitR_any t b m c W
 have cf := fun W => fitsR_any n d hn hd W
 unfold okU
 generalize okE t b m c = x at *
 generalize fit60 n d = y at *
 have HW := Lib.hid hW0; have B0 := Lib.hid b0; have CU := Lib.hid cu; have CF := Lib.hid cf; have HC := Lib.hid hcc
 clear hW0 b0 hcc cu cf
 cases x with
 | false =>
  rw [Bool.false_and]
  go_enter Tryz.func14, Tryz.ntmps14
  obtain ⟨⟨c0, c1, c2, c3, c4, c5⟩, _⟩ := qty_facts (HC.out W0 (Below.refl _ _))
  go_wp2_with (rw [HW.out])
  refine (CU.out _).mono ?_
  rintro e z1 ⟨rfl, b1⟩
  have P1 := Lib.hid (below_up B0.out b1)
  clear b1 c0 c1 c2 c3 c4 c5
  go_wp2
  go_ret
  exact ⟨rfl, P1.out⟩
 | true =>
  rw [Bool.true_and]
  go_enter Tryz.func14, Tryz.ntmps14
  obtain ⟨⟨c0, c1, c2, c3, c4, c5⟩, _⟩ := qty_facts (HC.out W0 (Below.refl _ _))
  go_wp2_with (rw [HW.out])
  refine (CU.out _).mono ?_
  rintro e z1 ⟨rfl, b1⟩
  have P1 := Lib.hid (below_up B0.out b1)
  have B1 := Lib.hid b1
  clear b1 c0 c1 c2 c3 c4 c5
  obtain ⟨⟨c0, c1, c2, c3, c4, c5⟩, _⟩ := qty_facts (HC.out z1 B1.out)
  go_wp2_with fail
  refine (CF.out _).mono ?_
  rintro e z2 ⟨rfl, b2⟩
  have P2 := Lib.hid (below_up P1.out b2)
  clear b2 c0 c1 c2 c3 c4 c5
  go_wp2
  go_ret
  exact ⟨rfl, P2.out⟩
end Go.Proofs.YtcglcgphgahnpaaGreatDoor
