/-
  The contracts of the reference of layer 5: part, Print. Bytes of a text laid in a block and changed there; slices of strings.
-/
import Derived.Test.YtcglcgphgahnpaaGreatDoorProg
import Derived.Test.YtcglcgphgahnpaaGreatDoorK28
import Derived.Test.YtcglcgphgahnpaaGreatDoorK31
import Derived.Deep.CutRange
import Derived.Deep.DeepCutAuto
import Derived.Deep.RegionHeld3
import Derived.Lib.ConvBytes
import Derived.Lib.SlBytesRow
import Derived.Laws.Rows
import Derived.Below
import Derived.OwnWalk
import Derived.OwnWalkIn
import Derived.BigQuiet
import Derived.IntWalk
import Derived.RegionTactic
import Derived.Deep.RegionLaw
import Derived.Deep.RegionWith
import Derived.Deep.QuietTactic
import Derived.Shelf.Abstract
import Derived.Laws.AppendOwn
import Derived.WalkKit
import Derived.WalkLawsBesides
import Derived.Outline
import Derived.Lib.Hide
import Derived.Laws.MakeOwn
import Derived.Laws.AppendOwnNone
import Derived.Stop.RegionWithIn
import Derived.RangeFuncNested
import Derived.RangeFuncBound
import Derived.RangeFuncCalls
import Derived.RangeFuncLeaves
import Derived.RangeFuncBox
import Derived.TacticsInMore
import Derived.LoopNIn
import Derived.LoopIn
import Derived.Shelf.AbstractIn
import Derived.Laws.CopyOwn
import Derived.Shelf.LaysM
import Derived.Shelf.LaysC
import Derived.Shelf.Strconv.Itoa3
import Derived.Shelf.Strconv.AtoiAll
import Derived.Shelf.Strconv.ErrVarAll
import Derived.Shelf.Strconv.AppendIntPublic10
import Derived.Lib.ItoaNum
import Derived.Lib.AtoiAll
import Derived.Shelf.Strconv.Clone
import Derived.Shelf.Strings.Search2
import Derived.Shelf.Strings.Repeat
import Derived.WalkMore
import Derived.ScopeJumps
set_option maxRecDepth 100000
set_option maxHeartbeats 16000000
namespace Go.Proofs.YtcglcgphgahnpaaGreatDoor
open Go Go.Proofs Go.RowKit Go.Lib
theorem part_any (i : Nat) (wd : ByteArray) (hw : bytesL wd = wordL i) (hs : wd.size ≤ 4) (n : Int) (hn : InE n) (w : World) : Calls Tryz.prog 68 #[.string wd, .int .i64 n] w fun e w' => e = .returned (.string (partT i n)) ∧ Below w.heap.size w w' := by
 by_cases h0 : n = 0
 · subst h0
   have e : partT i 0 = ⟨#[]⟩ := rfl
   rw [e]
   clear e
   go_enter Tryz.func68, Tryz.ntmps68
   go_wp2
   go_ret
   exact ⟨rfl, Below.refl _ _⟩
 · by_cases h1 : n = 1
   · subst h1
     have HE := Lib.hid (part_one hw)
     clear hw
     go_enter Tryz.func68, Tryz.ntmps68
     go_wp2
     go_ret
     exact ⟨congrArg (fun s => Ending.returned (.string s)) HE.out, Below.refl _ _⟩
   · have HE := Lib.hid (part_more h0 h1 hw)
     unfold InE at hn
     obtain ⟨n1, n2⟩ := hn
     have cf := fun W => fromR_any n (by omega) (by omega) W
     have CF := Lib.hid cf
     have hz := fits_size (x := n) (fits_of_le (k := 3) (by decide +kernel) (by omega))
     have b0 : (n == 0) = false := by rw [beq_eq_false_iff_ne]; exact h0
     have b1 : (n == 1) = false := by rw [beq_eq_false_iff_ne]; exact h1
     clear cf hw h0 h1
     generalize textI n = tx at *
     go_enter Tryz.func68, Tryz.ntmps68
     go_wp2_with fail
     refine (CF.out _).mono ?_
     rintro e z1 ⟨rfl, B1⟩
     have B1' := Lib.hid B1
     clear B1
     go_wp2
     go_ret
     exact ⟨congrArg (fun s => Ending.returned (.string s)) HE.out, B1'.out⟩
theorem printUR_any (n d : ByteArray) (t b m c : Int) (hn : n.size ≤ 1099511627776) (hd : d.size ≤ 1099511627776) (w : World) : Calls Tryz.prog 30 #[.agg #[.string n, .string d, .int .i64 t, .int .i64 b, .int .i64 m, .int .i64 c]] w fun e w' => e = .returned (.string (printU n d t b m c)) ∧ Below w.heap.size w w' := by
 obtain ⟨W0, hW0, b0, hcc⟩ := box_qty w n d t b m c
 have cv := fun W => validUR_any n d t b m c hn hd W
 have HW := Lib.hid hW0; have B0 := Lib.hid b0; have HC := Lib.hid hcc
 clear hW0 b0 hcc
 cases hv : okU n d t b m c with
 | false =>
  rw [printU_bad hv]
  rw [hv] at cv
  have CV := Lib.hid cv
  clear cv hv
  go_enter Tryz.func30, Tryz.ntmps30
  obtain ⟨⟨p0, p1, p2, p3, p4, p5⟩, ⟨p6, p7, p8, p9, pa, pb⟩⟩ := qty_facts (HC.out W0 (Below.refl _ _))
  go_wp2_with (rw [HW.out])
  refine (CV.out _).mono ?_
  rintro e1 z1 ⟨rfl, b1⟩
  have P1 := Lib.hid (below_up B0.out b1)
  clear b1 p0 p1 p2 p3 p4 p5 p6 p7 p8 p9 pa pb
  go_wp2
  go_ret
  exact ⟨rfl, P1.out⟩
 | true =>
  have HE := Lib.hid (printU_text hv)
  obtain ⟨ht, hb, hm, hc⟩ := okE_in (okU_parts hv).1
  have hl := printB_len (okU_parts hv).2
  have l0 := partT_size (i := 0) (by omega) ht; have l1 := partT_size (i := 1) (by omega) hb; have l2 := partT_size (i := 2) (by omega) hm; have l3 := partT_size (i := 3) (by omega) hc
  have cp := fun W => printR4_any n d hn hd W
  have c0 := fun W => part_any 0 ⟨#[117, 115]⟩ rfl (by decide) t ht W
  have c1 := fun W => part_any 1 ⟨#[98, 121, 116, 101]⟩ rfl (by decide) b hb W
  have c2 := fun W => part_any 2 ⟨#[99, 101, 110, 116]⟩ rfl (by decide) m hm W
  have c3 := fun W => part_any 3 ⟨#[111, 110, 101]⟩ rfl (by decide) c hc W
  rw [hv] at cv
  generalize printU n d t b m c = RT at *
  generalize printB n d = PT at *
  generalize partT 0 t = T0 at *
  generalize partT 1 b = T1 at *
  generalize partT 2 m = T2 at *
  generalize partT 3 c = T3 at *
  have CV := Lib.hid cv; have CP := Lib.hid cp; have C0 := Lib.hid c0; have C1 := Lib.hid c1; have C2 := Lib.hid c2; have C3 := Lib.hid c3
  clear cv cp c0 c1 c2 c3 hv ht hb hm hc
  have k1 : ¬ 9223372036854775807 < PT.size + T0.size := by omega
  have k2 : ¬ 9223372036854775807 < PT.size + T0.size + T1.size := by omega
  have k3 : ¬ 9223372036854775807 < PT.size + T0.size + T1.size + T2.size := by omega
  have k4 : ¬ 9223372036854775807 < PT.size + T0.size + T1.size + T2.size + T3.size := by omega
  go_enter Tryz.func30, Tryz.ntmps30
  obtain ⟨⟨p0, p1, p2, p3, p4, p5⟩, ⟨p6, p7, p8, p9, pa, pb⟩⟩ := qty_facts (HC.out W0 (Below.refl _ _))
  go_wp2_with (rw [HW.out])
  refine (CV.out _).mono ?_
  rintro e1 z1 ⟨rfl, b1⟩
  have B1 := Lib.hid b1
  clear b1 p0 p1 p2 p3 p4 p5 p6 p7 p8 p9 pa pb
  obtain ⟨⟨p0, p1, p2, p3, p4, p5⟩, ⟨p6, p7, p8, p9, pa, pb⟩⟩ := qty_facts (HC.out z1 B1.out)
  obtain ⟨z2, hz2, b2, f2⟩ := box_unit z1 t b m c
  have V2 := Lib.hid hz2; have F2 := Lib.hid f2
  have B2 := Lib.hid (below_up B1.out b2)
  have P2 := Lib.hid (below_up B0.out B2.out)
  clear hz2 b2 f2
  go_upto_region 4 with (rw [V2.out])
  clear p0 p1 p2 p3 p4 p5 p6 p7 p8 p9 pa pb
  have K := Lib.hid (show ∀ W, Below z2.heap.size z2 W → ((W.cell? ⟨w.heap.size, 0, none⟩ = some (.string n) ∧ W.cell? ⟨w.heap.size, 1, none⟩ = some (.string d)) ∧ (W.cell? ⟨z1.heap.size, 0, none⟩ = some (.int .i64 t) ∧ W.cell? ⟨z1.heap.size, 1, none⟩ = some (.int .i64 b) ∧ W.cell? ⟨z1.heap.size, 2, none⟩ = some (.int .i64 m) ∧ W.cell? ⟨z1.heap.size, 3, none⟩ = some (.int .i64 c))) from fun W x => by
   obtain ⟨⟨a0, a1, _, _, _, _⟩, _⟩ := qty_facts (HC.out W (below_up B2.out x))
   exact ⟨⟨a0, a1⟩, (unit_facts (F2.out W x)).1⟩)
  have g := Below.refl z2.heap.size z2
  go_region_held3 (fun W => (W.cell? ⟨w.heap.size, 0, none⟩ = some (.string n) ∧ W.cell? ⟨w.heap.size, 1, none⟩ = some (.string d)) ∧ (W.cell? ⟨z1.heap.size, 0, none⟩ = some (.int .i64 t) ∧ W.cell? ⟨z1.heap.size, 1, none⟩ = some (.int .i64 b) ∧ W.cell? ⟨z1.heap.size, 2, none⟩ = some (.int .i64 m) ∧ W.cell? ⟨z1.heap.size, 3, none⟩ = some (.int .i64 c))) (first | exact K.out _ g | exact K.out _ ⟨g.os, g.tape, g.output, g.size, g.block⟩) (first | (go_at_call 67; (with_reducible refine (CP.out _).mono ?_); (rintro e1 y ⟨rfl, k'⟩); (have g : Below z2.heap.size z2 y := below_up (by first | exact g | exact ⟨g.os, g.tape, g.output, g.size, g.block⟩) k')) | (go_at_call 68; (with_reducible refine (C0.out _).mono ?_); (rintro e1 y ⟨rfl, k'⟩); (have g : Below z2.heap.size z2 y := below_up (by first | exact g | exact ⟨g.os, g.tape, g.output, g.size, g.block⟩) k')) | (go_at_call 68; (with_reducible refine (C1.out _).mono ?_); (rintro e1 y ⟨rfl, k'⟩); (have g : Below z2.heap.size z2 y := below_up (by first | exact g | exact ⟨g.os, g.tape, g.output, g.size, g.block⟩) k')) | (go_at_call 68; (with_reducible refine (C2.out _).mono ?_); (rintro e1 y ⟨rfl, k'⟩); (have g : Below z2.heap.size z2 y := below_up (by first | exact g | exact ⟨g.os, g.tape, g.output, g.size, g.block⟩) k')) | (go_at_call 68; (with_reducible refine (C3.out _).mono ?_); (rintro e1 y ⟨rfl, k'⟩); (have g : Below z2.heap.size z2 y := below_up (by first | exact g | exact ⟨g.os, g.tape, g.output, g.size, g.block⟩) k')))
  all_goals (
   have PE := Lib.hid (below_up P2.out (show Below z2.heap.size z2 _ by first | exact g | exact ⟨g.os, g.tape, g.output, g.size, g.block⟩))
   go_wp2
   go_ret
   first | exact ⟨congrArg (fun s => Ending.returned (.string s)) HE.out, PE.out⟩ | exact ⟨congrArg (fun s => Ending.returned (.string s)) HE.out, PE.out.os, PE.out.tape, PE.out.output, PE.out.size, PE.out.block⟩)
end Go.Proofs.YtcglcgphgahnpaaGreatDoor

namespace Go.Proofs.YtcglcgphgahnpaaGreatDoor
open Go Go.Proofs Go.RowKit Go.Lib
def ByteRow5 (W : World) (B : Nat) (y : List UInt8) : Prop :=
 ∀ j (h : j < y.length), W.cell? ⟨B, j, none⟩ = some (.int .u8 ((y[j].toNat : Nat) : Int)) ∧ W.frozen? ⟨B, j, none⟩ = false
theorem ByteRow5.set {W : World} {B : Nat} {y : List UInt8} (h : ByteRow5 W B y) (i : Nat) (v : UInt8) : ByteRow5 (W.setCell ⟨B, i, none⟩ (.int .u8 ((v.toNat : Nat) : Int))) B (y.set i v) := by
 intro j hj
 have hj2 : j < y.length := by simpa using hj
 refine ⟨?_, by rw [World.frozen?_setCell]; exact (h j hj2).2⟩
 by_cases e : i = j
 · subst e
   rw [World.cell?_setCell_same _ _ _ (h i hj2).1]
   simp
 · rw [List.getElem_set_ne e]
   exact (World.cell?_setCell_other _ _ _ _ (fun e' => e (by injection e'))).trans (h j hj2).1
theorem ByteRow5.bytes {W : World} {B : Nat} {y : List UInt8} (h : ByteRow5 W B y) : Bytes W B 0 ⟨y.toArray⟩ := by
 intro i hi
 have hi2 : i < y.length := by
  have h9 : (⟨y.toArray⟩ : ByteArray).size = y.length := by show y.toArray.size = _; simp
  omega
 rw [Nat.zero_add, (h i hi2).1]
 rfl
theorem ByteRow5.made (w : World) (e : TypeId) (s : ByteArray) : ByteRow5 (bytesWorld w e s) w.heap.size s.data.toList := by
 intro j hj
 have hj2 : j < s.size := by simpa using hj
 refine ⟨?_, ?_⟩
 · rw [bytesWorld_cell w e s j hj2]
   simp [List.getD, hj2]
 · have hsz : s.size ≤ (bytesCells w e s).size := by simp [bytesCells]
   have hne : ¬ (bytesCells w e s).size ≤ j := by omega
   simp [World.frozen?, bytesWorld_at_new, hne]
theorem ByteRow5.below {W W' : World} {B : Nat} {y : List UInt8} (hB : B < W.heap.size) (h : ByteRow5 W B y) (b : Below W.heap.size W W') : ByteRow5 W' B y := fun j hj =>
 ⟨(b.cell (p := ⟨B, j, none⟩) hB).trans (h j hj).1, (b.frozen (p := ⟨B, j, none⟩) hB).trans (h j hj).2⟩
theorem bytes_below5 (w : World) (e : TypeId) (s : ByteArray) : Below w.heap.size w (bytesWorld w e s) :=
 ⟨rfl, rfl, rfl, by rw [bytesWorld_size]; omega, fun k hk => bytesWorld_at_old w e s k hk⟩
theorem byte_of {n : Int} (h0 : 0 ≤ n) (h1 : n ≤ 255) : ∃ u : UInt8, n = ((u.toNat : Nat) : Int) := by
 refine ⟨UInt8.ofNat n.toNat, ?_⟩
 rw [UInt8.toNat_ofNat', Nat.mod_eq_of_lt (by omega)]
 omega
theorem conv5 (W : World) (B C : Nat) (y : List UInt8) (n : Nat) (hn : y.length = n) (h : ByteRow5 W B y) : (convert 44 9 (.slice (some ⟨B, 0, none⟩) n C)).run Tryz.prog W = .ok (.string ⟨y.toArray⟩) W := by
 have := run_convert_whole (P := Tryz.prog) W 44 5 9 Tryz.underlying44 Tryz.underlying5 Tryz.underlying9 B 0 ⟨y.toArray⟩ h.bytes C
 have h9 : (⟨y.toArray⟩ : ByteArray).size = n := by show y.toArray.size = _; simp [hn]
 rwa [h9] at this
theorem bytesOf_size (y : List UInt8) : (⟨y.toArray⟩ : ByteArray).size = y.length := by show y.toArray.size = _; simp
theorem list_size5 (s : ByteArray) : s.data.toList.length = s.size := by rw [Array.length_toList]; rfl
theorem strs_elem : Tryz.prog.underlying 45 = some (.slice (Tryz.prog.elem 45)) := by kernel_rfl
theorem strs_cells (w : World) : (Go.sizeOf (Tryz.prog.elem 45)).run Tryz.prog w = .ok 1 w := by kernel_rfl
theorem at_strs (g n k : Nat) (hk : k < n) (w : World) : (Instr.indexAt 45 (.slice (some ⟨g, 0, none⟩) n n) (.int .i64 (k : Int))).run Tryz.prog w = .ok (.pointer (some ⟨g, k, none⟩)) w := by
 rw [run_indexAt_slice w 45 _ _ _ _ _ strs_elem, if_pos (by omega)]
 simp [strs_cells, add_at, Result.andThen]
theorem rem5 (k n : Nat) (h : 0 < n) : ∃ j : Nat, j < n ∧ ((k : Int)).tmod (n : Int) = (j : Int) := by
 refine ⟨k % n, Nat.mod_lt _ h, ?_⟩
 rw [Int.tmod_eq_emod_of_nonneg (by omega)]
 omega
end Go.Proofs.YtcglcgphgahnpaaGreatDoor
