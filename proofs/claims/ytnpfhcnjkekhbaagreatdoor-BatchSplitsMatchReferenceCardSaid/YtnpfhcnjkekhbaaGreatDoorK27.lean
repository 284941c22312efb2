/-
  Layer 9, the program: a batch decoded; what is not there is recovered from. Layer 9, the program: DecodeBatch. Layer 9: what sane asks, plain: one event, its encoding, its batches. Layer 9: the program's contracts at what sane asks. Layer 9: a part of a stream that Split has returned: its fields, what it is, and what Valid and Follows say of it. Layer 9, the reference: rows of batches that read as batches; SameBatches. Layer 9: the law's sane.
-/
import Derived.Test.YtnpfhcnjkekhbaaGreatDoorProg
import Derived.Test.YtnpfhcnjkekhbaaGreatDoorK26
import Derived.Defers
import Derived.Recover
import Derived.Sort.CutIn
import Derived.Shelf.Strings.BuilderK
import Derived.Shelf.Strings.Repeat
import Derived.Maps.Own
import Derived.Maps.OwnOps
import Derived.Laws.Rows
import Derived.Laws.OwnMore
import Derived.OwnWalk
import Derived.WalkKit
import Derived.WalkLawsBesides
import Derived.Outline
import Derived.Lib.Hide
import Derived.Below
import Derived.BigQuiet
import Derived.Deep.QuietTactic
import Derived.Deep.RegionHeld3
import Derived.Lib.QuietBelow
import Derived.Deep.DeepCutAuto
import Derived.StillTail
import Derived.Lib.Varint
import Derived.Lib.SlBytesRow
import Derived.Shelf.Abstract
import Derived.OwnWalkIn
import Derived.TacticsInMore
import Derived.LoopNIn
import Derived.LoopIn
import Derived.RangeFuncNested
import Derived.RangeFuncBound
import Derived.RangeFuncCalls
import Derived.RangeFuncLeaves
import Derived.RangeFuncBox
import Derived.Lib.ConvBytes
import Derived.DefersIn
import Derived.Laws.CopyOwn
import Derived.RegionTactic
import Derived.ChangeAlike
import Derived.Deep.RegionWith
import Derived.Deep.CutRange
import Derived.IntWalk
import Derived.Lib.EndianBits
import Derived.Lib.Strings
import Derived.ControlIn
import Derived.WalkMore
import Derived.Lib.SliceRun
import Derived.RangeFuncRecord
import Derived.Shelf.LaysM
import Derived.Shelf.Strconv.Clone
import Derived.RangeFuncFrom
import Derived.TacticsIn
import Derived.OrdersIn
import Derived.Laws.MakeOwn
import Derived.Laws.StructEq
set_option maxRecDepth 100000
set_option maxHeartbeats 16000000
namespace Go.Proofs.YtnpfhcnjkekhbaaGreatDoor
open Go Go.Proofs Go.RowKit Go.Lib Go.Sort
theorem catchB_pan (p : Addr) (x : Int) (older : List PanicEntry) (w : World) (hc : w.cell? p = some (.int .i64 x)) (hz : w.frozen? p = false) :
 CallsD Tryz.prog 79 #[.pointer (some p)] (.panicking ({ v := .iface 30 (.int .i64 90), recovered := false } :: older)) w fun e u' w' =>
  e = .returned (.tuple #[]) ∧ u' = .panicking ({ v := .iface 30 (.int .i64 90), recovered := true } :: older) ∧ w' = w.setCell p (.int .i64 90) := by
 refine callsD_of_wpS Tryz.func79 rfl fun c₀ cs hu => ?_
 apply wpS_seq
 apply wpS_region
 simp [wpOpsS, go_sem, recoverD, hu, Tryz.ntmps79, Exit.thenS]
 refine wpS_cond (t := true) (by simp [Act.eval, Array.replicate]) ?_
 simp only [if_true]
 apply wpS_region
 simp [wpOpsS, go_sem, hc, hz, bodyPostS, results, Tryz.results79]
theorem catchB_idle (p : Addr) (w : World) :
 CallsD Tryz.prog 79 #[.pointer (some p)] .returning w fun e u' w' => e = .returned (.tuple #[]) ∧ u' = .returning ∧ w' = w := by
 refine callsD_of_wpS Tryz.func79 rfl fun c₀ cs hu => ?_
 apply wpS_seq
 apply wpS_region
 simp [wpOpsS, go_sem, recoverD, hu, Tryz.ntmps79, Exit.thenS]
 refine wpS_cond (t := false) (by simp [Act.eval, Array.replicate]) ?_
 simp only [Bool.false_eq_true, if_false]
 refine wpS_of_wp (wp_skip ?_)
 cases c₀
 simp_all [bodyPostS, results, Tryz.results79]
theorem belowB9 {w W : World} {v0 v1 v2 v3 v4 : Value} (h : Below w.heap.size w W) : Below w.heap.size w (((((W.setCell ⟨w.heap.size, 0, none⟩ (v0)).setCell ⟨w.heap.size, 1, none⟩ (v1)).setCell ⟨w.heap.size, 2, none⟩ (v2)).setCell ⟨w.heap.size, 3, none⟩ (v3)).setCell ⟨w.heap.size, 4, none⟩ (v4)) := (((((h.setCell (Nat.le_refl _) _).setCell (Nat.le_refl _) _).setCell (Nat.le_refl _) _).setCell (Nat.le_refl _) _).setCell (Nat.le_refl _) _)
theorem farD9 {W : World} {A B : Nat} {v0 v1 v2 v3 v4 : Value} {vs : List Value} (hne : A ≠ B) (h : CellsAt W B vs) : CellsAt (((((W.setCell ⟨A, 0, none⟩ (v0)).setCell ⟨A, 1, none⟩ (v1)).setCell ⟨A, 2, none⟩ (v2)).setCell ⟨A, 3, none⟩ (v3)).setCell ⟨A, 4, none⟩ (v4)) B vs := (((((h.far hne).far hne).far hne).far hne).far hne)
theorem farF9 {W : World} {A B j : Nat} {v0 v1 v2 v3 v4 u : Value} (hne : A ≠ B) (h : W.cell? ⟨B, j, none⟩ = some u) : (((((W.setCell ⟨A, 0, none⟩ (v0)).setCell ⟨A, 1, none⟩ (v1)).setCell ⟨A, 2, none⟩ (v2)).setCell ⟨A, 3, none⟩ (v3)).setCell ⟨A, 4, none⟩ (v4)).cell? ⟨B, j, none⟩ = some u := by
 have far : ∀ (X : World) (i : Nat) (v : Value), (X.setCell ⟨A, i, none⟩ v).cell? ⟨B, j, none⟩ = X.cell? ⟨B, j, none⟩ := fun X i v => World.cell?_setCell_other _ _ _ _ (fun e => hne (by injection e))
 simp only [far]
 exact h
theorem farR9 {W : World} {A base : Nat} {ad : Option Addr} {l : List Ev} {v0 v1 v2 v3 v4 : Value} (hA : A < base) (h : RN KE W base ad l) : RN KE (((((W.setCell ⟨A, 0, none⟩ (v0)).setCell ⟨A, 1, none⟩ (v1)).setCell ⟨A, 2, none⟩ (v2)).setCell ⟨A, 3, none⟩ (v3)).setCell ⟨A, 4, none⟩ (v4)) base ad l := (((((h.far hA).far hA).far hA).far hA).far hA)
def DecBP (s : ByteArray) (a : Int) (w : World) (e : Ending) (w' : World) : Prop := Below w.heap.size w w' ∧
 ((∃ b c ad n sc, btG s a = some (b, c) ∧ e = .returned (.tuple #[.agg #[.int .i64 b.ag, .int .i64 b.fs, .slice ad n sc, .int .i64 b.lw, .string b.hd], .int .i64 c, .int .i64 0]) ∧ n = b.ev.length ∧ n ≤ sc ∧ (ad = none → sc = 0) ∧ RN KE w' w.heap.size ad b.ev) ∨
  (btG s a = none ∧ e = .returned (.tuple #[.agg #[.int .i64 0, .int .i64 0, .slice none 0 0, .int .i64 0, .string ⟨#[]⟩], .int .i64 0, .int .i64 90])))
theorem decodeB_u (s : ByteArray) (hs : s.size ≤ 140737488355328) (a : Int) (w : World) (hRd : Rdy w) :
 Calls Tryz.prog 56 #[.string s, .int .i64 a, .func (.func 57) #[] #[]] w (DecBP s a w) := by
 have hmf : ∀ (fn : Fn) (first cap : Array Value) (w : World), (Instr.makeFunc fn first cap).run Tryz.prog w = .ok (.func fn first cap) w := fun _ _ _ _ => rfl
 obtain ⟨w1, V1, Z1, K1, B1⟩ := lay8 w [.int .i64 0, .int .i64 0, .slice none 0 0, .int .i64 0, .string ⟨#[]⟩] 26
 have V1 := (show w.alloc (.cells #[.int .i64 0, .int .i64 0, .slice none 0 0, .int .i64 0, .string ⟨#[]⟩] 26) = w1 from V1)
 obtain ⟨w2, V2, Z2, K2, B2⟩ := lay8 w1 [.int .i64 0] 30
 have V2 := (show w1.alloc (.cells #[.int .i64 0] 30) = w2 from V2)
 obtain ⟨w3, V3, Z3, K3, B3⟩ := lay8 w2 [.string s, .int .i64 a] 108
 have V3 := (show w2.alloc (.cells #[.string s, .int .i64 a] 108) = w3 from V3)
 rw [Z1] at Z2 K2 B2
 rw [Z2] at Z3 K3 B3
 have KA := (K1.up B2 (by omega)).up B3 (by omega)
 have KB := K2.up B3 (by omega)
 have hB3 : Below w.heap.size w w3 := B1.trans ((B2.mono (by omega)).trans (B3.mono (by omega)))
 have HEV := Lib.hid (batch9_u s hs (w.heap.size + 1 + 1) a w3 (hRd.below hB3) (by have := hRd.lt; omega) (by omega) (K3 0 (by simp)).1 (K3 1 (by simp)).1 (K3 1 (by simp)).2)
 have HB3 := Lib.hid hB3
 have HKA := Lib.hid KA
 have HKB := Lib.hid KB
 have HZ3 := Lib.hid (show w3.heap.size = w.heap.size + 1 + 1 + 1 from Z3)
 clear K1 K2 K3 B1 B2 B3 KA KB hB3 hRd Z3
 go_enter_defers Tryz.func56, Tryz.ntmps56
 go_wp2_with fail
 refine HEV.out.mono ?_
 rintro e w4 ⟨hg, (⟨b, c, ad, n, sc, hx, rfl, hn1, hn2, hn3, hrn, c0, c1, cz⟩ | ⟨hn, rfl⟩)⟩
 rotate_left
 · have HW := Lib.hid (show Below w.heap.size w w4 from HB3.out.trans (below_grown9 hg (by rw [HZ3.out]; omega) |>.mono (by omega)))
   have hblA : w4.heap[w.heap.size]? = w3.heap[w.heap.size]? := hg.block w.heap.size (by rw [HZ3.out]; omega) (fun e => by injection e; omega)
   have hblB : w4.heap[w.heap.size + 1]? = w3.heap[w.heap.size + 1]? := hg.block (w.heap.size + 1) (by rw [HZ3.out]; omega) (fun e => by injection e; omega)
   have HKA4 := Lib.hid (show CellsAt w4 w.heap.size [.int .i64 0, .int .i64 0, .slice none 0 0, .int .i64 0, .string ⟨#[]⟩] from fun i h => ⟨(World.cell?_of_block (a := ⟨w.heap.size, i, none⟩) hblA).trans (HKA.out i h).1, (frozen_of_block9 hblA).trans (HKA.out i h).2⟩)
   have HKB4 := Lib.hid (show CellsAt w4 (w.heap.size + 1) [.int .i64 0] from fun i h => ⟨(World.cell?_of_block (a := ⟨w.heap.size + 1, i, none⟩) hblB).trans (HKB.out i h).1, (frozen_of_block9 hblB).trans (HKB.out i h).2⟩)
   have HN := Lib.hid hn
   clear hg hn V1 V2 V3 hblA hblB
   refine leaves_cons (f := 79) (args := #[.pointer (some ⟨w.heap.size + 1, 0, none⟩)]) (by simp) (by simp [go_sem]) ?_
   refine (catchB_pan ⟨w.heap.size + 1, 0, none⟩ 0 [] _ (HKB4.out 0 (by simp)).1 (HKB4.out 0 (by simp)).2).mono ?_
   rintro e u' w'' ⟨rfl, rfl, rfl⟩
   have KK := HKA4.out.far (A := w.heap.size + 1) (i := 0) (v := .int .i64 90) (by omega)
   have h8 : (w4.setCell ⟨w.heap.size + 1, 0, none⟩ (.int .i64 90)).cell? ⟨w.heap.size + 1, 0, none⟩ = some (.int .i64 90) := World.cell?_setCell_same _ _ _ (HKB4.out 0 (by simp)).1
   have HBE := Lib.hid (HW.out.setCell (p := ⟨w.heap.size + 1, 0, none⟩) (by show w.heap.size ≤ w.heap.size + 1; omega) (.int .i64 90))
   generalize (w4.setCell ⟨w.heap.size + 1, 0, none⟩ (.int .i64 90)) = w9 at *
   obtain ⟨k0, _⟩ := KK 0 (by simp)
   obtain ⟨k1, _⟩ := KK 1 (by simp)
   obtain ⟨k2, _⟩ := KK 2 (by simp)
   obtain ⟨k3, _⟩ := KK 3 (by simp)
   obtain ⟨k4, _⟩ := KK 4 (by simp)
   simp only [List.getElem_cons_zero, List.getElem_cons_succ] at k0 k1 k2 k3 k4
   have HP := Lib.hid (show DecBP s a w (.returned (.tuple #[.agg #[.int .i64 0, .int .i64 0, .slice none 0 0, .int .i64 0, .string ⟨#[]⟩], .int .i64 0, .int .i64 90])) w9 from ⟨HBE.out, .inr ⟨HN.out, rfl⟩⟩)
   simp [Leaves, settle, results, Tryz.results56, go_sem, k0, k1, k2, k3, k4, h8]
   exact HP.out
 have HW := Lib.hid (show Below w.heap.size w w4 from HB3.out.trans (below_grown9 hg (by rw [HZ3.out]; omega) |>.mono (by omega)))
 have hblA : w4.heap[w.heap.size]? = w3.heap[w.heap.size]? := hg.block w.heap.size (by rw [HZ3.out]; omega) (fun e => by injection e; omega)
 have hblB : w4.heap[w.heap.size + 1]? = w3.heap[w.heap.size + 1]? := hg.block (w.heap.size + 1) (by rw [HZ3.out]; omega) (fun e => by injection e; omega)
 have HKA4 := Lib.hid (show CellsAt w4 w.heap.size [.int .i64 0, .int .i64 0, .slice none 0 0, .int .i64 0, .string ⟨#[]⟩] from fun i h => ⟨(World.cell?_of_block (a := ⟨w.heap.size, i, none⟩) hblA).trans (HKA.out i h).1, (frozen_of_block9 hblA).trans (HKA.out i h).2⟩)
 have HKB4 := Lib.hid (show CellsAt w4 (w.heap.size + 1) [.int .i64 0] from fun i h => ⟨(World.cell?_of_block (a := ⟨w.heap.size + 1, i, none⟩) hblB).trans (HKB.out i h).1, (frozen_of_block9 hblB).trans (HKB.out i h).2⟩)
 have HC1 := Lib.hid c1
 have HX := Lib.hid (show btG s a = some (b, c) ∧ n = b.ev.length ∧ n ≤ sc ∧ (ad = none → sc = 0) from ⟨hx, hn1, hn2, hn3⟩)
 have HRN := Lib.hid hrn
 obtain ⟨g0, g0'⟩ := HKA4.out 0 (by simp)
 obtain ⟨g1, g1'⟩ := HKA4.out 1 (by simp)
 obtain ⟨g2, g2'⟩ := HKA4.out 2 (by simp)
 obtain ⟨g3, g3'⟩ := HKA4.out 3 (by simp)
 obtain ⟨g4, g4'⟩ := HKA4.out 4 (by simp)
 simp only [List.getElem_cons_zero, List.getElem_cons_succ] at g0 g1 g2 g3 g4
 obtain ⟨w5, hw5, K5, B5, D5⟩ : ∃ w5, (((((w4.setCell ⟨w.heap.size, 0, none⟩ (.int .i64 b.ag)).setCell ⟨w.heap.size, 1, none⟩ (.int .i64 b.fs)).setCell ⟨w.heap.size, 2, none⟩ (.slice ad n sc)).setCell ⟨w.heap.size, 3, none⟩ (.int .i64 b.lw)).setCell ⟨w.heap.size, 4, none⟩ (.string b.hd)) = w5 ∧ CellsAt w5 w.heap.size [.int .i64 b.ag, .int .i64 b.fs, .slice ad n sc, .int .i64 b.lw, .string b.hd] ∧ CellsAt w5 (w.heap.size + 1) [.int .i64 0] ∧ w5.cell? ⟨w.heap.size + 1 + 1, 1, none⟩ = some (.int .i64 c) := ⟨_, rfl, (((((HKA4.out.put 0 _).put 1 _).put 2 _).put 3 _).put 4 _), farD9 (by omega) HKB4.out, farF9 (by omega) HC1.out⟩
 have HW5 := Lib.hid (show Below w.heap.size w w5 from by rw [← hw5]; exact belowB9 HW.out)
 have HR5 := Lib.hid (show RN KE w5 w3.heap.size ad b.ev from by rw [← hw5]; exact farR9 (by rw [HZ3.out]; omega) HRN.out)
 obtain ⟨w6, hw6, K6, B6, D6⟩ : ∃ w6, ((((({ w5 with drawn := w5.drawn + 1 }.setCell ⟨w.heap.size, 0, none⟩ (.int .i64 b.ag)).setCell ⟨w.heap.size, 1, none⟩ (.int .i64 b.fs)).setCell ⟨w.heap.size, 2, none⟩ (.slice ad n sc)).setCell ⟨w.heap.size, 3, none⟩ (.int .i64 b.lw)).setCell ⟨w.heap.size, 4, none⟩ (.string b.hd)) = w6 ∧ CellsAt w6 w.heap.size [.int .i64 b.ag, .int .i64 b.fs, .slice ad n sc, .int .i64 b.lw, .string b.hd] ∧ CellsAt w6 (w.heap.size + 1) [.int .i64 0] ∧ w6.cell? ⟨w.heap.size + 1 + 1, 1, none⟩ = some (.int .i64 c) := ⟨_, rfl, ((((((show CellsAt { w5 with drawn := w5.drawn + 1 } w.heap.size [.int .i64 b.ag, .int .i64 b.fs, .slice ad n sc, .int .i64 b.lw, .string b.hd] from K5).put 0 _).put 1 _).put 2 _).put 3 _).put 4 _), farD9 (by omega) B5, farF9 (by omega) D5⟩
 have HW6 := Lib.hid (show Below w.heap.size w w6 from by rw [← hw6]; exact belowB9 (show Below w.heap.size w { w5 with drawn := w5.drawn + 1 } from ⟨HW5.out.os, HW5.out.tape, HW5.out.output, HW5.out.size, HW5.out.block⟩))
 have HR6 := Lib.hid (show RN KE w6 w3.heap.size ad b.ev from by rw [← hw6]; exact farR9 (by rw [HZ3.out]; omega) (show RN KE { w5 with drawn := w5.drawn + 1 } w3.heap.size ad b.ev from HR5.out))
 obtain ⟨w7, hw7⟩ : ∃ w7, { w5 with drawn := w5.drawn + 1 } = w7 := ⟨_, rfl⟩
 rw [hw7] at hw6
 have K7 := (show CellsAt w7 w.heap.size [.int .i64 b.ag, .int .i64 b.fs, .slice ad n sc, .int .i64 b.lw, .string b.hd] from by rw [← hw7]; exact K5)
 have D7 := (show w7.cell? ⟨w.heap.size + 1 + 1, 1, none⟩ = some (.int .i64 c) from by rw [← hw7]; exact D5)
 have HY := Lib.hid (show ∀ A, Two9 w7 w6 A → (A.cell? ⟨w.heap.size, 0, none⟩ = some (.int .i64 b.ag) ∧ A.cell? ⟨w.heap.size, 1, none⟩ = some (.int .i64 b.fs) ∧ A.cell? ⟨w.heap.size, 2, none⟩ = some (.slice ad n sc) ∧ A.cell? ⟨w.heap.size, 3, none⟩ = some (.int .i64 b.lw) ∧ A.cell? ⟨w.heap.size, 4, none⟩ = some (.string b.hd)) ∧ A.cell? ⟨w.heap.size + 1 + 1, 1, none⟩ = some (.int .i64 c) from fun A hA => by
  rcases hA with rfl | rfl
  · exact ⟨⟨(K7 0 (by simp)).1, (K7 1 (by simp)).1, (K7 2 (by simp)).1, (K7 3 (by simp)).1, (K7 4 (by simp)).1⟩, D7⟩
  · exact ⟨⟨(K6 0 (by simp)).1, (K6 1 (by simp)).1, (K6 2 (by simp)).1, (K6 3 (by simp)).1, (K6 4 (by simp)).1⟩, D6⟩)
 have HK6 := Lib.hid K6
 have HB6 := Lib.hid B6
 have HK7 := Lib.hid K7
 clear hg hx hn1 hn2 hn3 hrn V1 V2 V3 c0 c1 cz K5 K6 K7 B5 B6 D5 D6 D7 hblA hblB
 go_upto_region 4 with fail
 clear hw5 g0 g0' g1 g1' g2 g2' g3 g3' g4 g4'
 refine wp_region_noPanic ?_
 refine wp_region_K (C := Two9 w7 w6) [7] 7 #[false, false, false, false, false, false, false, false] (by kernel_rfl) (by kernel_rfl) (by kernel_rfl) (.inl hw7) ?_
 rw [hw7]
 refine wpAnyK_ex (i := 0) rfl (by kernel_rfl) (listed' := #[true, false, false, false, false, false, false, false]) rfl (fun _ _ _ _ _ h => h) (.inl rfl) ?_
 apply Exists.intro
 refine ⟨⟨by kernel_rfl, fun wy hw => ?_⟩, ?_⟩
 · (obtain ⟨⟨y0, y1, y2, y3, y4⟩, z1⟩ := HY.out wy hw; go_simp; try (first | (with_reducible rfl) | (with_reducible exact ⟨rfl, rfl⟩)))
 try simp only [Act.put, List.getElem_toArray, List.getElem_cons_zero, List.setIfInBounds_toArray, List.set_cons_succ, List.set_cons_zero]
 refine wpAnyK_ex (i := 1) rfl (by kernel_rfl) (listed' := #[true, true, false, false, false, false, false, false]) rfl (fun _ _ _ _ _ h => h) (.inl rfl) ?_
 apply Exists.intro
 refine ⟨⟨by kernel_rfl, fun wy hw => ?_⟩, ?_⟩
 · (obtain ⟨⟨y0, y1, y2, y3, y4⟩, z1⟩ := HY.out wy hw; go_simp; try (first | (with_reducible rfl) | (with_reducible exact ⟨rfl, rfl⟩)))
 try simp only [Act.put, List.getElem_toArray, List.getElem_cons_succ, List.getElem_cons_zero, List.setIfInBounds_toArray, List.set_cons_succ, List.set_cons_zero]
 refine wpAnyK_ex (i := 2) rfl (by kernel_rfl) (listed' := #[true, true, true, false, false, false, false, false]) rfl (fun _ _ _ _ _ h => h) (.inl rfl) ?_
 apply Exists.intro
 refine ⟨⟨by kernel_rfl, fun wy hw => ?_⟩, ?_⟩
 · (obtain ⟨⟨y0, y1, y2, y3, y4⟩, z1⟩ := HY.out wy hw; go_simp; try (first | (with_reducible rfl) | (with_reducible exact ⟨rfl, rfl⟩)))
 try simp only [Act.put, List.getElem_toArray, List.getElem_cons_succ, List.getElem_cons_zero, List.setIfInBounds_toArray, List.set_cons_succ, List.set_cons_zero]
 refine wpAnyK_ex (i := 3) rfl (by kernel_rfl) (listed' := #[true, true, true, true, false, false, false, false]) rfl (fun _ _ _ _ _ h => h) (.inl rfl) ?_
 apply Exists.intro
 refine ⟨⟨by kernel_rfl, fun wy hw => ?_⟩, ?_⟩
 · (obtain ⟨⟨y0, y1, y2, y3, y4⟩, z1⟩ := HY.out wy hw; go_simp; try (first | (with_reducible rfl) | (with_reducible exact ⟨rfl, rfl⟩)))
 try simp only [Act.put, List.getElem_toArray, List.getElem_cons_succ, List.getElem_cons_zero, List.setIfInBounds_toArray, List.set_cons_succ, List.set_cons_zero]
 refine wpAnyK_ex (i := 4) rfl (by kernel_rfl) (listed' := #[true, true, true, true, true, false, false, false]) rfl (fun _ _ _ _ _ h => h) (.inl rfl) ?_
 apply Exists.intro
 refine ⟨⟨by kernel_rfl, fun wy hw => ?_⟩, ?_⟩
 · (obtain ⟨⟨y0, y1, y2, y3, y4⟩, z1⟩ := HY.out wy hw; go_simp; try (first | (with_reducible rfl) | (with_reducible exact ⟨rfl, rfl⟩)))
 try simp only [Act.put, List.getElem_toArray, List.getElem_cons_succ, List.getElem_cons_zero, List.setIfInBounds_toArray, List.set_cons_succ, List.set_cons_zero]
 obtain ⟨g0, g0'⟩ := HK7.out 0 (by simp)
 obtain ⟨g1, g1'⟩ := HK7.out 1 (by simp)
 obtain ⟨g2, g2'⟩ := HK7.out 2 (by simp)
 obtain ⟨g3, g3'⟩ := HK7.out 3 (by simp)
 obtain ⟨g4, g4'⟩ := HK7.out 4 (by simp)
 simp only [List.getElem_cons_zero, List.getElem_cons_succ] at g0 g1 g2 g3 g4
 refine wpAnyK_fork1 5 (by kernel_rfl) ?_
 refine wpOpK_step rfl (by kernel_rfl) (listed' := #[true, true, true, true, true, true, false, false]) rfl (by kernel_rfl) (fun K hK => ?_)
 go_simp
 refine hK _ _ (.inr rfl) ?_
 clear hK K g0 g0' g1 g1' g2 g2' g3 g3' g4 g4'
 try simp only [Act.put, List.getElem_toArray, List.getElem_cons_succ, List.getElem_cons_zero, List.setIfInBounds_toArray, List.set_cons_succ, List.set_cons_zero]
 refine wpAnyK_ex (i := 6) rfl (by kernel_rfl) (listed' := #[true, true, true, true, true, true, true, false]) rfl (fun _ _ _ _ _ h => h) (.inr rfl) ?_
 apply Exists.intro
 refine ⟨⟨by kernel_rfl, fun wy hw => ?_⟩, ?_⟩
 · (obtain ⟨⟨y0, y1, y2, y3, y4⟩, z1⟩ := HY.out wy hw; go_simp; try (first | (with_reducible rfl) | (with_reducible exact ⟨rfl, rfl⟩)))
 try simp only [Act.put, List.getElem_toArray, List.getElem_cons_succ, List.getElem_cons_zero, List.setIfInBounds_toArray, List.set_cons_succ, List.set_cons_zero]
 refine wpAnyK_end (by kernel_rfl) ?_
 try simp only [pickOps, List.filterMap_cons, List.filterMap_nil, List.getElem?_toArray, List.getElem?_cons_succ, List.getElem?_cons_zero]
 obtain ⟨s8, s8'⟩ := HB6.out 0 (by simp)
 simp only [List.getElem_cons_zero] at s8
 go_wp2_with fail
 refine NoPanic.normal ?_
 go_wp2_with fail
 refine leaves_cons (f := 79) (args := #[.pointer (some ⟨w.heap.size + 1, 0, none⟩)]) (by simp) (by simp [go_sem]) ?_
 refine (catchB_idle ⟨w.heap.size + 1, 0, none⟩ _).mono ?_
 rintro e u' w'' ⟨rfl, rfl, rfl⟩
 have KK := HK6.out.far (A := w.heap.size + 1) (i := 0) (v := .int .i64 0) (by omega)
 have h8 : (w6.setCell ⟨w.heap.size + 1, 0, none⟩ (.int .i64 0)).cell? ⟨w.heap.size + 1, 0, none⟩ = some (.int .i64 0) := World.cell?_setCell_same _ _ _ s8
 have HBE := Lib.hid (HW6.out.setCell (p := ⟨w.heap.size + 1, 0, none⟩) (by show w.heap.size ≤ w.heap.size + 1; omega) (.int .i64 0))
 have HRE := Lib.hid (HR6.out.far (B := w.heap.size + 1) (i := 0) (u := .int .i64 0) (by rw [HZ3.out]; omega))
 generalize (w6.setCell ⟨w.heap.size + 1, 0, none⟩ (.int .i64 0)) = w9 at *
 obtain ⟨k0, _⟩ := KK 0 (by simp)
 obtain ⟨k1, _⟩ := KK 1 (by simp)
 obtain ⟨k2, _⟩ := KK 2 (by simp)
 obtain ⟨k3, _⟩ := KK 3 (by simp)
 obtain ⟨k4, _⟩ := KK 4 (by simp)
 simp only [List.getElem_cons_zero, List.getElem_cons_succ] at k0 k1 k2 k3 k4
 have HP := Lib.hid (show DecBP s a w (.returned (.tuple #[.agg #[.int .i64 b.ag, .int .i64 b.fs, .slice ad n sc, .int .i64 b.lw, .string b.hd], .int .i64 c, .int .i64 0])) w9 from ⟨HBE.out, .inl ⟨b, c, ad, n, sc, HX.out.1, rfl, HX.out.2.1, HX.out.2.2.1, HX.out.2.2.2, RN.base (base := w3.heap.size) (base' := w.heap.size) HRE.out (by rw [HZ3.out]; omega)⟩⟩)
 simp [Leaves, settle, results, Tryz.results56, go_sem, k0, k1, k2, k3, k4, h8]
 exact HP.out
end Go.Proofs.YtnpfhcnjkekhbaaGreatDoor

namespace Go.Proofs.YtnpfhcnjkekhbaaGreatDoor
open Go Go.Proofs Go.RowKit Go.Lib Go.Sort
theorem decodeBatch_u (s : ByteArray) (hs : s.size ≤ 140737488355328) (a : Int) (w : World) (hRd : Rdy w) :
 Calls Tryz.prog 24 #[.string s, .int .i64 a] w (DecBP s a w) := by
 obtain ⟨w1, V1, Z1, K1, B1⟩ := lay8 w [.int .i64 0, .int .i64 0, .slice none 0 0, .int .i64 0, .string ⟨#[]⟩] 26
 have V1 := (show w.alloc (.cells #[.int .i64 0, .int .i64 0, .slice none 0 0, .int .i64 0, .string ⟨#[]⟩] 26) = w1 from V1)
 have HD := Lib.hid (decodeB_u s hs a w1 (hRd.below B1))
 have HB1 := Lib.hid B1
 have HK1 := Lib.hid K1
 have HZ1 := Lib.hid Z1
 clear K1 B1 hRd Z1
 go_enter Tryz.func24, Tryz.ntmps24
 go_wp2_with fail
 refine HD.out.mono ?_
 rintro e w4 ⟨hb, (⟨b, c, ad, n, sc, hx, rfl, hn1, hn2, hn3, hrn⟩ | ⟨hn, rfl⟩)⟩
 · have HW := Lib.hid (below_up8 HB1.out hb)
   have HK4 := Lib.hid (HK1.out.below hb)
   have HX := Lib.hid (show btG s a = some (b, c) ∧ n = b.ev.length ∧ n ≤ sc ∧ (ad = none → sc = 0) from ⟨hx, hn1, hn2, hn3⟩)
   have HRN := Lib.hid hrn
   clear hx hn1 hn2 hn3 hrn
   clear hb V1
   obtain ⟨g0, g0'⟩ := HK4.out 0 (by simp)
   obtain ⟨g1, g1'⟩ := HK4.out 1 (by simp)
   obtain ⟨g2, g2'⟩ := HK4.out 2 (by simp)
   obtain ⟨g3, g3'⟩ := HK4.out 3 (by simp)
   obtain ⟨g4, g4'⟩ := HK4.out 4 (by simp)
   simp only [List.getElem_cons_zero, List.getElem_cons_succ] at g0 g1 g2 g3 g4
   obtain ⟨w5, hw5, K5⟩ : ∃ w5, (((((w4.setCell ⟨w.heap.size, 0, none⟩ (.int .i64 b.ag)).setCell ⟨w.heap.size, 1, none⟩ (.int .i64 b.fs)).setCell ⟨w.heap.size, 2, none⟩ (.slice ad n sc)).setCell ⟨w.heap.size, 3, none⟩ (.int .i64 b.lw)).setCell ⟨w.heap.size, 4, none⟩ (.string b.hd)) = w5 ∧ CellsAt w5 w.heap.size [.int .i64 b.ag, .int .i64 b.fs, .slice ad n sc, .int .i64 b.lw, .string b.hd] := ⟨_, rfl, (((((HK4.out.put 0 _).put 1 _).put 2 _).put 3 _).put 4 _)⟩
   have HW5 := Lib.hid (show Below w.heap.size w w5 from by rw [← hw5]; exact belowB9 HW.out)
   have HR5 := Lib.hid (show RN KE w5 w1.heap.size ad b.ev from by rw [← hw5]; exact farR9 (by rw [HZ1.out]; omega) HRN.out)
   have HP := Lib.hid (show DecBP s a w (.returned (.tuple #[.agg #[.int .i64 b.ag, .int .i64 b.fs, .slice ad n sc, .int .i64 b.lw, .string b.hd], .int .i64 c, .int .i64 0])) w5 from ⟨HW5.out, .inl ⟨b, c, ad, n, sc, HX.out.1, rfl, HX.out.2.1, HX.out.2.2.1, HX.out.2.2.2, RN.base (base := w1.heap.size) (base' := w.heap.size) HR5.out (by rw [HZ1.out]; omega)⟩⟩)
   obtain ⟨f0, _⟩ := K5 0 (by simp)
   obtain ⟨f1, _⟩ := K5 1 (by simp)
   obtain ⟨f2, _⟩ := K5 2 (by simp)
   obtain ⟨f3, _⟩ := K5 3 (by simp)
   obtain ⟨f4, _⟩ := K5 4 (by simp)
   simp only [List.getElem_cons_zero, List.getElem_cons_succ] at f0 f1 f2 f3 f4
   clear K5
   go_wp2_with fail
   exact bodyPost_ret (v := .tuple #[.agg #[.int .i64 b.ag, .int .i64 b.fs, .slice ad n sc, .int .i64 b.lw, .string b.hd], .int .i64 c, .int .i64 0]) (by simp [results, Tryz.results24, go_sem, f0, f1, f2, f3, f4]) rfl HP.out
 · have HW := Lib.hid (below_up8 HB1.out hb)
   have HK4 := Lib.hid (HK1.out.below hb)
   have HN := Lib.hid hn
   clear hn
   clear hb V1
   obtain ⟨g0, g0'⟩ := HK4.out 0 (by simp)
   obtain ⟨g1, g1'⟩ := HK4.out 1 (by simp)
   obtain ⟨g2, g2'⟩ := HK4.out 2 (by simp)
   obtain ⟨g3, g3'⟩ := HK4.out 3 (by simp)
   obtain ⟨g4, g4'⟩ := HK4.out 4 (by simp)
   simp only [List.getElem_cons_zero, List.getElem_cons_succ] at g0 g1 g2 g3 g4
   obtain ⟨w5, hw5, K5⟩ : ∃ w5, (((((w4.setCell ⟨w.heap.size, 0, none⟩ (.int .i64 0)).setCell ⟨w.heap.size, 1, none⟩ (.int .i64 0)).setCell ⟨w.heap.size, 2, none⟩ (.slice none 0 0)).setCell ⟨w.heap.size, 3, none⟩ (.int .i64 0)).setCell ⟨w.heap.size, 4, none⟩ (.string ⟨#[]⟩)) = w5 ∧ CellsAt w5 w.heap.size [.int .i64 0, .int .i64 0, .slice none 0 0, .int .i64 0, .string ⟨#[]⟩] := ⟨_, rfl, (((((HK4.out.put 0 _).put 1 _).put 2 _).put 3 _).put 4 _)⟩
   have HW5 := Lib.hid (show Below w.heap.size w w5 from by rw [← hw5]; exact belowB9 HW.out)
   have HP := Lib.hid (show DecBP s a w (.returned (.tuple #[.agg #[.int .i64 0, .int .i64 0, .slice none 0 0, .int .i64 0, .string ⟨#[]⟩], .int .i64 0, .int .i64 90])) w5 from ⟨HW5.out, .inr ⟨HN.out, rfl⟩⟩)
   obtain ⟨f0, _⟩ := K5 0 (by simp)
   obtain ⟨f1, _⟩ := K5 1 (by simp)
   obtain ⟨f2, _⟩ := K5 2 (by simp)
   obtain ⟨f3, _⟩ := K5 3 (by simp)
   obtain ⟨f4, _⟩ := K5 4 (by simp)
   simp only [List.getElem_cons_zero, List.getElem_cons_succ] at f0 f1 f2 f3 f4
   clear K5
   go_wp2_with fail
   exact bodyPost_ret (v := .tuple #[.agg #[.int .i64 0, .int .i64 0, .slice none 0 0, .int .i64 0, .string ⟨#[]⟩], .int .i64 0, .int .i64 90]) (by simp [results, Tryz.results24, go_sem, f0, f1, f2, f3, f4]) rfl HP.out
end Go.Proofs.YtnpfhcnjkekhbaaGreatDoor

namespace Go.Proofs.YtnpfhcnjkekhbaaGreatDoor
open Go Go.Proofs Go.RowKit Go.Lib
def x9 : Ev := ⟨1, 0, 10, 2, 3, 2, 0, 0, 0, 0, 0, 5⟩
def s9 : ByteArray := ⟨#[2, 0, 20, 4, 6, 4, 0, 0, 0, 0, 0, 10]⟩
def ab9 : ByteArray := ⟨#[97, 98, 2, 0, 20, 4, 6, 4, 0, 0, 0, 0, 0, 10]⟩
def h9 : ByteArray := chainF zz32 s9
def b9 : Bt := ⟨1, 0, 4, [x9], h9⟩
def t9 : ByteArray := encBT b9
theorem ev_x9 : evB x9 = true := by decide +kernel
theorem enc_x9 : encT x9 = s9 := by decide +kernel
theorem spl_1 : splB 1 [x9] [1] [4] = true := by decide +kernel
theorem spl_2 : splB 1 [x9] [0, 1] [3, 4] = true := by decide +kernel
theorem spl_3 : splB 1 [x9] [0, 1] [4, 4] = false := by decide +kernel
theorem bt_b9 : btB b9 = true := by decide +kernel
theorem bt_0 : btB ⟨0, 0, 0, [], ⟨#[]⟩⟩ = false := by decide +kernel
theorem dec_x9 : evG ab9 2 = some (x9, 14) := by decide +kernel
theorem dec_b9 : (match btG t9 0 with | some (b, c) => b.eqB b9 && decide (c = (t9.size : Int)) | none => false) = true := by decide +kernel
end Go.Proofs.YtnpfhcnjkekhbaaGreatDoor

namespace Go.Proofs.YtnpfhcnjkekhbaaGreatDoor
open Go Go.Proofs Go.RowKit Go.Lib
theorem x9_wf : x9.wf := by unfold Ev.wf; decide
theorem evs_x9 : evsW [x9] := by
 intro x hx
 simp only [List.mem_cons, List.not_mem_nil, or_false] at hx
 subst hx
 exact x9_wf
theorem evs_0 : evsW [] := by
 intro x hx
 cases hx
theorem encode_x9 (w : World) (hR : Rdy w) : Calls Tryz.prog 8 #[x9.val] w fun e w' => e = .returned (.tuple #[.string s9, .int .i64 0]) ∧ Below w.heap.size w w' := by
 have h := encode_u x9 x9_wf w hR
 rw [show encV x9 = s9 from by unfold encV; rw [if_pos ev_x9, enc_x9], show encN x9 = 0 from by unfold encN; rw [if_pos ev_x9]] at h
 exact h
theorem decode_x9 (w : World) (hR : Rdy w) : Calls Tryz.prog 22 #[.string ab9, .int .i64 2] w fun e w' => e = .returned (.tuple #[x9.val, .int .i64 14, .int .i64 0]) ∧ Below w.heap.size w w' := by
 have h := decode_u ab9 (by decide) 2 w hR
 rw [show decEv ab9 2 = x9 from by unfold decEv; rw [dec_x9], show decEo ab9 2 = 14 from by unfold decEo; rw [dec_x9], show decEe ab9 2 = 0 from by unfold decEe; rw [dec_x9]] at h
 exact h
def BtAt (W : World) (B o : Nat) (ag fs : Int) (ad : Option Addr) (n c : Nat) (lw : Int) (hd : ByteArray) : Prop :=
 W.cell? ⟨B, o, none⟩ = some (.int .i64 ag) ∧ W.cell? ⟨B, o + 1, none⟩ = some (.int .i64 fs) ∧ W.cell? ⟨B, o + 2, none⟩ = some (.slice ad n c) ∧ W.cell? ⟨B, o + 3, none⟩ = some (.int .i64 lw) ∧ W.cell? ⟨B, o + 4, none⟩ = some (.string hd)
theorem RL.bv9 {W : World} {ad : Option Addr} {l : List BV} (h : RL KB9 W ad l) (k : Nat) (hk : k < l.length) : ∃ B o, ad = some ⟨B, o, none⟩ ∧ B < W.heap.size ∧ ∀ W', Below W.heap.size W W' → BtAt W' B (o + 5 * k) l[k].ag l[k].fs l[k].ad l[k].n l[k].c l[k].lw l[k].hd := by
 obtain ⟨b, o, h1, h2, h3⟩ := h.at_ k hk
 refine ⟨b, o, h1, h2, fun W' hb => ?_⟩
 have := h3 W' hb
 exact ⟨this 0 (by decide), this 1 (by decide), this 2 (by decide), this 3 (by decide), this 4 (by decide)⟩
theorem at_bv9 (g o n c k : Nat) (hk : k < n) (w : World) : (Instr.indexAt 35 (.slice (some ⟨g, o, none⟩) n c) (.int .i64 (k : Int))).run Tryz.prog w = .ok (.pointer (some ⟨g, o + 5 * k, none⟩)) w := KB9.at_ g o n c k hk w
theorem split_1 (bl bx be : Nat) (w : World) (hR : Rdy w) (hD : Ready w) (hI : RL KE w (some ⟨bl, 0, none⟩) [x9]) (hX : RL KI w (some ⟨bx, 0, none⟩) [1]) (hY : RL KI w (some ⟨be, 0, none⟩) [4]) :
 Calls Tryz.prog 30 #[.int .i64 1, .slice (some ⟨bl, 0, none⟩) 1 1, .slice (some ⟨bx, 0, none⟩) 1 1, .slice (some ⟨be, 0, none⟩) 1 1] w fun e w' => Below w.heap.size w w' ∧
  ∃ B o sc ad c, e = .returned (.tuple #[.slice (some ⟨B, o, none⟩) 1 sc, .int .i64 0]) ∧ (∀ W, Below w'.heap.size w' W → BtAt W B o 1 0 ad 1 c 4 h9) ∧ RL KE w' ad [x9] := by
 refine (split_u 1 (some ⟨bl, 0, none⟩) 1 [x9] (some ⟨bx, 0, none⟩) 1 [1] (some ⟨be, 0, none⟩) 1 [4] (by decide) (by decide) (by decide) (by decide) (fun h => by cases h) evs_x9 w hR hD hI hX hY).mono ?_
 rintro e w' ⟨hb, h | ⟨_, sad, sc, raws, he, _, hlr, hrn, ht⟩⟩
 · exact absurd h.1 (by rw [spl_1]; simp)
 · refine ⟨hb, ?_⟩
   match raws, hlr with
   | [p], _ =>
    obtain ⟨t1, t2, t3⟩ := ht 0 (Nat.succ_pos _)
    obtain ⟨B, o, hs, _, hc⟩ := hrn.rl.bv9 0 (Nat.succ_pos _)
    have t1 : p.i = 0 := t1
    have t2 : p.hd = h9 := by
     have : p.hd = chH chainF zz32 ([x9].take (endK [1] 1).toNat) := t2
     rw [this]
     decide +kernel
    obtain ⟨ad2, c2, e2, hcc, hr2⟩ := t3.rn
    have e2 : Value.slice p.ad 1 p.c = .slice ad2 1 c2 := e2
    injection e2 with e3 e4 e5
    have hr2 : RN KE w' w.heap.size ad2 [x9] := hr2
    rw [← e3] at hr2
    subst hs
    refine ⟨B, o, sc, p.ad, p.c, he, fun W hW => ?_, hr2.rl⟩
    have h := hc W hW
    rw [Nat.mul_zero, Nat.add_zero] at h
    have h : BtAt W B o 1 (endK [1] p.i) p.ad ((([1] : List Int).getD p.i 0).toNat) p.c (([4] : List Int).getD p.i 0) p.hd := h
    rw [t1, t2] at h
    exact h
theorem split_2 (bl bx be : Nat) (w : World) (hR : Rdy w) (hD : Ready w) (hI : RL KE w (some ⟨bl, 0, none⟩) [x9]) (hX : RL KI w (some ⟨bx, 0, none⟩) [0, 1]) (hY : RL KI w (some ⟨be, 0, none⟩) [3, 4]) :
 Calls Tryz.prog 30 #[.int .i64 1, .slice (some ⟨bl, 0, none⟩) 1 1, .slice (some ⟨bx, 0, none⟩) 2 2, .slice (some ⟨be, 0, none⟩) 2 2] w fun e w' => Below w.heap.size w w' ∧
  ∃ B o sc ad c, e = .returned (.tuple #[.slice (some ⟨B, o, none⟩) 2 sc, .int .i64 0]) ∧ (∀ W, Below w'.heap.size w' W → BtAt W B o 1 0 ad 0 c 3 zz32) := by
 refine (split_u 1 (some ⟨bl, 0, none⟩) 1 [x9] (some ⟨bx, 0, none⟩) 2 [0, 1] (some ⟨be, 0, none⟩) 2 [3, 4] (by decide) (by decide) (by decide) (by decide) (fun h => by cases h) evs_x9 w hR hD hI hX hY).mono ?_
 rintro e w' ⟨hb, h | ⟨_, sad, sc, raws, he, _, hlr, hrn, ht⟩⟩
 · exact absurd h.1 (by rw [spl_2]; simp)
 · refine ⟨hb, ?_⟩
   match raws, hlr with
   | [p, q], _ =>
    obtain ⟨t1, t2, t3⟩ := ht 0 (Nat.succ_pos _)
    obtain ⟨B, o, hs, _, hc⟩ := hrn.rl.bv9 0 (Nat.succ_pos _)
    have t1 : p.i = 0 := t1
    have t2 : p.hd = zz32 := by
     have : p.hd = chH chainF zz32 ([x9].take (endK [0, 1] 1).toNat) := t2
     rw [this]
     decide +kernel
    subst hs
    refine ⟨B, o, sc, p.ad, p.c, he, fun W hW => ?_⟩
    have h := hc W hW
    rw [Nat.mul_zero, Nat.add_zero] at h
    have h : BtAt W B o 1 (endK [0, 1] p.i) p.ad ((([0, 1] : List Int).getD p.i 0).toNat) p.c (([3, 4] : List Int).getD p.i 0) p.hd := h
    rw [t1, t2] at h
    exact h
theorem split_3 (bl bx be : Nat) (w : World) (hR : Rdy w) (hD : Ready w) (hI : RL KE w (some ⟨bl, 0, none⟩) [x9]) (hX : RL KI w (some ⟨bx, 0, none⟩) [0, 1]) (hY : RL KI w (some ⟨be, 0, none⟩) [4, 4]) :
 Calls Tryz.prog 30 #[.int .i64 1, .slice (some ⟨bl, 0, none⟩) 1 1, .slice (some ⟨bx, 0, none⟩) 2 2, .slice (some ⟨be, 0, none⟩) 2 2] w fun e w' => e = .returned (.tuple #[.slice none 0 0, .int .i64 90]) ∧ Below w.heap.size w w' := by
 refine (split_u 1 (some ⟨bl, 0, none⟩) 1 [x9] (some ⟨bx, 0, none⟩) 2 [0, 1] (some ⟨be, 0, none⟩) 2 [4, 4] (by decide) (by decide) (by decide) (by decide) (fun h => by cases h) evs_x9 w hR hD hI hX hY).mono ?_
 rintro e w' ⟨hb, h | ⟨h, _⟩⟩
 · exact ⟨h.2, hb⟩
 · exact absurd h (by rw [spl_3]; simp)
theorem encodeBatch_b9 (ad : Option Addr) (c : Nat) (w : World) (hR : Rdy w) (hI : RL KE w ad [x9]) :
 Calls Tryz.prog 13 #[.agg #[.int .i64 1, .int .i64 0, .slice ad 1 c, .int .i64 4, .string h9]] w fun e w' => e = .returned (.tuple #[.string t9, .int .i64 0]) ∧ Below w.heap.size w w' := by
 have h := encodeBatch_u b9 ad c (by decide) evs_x9 w hR hI
 rw [show encBV b9 = t9 from by unfold encBV; rw [if_pos bt_b9]; rfl, show encBN b9 = 0 from by unfold encBN; rw [if_pos bt_b9]] at h
 exact h
theorem t9_le : t9.size ≤ 140737488355328 := by decide +kernel
theorem decodeBatch_t9 (w : World) (hR : Rdy w) :
 Calls Tryz.prog 24 #[.string t9, .int .i64 0] w fun e w' => Below w.heap.size w w' ∧ ∃ ad c, e = .returned (.tuple #[.agg #[.int .i64 1, .int .i64 0, .slice ad 1 c, .int .i64 4, .string h9], .int .i64 (t9.size : Int), .int .i64 0]) ∧ RL KE w' ad [x9] := by
 refine (decodeBatch_u t9 t9_le 0 w hR).mono ?_
 have hd := dec_b9
 rintro e w' ⟨hb, ⟨b, c, ad, n, sc, hg, he, hn, _, _, hr⟩ | ⟨hg, _⟩⟩
 · rw [hg] at hd
   simp only [Bool.and_eq_true, decide_eq_true_eq] at hd
   obtain ⟨hd1, hd2⟩ := hd
   have hd1 := Bt.eqB_iff.1 hd1
   subst hd1 hd2
   exact ⟨hb, ad, sc, by rw [he, hn]; rfl, hr.rl⟩
 · rw [hg] at hd
   cases hd
theorem follows_z9 (ad : Option Addr) (c : Nat) (w : World) (hR : Rdy w) (hD : Ready w) (hI : RL KE w ad [x9]) :
 Calls Tryz.prog 19 #[.string zz32, .agg #[.int .i64 1, .int .i64 0, .slice ad 1 c, .int .i64 4, .string h9]] w fun e w' => e = .returned (.bool true) ∧ Below w.heap.size w w' := by
 have h := follows9_u zz32 b9 ad c (by decide) evs_x9 w hR hD hI
 rw [show folB9 zz32 b9 = true from by unfold folB9; rw [bt_b9, decide_eq_true zz32_size, Bool.true_and, Bool.true_and]; decide +kernel] at h
 exact h
theorem follows_h9 (ad : Option Addr) (c : Nat) (w : World) (hR : Rdy w) (hD : Ready w) (hI : RL KE w ad [x9]) :
 Calls Tryz.prog 19 #[.string h9, .agg #[.int .i64 1, .int .i64 0, .slice ad 1 c, .int .i64 4, .string h9]] w fun e w' => e = .returned (.bool false) ∧ Below w.heap.size w w' := by
 have h := follows9_u h9 b9 ad c (by decide) evs_x9 w hR hD hI
 rw [show folB9 h9 b9 = false from by unfold folB9; rw [show decide (chH chainF h9 b9.ev = b9.hd) = false from by decide +kernel, Bool.and_false]] at h
 exact h
theorem valid_b9 (ad : Option Addr) (c : Nat) (w : World) (hR : Rdy w) (hI : RL KE w ad [x9]) :
 Calls Tryz.prog 15 #[.agg #[.int .i64 1, .int .i64 0, .slice ad 1 c, .int .i64 4, .string h9]] w fun e w' => e = .returned (.bool true) ∧ Below w.heap.size w w' := by
 have h := validB_u b9 ad c (by decide) evs_x9 w hR hI
 rw [bt_b9] at h
 exact h
theorem valid_0 (w : World) (hR : Rdy w) :
 Calls Tryz.prog 15 #[.agg #[.int .i64 0, .int .i64 0, .slice none 0 0, .int .i64 0, .string ⟨#[]⟩]] w fun e w' => e = .returned (.bool false) ∧ Below w.heap.size w w' := by
 have h := validB_u ⟨0, 0, 0, [], ⟨#[]⟩⟩ none 0 (by decide) evs_0 w hR (RL.nil _ _ _)
 rw [bt_0] at h
 exact h
theorem same_b9 (a1 a2 : Option Addr) (c1 c2 : Nat) (w : World) (h1 : RL KE w a1 [x9]) (h2 : RL KE w a2 [x9]) :
 Calls Tryz.prog 26 #[.agg #[.int .i64 1, .int .i64 0, .slice a1 1 c1, .int .i64 4, .string h9], .agg #[.int .i64 1, .int .i64 0, .slice a2 1 c2, .int .i64 4, .string h9]] w fun e w' => e = .returned (.bool true) ∧ Below w.heap.size w w' := by
 have h := sameR9_any b9 b9 a1 a2 c1 c2 (by decide) w h1 h2
 rw [Bt.eqB_iff.2 rfl] at h
 exact h
theorem chain_s9 (w : World) (hD : Ready w) : Calls Tryz.prog 38 #[.string zz32, .string s9] w fun e w' => e = .returned (.string h9) ∧ Below w.heap.size w w' :=
 chain_any zz32 s9 (by decide +kernel) (by decide +kernel) w hD
end Go.Proofs.YtnpfhcnjkekhbaaGreatDoor

namespace Go.Proofs.YtnpfhcnjkekhbaaGreatDoor
open Go Go.Proofs Go.RowKit Go.Lib
theorem own_none9 {T : Type} {K : RowK T} {W : World} {base n c : Nat} {l : List T} (h : Own K W base (.slice none n c) l) : c = 0 := by
 rcases h.2 with ⟨hv, _⟩ | ⟨g, cap, cur, hv, _⟩
 · injection hv
 · injection hv with e _ _; cases e
theorem evsW_sub {l m : List Ev} (h : evsW l) (hm : ∀ x ∈ m, x ∈ l) : evsW m := fun x hx => h x (hm x hx)
def upK (S : List Ev) (X : List Int) (k : Nat) : List Ev := S.take (endK X k).toNat
def hdK (S : List Ev) (X : List Int) (k : Nat) : ByteArray := chH chainF zz32 (upK S X k)
structure Str9 (PA : Int) (S : List Ev) (X L O : List Int) : Prop where
 sl : S.length ≤ 20
 ew : evsW S
 ev : S.all evB = true
 tr : ∀ e ∈ S, 0 ≤ e.tr ∧ e.tr ≤ 999
 xl : X.length ≤ 13
 xb : ∀ v ∈ X, 0 ≤ v ∧ v ≤ 24
 ll : L.length = X.length
 sp : SplOk PA S X L
 ol : O.length ≤ 13
 so : SplOk PA S O (List.replicate O.length 0)
theorem str9 (ag : Int) (l : List S6) (c shy o : List Int) : Str9 (pick8 ag 6) (strL ag l) (cutL (strN l) c) (lowL (strL ag l) (cutL (strN l) c) shy) (cutL (strN l) o) where
 sl := by rw [strL_len]; exact strN_le l
 ew := fun x hx => evB_wf9 (numB_ev (strL_num ag l) x hx)
 ev := List.all_eq_true.2 (numB_ev (strL_num ag l))
 tr := fun e he => (by
  have := evB_of (numB_ev (strL_num ag l) e he)
  have := this.2.2.2.1
  omega)
 xl := cutL_len _ c
 xb := cutL_bd (by omega) (by have := strN_le l; omega) c
 ll := lowL_len _ _ _
 sp := splOk_low ag l c shy
 ol := cutL_len _ o
 so := splOk_zero ag l o
theorem Str9.x0 {PA : Int} {S : List Ev} {X L O : List Int} (h : Str9 PA S X L O) : upK S X X.length = S := h.sp.all
theorem Str9.x1 {PA : Int} {S : List Ev} {X L O : List Int} (h : Str9 PA S X L O) : hdK S X X.length = chH chainF zz32 S := by unfold hdK; rw [h.x0]
theorem Str9.nil {PA : Int} {S : List Ev} {X L O : List Int} (h : Str9 PA S X L O) (h0 : O.length = 0) : S = [] := by
 have := h.so.xs
 have e : O = [] := List.length_eq_zero_iff.1 h0
 rw [e] at this
 have : S.length = 0 := by simp at this; omega
 exact List.length_eq_zero_iff.1 this
theorem Str9.chain {PA : Int} {S : List Ev} {X L O : List Int} (h : Str9 PA S X L O) : chainV zz32 S = chH chainF zz32 S ∧ chainN zz32 S = 0 := by
 unfold chainV chainN
 have e : zz32.size = 32 ∧ S.all evB = true := ⟨zz32_size, h.ev⟩
 rw [if_pos e, if_pos e]
 exact ⟨rfl, rfl⟩
end Go.Proofs.YtnpfhcnjkekhbaaGreatDoor

namespace Go.Proofs.YtnpfhcnjkekhbaaGreatDoor
open Go Go.Proofs Go.RowKit Go.Lib Go.Maps
noncomputable def btsEq (L M : List Bt) : Bool := @decide (L = M) (Classical.propDecidable _)
theorem btsEq_yes {L M : List Bt} (h : L = M) : btsEq L M = true := by unfold btsEq; exact @decide_eq_true _ (Classical.propDecidable _) h
theorem btsEq_no {L M : List Bt} (h : ¬ L = M) : btsEq L M = false := by unfold btsEq; exact @decide_eq_false _ (Classical.propDecidable _) h
structure BtsAt (W : World) (vs : List BV) (L : List Bt) : Prop where
 ln : vs.length = L.length
 el : ∀ i (h : i < vs.length) (h2 : i < L.length), vs[i].ag = L[i].ag ∧ vs[i].fs = L[i].fs ∧ vs[i].n = L[i].ev.length ∧ vs[i].lw = L[i].lw ∧ vs[i].hd = L[i].hd ∧ RL KE W vs[i].ad L[i].ev
theorem BtsAt.below {W W' : World} {vs : List BV} {L : List Bt} (h : BtsAt W vs L) (b : Below W.heap.size W W') : BtsAt W' vs L :=
 ⟨h.ln, fun i h1 h2 => by
  obtain ⟨e1, e2, e3, e4, e5, e6⟩ := h.el i h1 h2
  exact ⟨e1, e2, e3, e4, e5, e6.below b⟩⟩
theorem bts_get {W : World} {ad : Option Addr} {vs : List BV} {L : List Bt} (h : RL KB9 W ad vs) (b : BtsAt W vs L) (k : Nat) (hk : k < L.length) : ∃ B o ea ec, ad = some ⟨B, o, none⟩ ∧ (∀ W', Below W.heap.size W W' → BtAt W' B (o + 5 * k) L[k].ag L[k].fs ea L[k].ev.length ec L[k].lw L[k].hd ∧ RL KE W' ea L[k].ev) := by
 have hv : k < vs.length := by rw [b.ln]; exact hk
 obtain ⟨B, o, h1, _, h3⟩ := h.bv9 k hv
 obtain ⟨e1, e2, e3, e4, e5, e6⟩ := b.el k hv hk
 refine ⟨B, o, vs[k].ad, vs[k].c, h1, fun W' hb => ⟨?_, e6.below hb⟩⟩
 have := h3 W' hb
 rw [e1, e2, e3, e4, e5] at this
 exact this
theorem sameBatchesR9_any (a1 a2 : Option Addr) (c1 c2 : Nat) (v1 v2 : List BV) (L M : List Bt) (hl : L.length ≤ maxLen) (hle : ∀ b ∈ L, b.ev.length ≤ maxLen) (w : World) (h1 : RL KB9 w a1 v1) (b1 : BtsAt w v1 L) (h2 : RL KB9 w a2 v2) (b2 : BtsAt w v2 M) :
 Calls Tryz.prog 32 #[.slice a1 L.length c1, .slice a2 M.length c2] w fun e w' => e = .returned (.bool (btsEq L M)) ∧ Below w.heap.size w w' := by
 unfold maxLen at hl
 have HG1 := Lib.hid (fun k hk => bts_get h1 b1 k hk)
 have HG2 := Lib.hid (fun k hk => bts_get h2 b2 k hk)
 obtain ⟨R, hR⟩ : ∃ R, btsEq L M = R := ⟨_, rfl⟩
 rw [hR]
 have HNO := Lib.hid (fun h : ¬ L = M => show R = false by rw [← hR]; exact btsEq_no h)
 have HYES := Lib.hid (fun h : L = M => show R = true by rw [← hR]; exact btsEq_yes h)
 have HLE := Lib.hid hle
 clear hR h1 h2 b1 b2 hle
 by_cases hlm : (L.length : Int) = (M.length : Int)
 rotate_left
 · have HF := Lib.hid (HNO.out (fun h => hlm (by rw [h])))
   have hln : ¬ L.length = M.length := by omega
   have hlb : ((L.length : Int) != (M.length : Int)) = true := by rw [bne, beq_eq_false_iff_ne.2 hlm]; rfl
   go_enter Tryz.func32, Tryz.ntmps32
   go_wp2_with fail
   go_ret
   exact ⟨by rw [HF.out]; rfl, Below.refl _ _⟩
 have HLM := Lib.hid (show L.length = M.length by omega)
 have hlb : ((L.length : Int) != (M.length : Int)) = false := by rw [bne, beq_iff_eq.2 hlm]; rfl
 go_enter Tryz.func32, Tryz.ntmps32
 go_wp2_with fail
 clear hlm hlb
 go_loopw [5] (fun i wr => ∃ k : Nat, i = .int .i64 k ∧ k ≤ L.length ∧ Hid (∀ j (h : j < L.length) (h2 : j < M.length), j < k → L[j] = M[j]) ∧ Hid (Below w.heap.size w wr)) (fun i _ => L.length - (RowKit.intOf i).toNat)
 case atStart => exact ⟨0, rfl, Nat.zero_le _, Lib.hid (fun j _ _ hj => by omega), Lib.hid (Below.refl _ _)⟩
 case round =>
  obtain ⟨k, rfl, hk, HJ, HB⟩ := hrel
  by_cases hlt : k < L.length
  · have hki : (k : Int) < (L.length : Int) := by omega
    have hkm : k < M.length := by rw [← HLM.out]; exact hlt
    have hwk : IntKind.i64.wrap ((k : Int) + 1) = (k : Int) + 1 := IntWalk.i64_in _ (by omega)
    obtain ⟨B1, o1, e1, f1, rfl, hg1⟩ := HG1.out k hlt
    obtain ⟨B2, o2, e2, f2, rfl, hg2⟩ := HG2.out k hkm
    have ix1 := fun W => at_bv9 B1 o1 L.length c1 k hlt W
    have ix2 := fun W => at_bv9 B2 o2 M.length c2 k hkm W
    have HLT := Lib.hid hlt
    have HX := Lib.hid (fun W (b : Below w.heap.size w W) => hg1 W b)
    have HY := Lib.hid (fun W (b : Below w.heap.size w W) => hg2 W b)
    have HZ := Lib.hid (HLE.out _ (List.getElem_mem hlt))
    have HJN := Lib.hid (fun (h : L[k] = M[k]) => show ∀ j (h : j < L.length) (h2 : j < M.length), j < k + 1 → L[j] = M[j] from fun j h3 h4 h9 => by
     rcases Nat.lt_or_ge j k with h5 | h5
     · exact HJ.out j h3 h4 h5
     · obtain rfl : j = k := by omega
       exact h)
    have HNE := Lib.hid (fun (h : ¬ L[k] = M[k]) => HNO.out (fun hh => h (by subst hh; rfl)))
    generalize L[k]'hlt = x at *
    generalize M[k]'hkm = y at *
    obtain ⟨Q, hQ⟩ : ∃ Q, x.eqB y = Q := ⟨_, rfl⟩
    have HSM := Lib.hid (fun W (b : Below w.heap.size w W) => show Calls Tryz.prog 26 #[.agg #[.int .i64 x.ag, .int .i64 x.fs, .slice e1 x.ev.length f1, .int .i64 x.lw, .string x.hd], .agg #[.int .i64 y.ag, .int .i64 y.fs, .slice e2 y.ev.length f2, .int .i64 y.lw, .string y.hd]] W (fun e w' => e = .returned (.bool Q) ∧ Below W.heap.size W w') from by
     have h := sameR9_any x y e1 e2 f1 f2 HZ.out W (HX.out W b).2 (HY.out W b).2
     rw [hQ] at h
     exact h)
    have HQ := Lib.hid hQ
    clear hg1 hg2 hlt hkm hQ hk
    skip
    go_upto_region 6 with fail
    go_cut [26] from 17 to 26 (fun s26 wx => s26 = .bool (!Q) ∧ Hid (Below wr.heap.size wr wx))
    case first =>
     have x0 := fun d os => (HX.out _ (below_up8 HB.out (below_regrown wr d os))).1.1
     have x1 := fun d os => (HX.out _ (below_up8 HB.out (below_regrown wr d os))).1.2.1
     have x2 := fun d os => (HX.out _ (below_up8 HB.out (below_regrown wr d os))).1.2.2.1
     have x3 := fun d os => (HX.out _ (below_up8 HB.out (below_regrown wr d os))).1.2.2.2.1
     have x4 := fun d os => (HX.out _ (below_up8 HB.out (below_regrown wr d os))).1.2.2.2.2
     have y0 := fun d os => (HY.out _ (below_up8 HB.out (below_regrown wr d os))).1.1
     have y1 := fun d os => (HY.out _ (below_up8 HB.out (below_regrown wr d os))).1.2.1
     have y2 := fun d os => (HY.out _ (below_up8 HB.out (below_regrown wr d os))).1.2.2.1
     have y3 := fun d os => (HY.out _ (below_up8 HB.out (below_regrown wr d os))).1.2.2.2.1
     have y4 := fun d os => (HY.out _ (below_up8 HB.out (below_regrown wr d os))).1.2.2.2.2
     refine wp_region_quiet_below (by kernel_rfl) (by kernel_rfl) ?_
     repeat (first | go_big_quiet_step ((first | fail | (go_at_call 26; exact Calls.regrown_of (HSM.out _ (below_up8 HB.out (below_regrown _ _ _)))))) | quiet_step ((first | fail | (go_at_call 26; exact Calls.regrown_of (HSM.out _ (below_up8 HB.out (below_regrown _ _ _)))))))
     refine wpQuiet_nil ?_
     intro _ hw'
     obtain ⟨⟨dq, osq⟩, hw''⟩ := hw'
     subst hw''
     go_wp2_with fail
     go_meet
     exact ⟨by first | rfl | simp, Lib.hid (below_regrown _ _ _)⟩
    case rest =>
     obtain ⟨rfl, HBx⟩ := hcut
     generalize wc = wz at *
     have HBZ := Lib.hid (below_up8 HB.out HBx.out)
     cases Q with
     | true =>
      have HJ2 := Lib.hid (HJN.out (Bt.eqB_iff.1 HQ.out))
      go_wp2_with fail
      go_roundw
      case rel => exact ⟨k + 1, by go_num, HLT.out, HJ2, HBZ⟩
      case measure => have := HLT.out; simp [RowKit.intOf]; omega
     | false =>
      have HF := Lib.hid (HNE.out (fun h => by have := Bt.eqB_iff.2 h; rw [HQ.out] at this; cases this))
      go_wp2_with fail
      go_ret
      exact ⟨by rw [HF.out]; rfl, HBZ.out⟩
  · have hki : ¬ (k : Int) < (L.length : Int) := by omega
    have HT := Lib.hid (HYES.out (List.ext_getElem HLM.out fun j h3 h4 => HJ.out j h3 h4 (by omega)))
    clear hlt hk
    go_wp2_with fail
    go_ret
    exact ⟨by rw [HT.out]; rfl, HB.out⟩
end Go.Proofs.YtnpfhcnjkekhbaaGreatDoor

namespace Go.Proofs.YtnpfhcnjkekhbaaGreatDoor
open Go Go.Proofs Go.RowKit Go.Lib
theorem x9_val : x9.val = .agg #[.int .i64 1, .int .i64 0, .int .i64 10, .int .i64 2, .int .i64 3, .int .i64 2, .int .i64 0, .int .i64 0, .int .i64 0, .int .i64 0, .int .i64 0, .int .i64 5] := rfl
theorem CellsAt.ints9 {W : World} {b : Nat} {l : List Int} (h : CellsAt W b (l.map (Value.int .i64))) (hb : b < W.heap.size) : RL KI W (some ⟨b, 0, none⟩) l :=
 .inr ⟨b, 0, rfl, hb, fun i hi j hj => by
  have hj0 : j = 0 := by have : j < 1 := hj; omega
  subst hj0
  have h := (h i (by rw [List.length_map]; exact hi)).1
  rw [List.getElem_map] at h
  rw [show 0 + KI.n * i + 0 = i by show 0 + 1 * i + 0 = i; omega, h]
  rfl⟩
theorem CellsAt.rnK9 {T : Type} (K : RowK T) {W : World} {base g : Nat} {l : List T} (h : CellsAt W g (K.vs l)) (hb : base ≤ g) (hg : g < W.heap.size) : RN K W base (some ⟨g, 0, none⟩) l := by
 refine .inr ⟨g, 0, rfl, hb, hg, fun i hi j hj => ?_⟩
 have hl := K.vs_length l
 have hij : K.n * i + j < (K.vs l).length := by
  rw [hl]
  have : K.n * (i + 1) ≤ K.n * l.length := Nat.mul_le_mul_left _ hi
  rw [Nat.mul_add, Nat.mul_one, Nat.mul_comm K.n l.length] at this
  omega
 rw [Nat.zero_add, (h _ hij).1, ← K.vs_get l i j hi hj, List.getElem?_eq_getElem hij]
theorem x9_cells {W : World} {b : Nat} (h : CellsAt W b x9.cells) : W.cell? ⟨b, 0, none⟩ = some (.int .i64 1) ∧ W.cell? ⟨b, 1, none⟩ = some (.int .i64 0) ∧ W.cell? ⟨b, 2, none⟩ = some (.int .i64 10) ∧ W.cell? ⟨b, 3, none⟩ = some (.int .i64 2) ∧ W.cell? ⟨b, 4, none⟩ = some (.int .i64 3) ∧ W.cell? ⟨b, 5, none⟩ = some (.int .i64 2) ∧ W.cell? ⟨b, 6, none⟩ = some (.int .i64 0) ∧ W.cell? ⟨b, 7, none⟩ = some (.int .i64 0) ∧ W.cell? ⟨b, 8, none⟩ = some (.int .i64 0) ∧ W.cell? ⟨b, 9, none⟩ = some (.int .i64 0) ∧ W.cell? ⟨b, 10, none⟩ = some (.int .i64 0) ∧ W.cell? ⟨b, 11, none⟩ = some (.int .i64 5) := h.ev
theorem sane9_any (w : World) (hR : Rdy w) (hD : Ready w) :
 Calls Tryz.prog 7 #[] w fun e w' => e = .returned (.bool true) ∧ Below w.heap.size w w' := by
 have HRD := Lib.hid (fun W (b : Below w.heap.size w W) => hR.below b)
 have HDD := Lib.hid (fun W (b : Below w.heap.size w W) => hD.below b)
 have CE := Lib.hid (fun W (b : Below w.heap.size w W) => encode_x9 W (hR.below b))
 have CD := Lib.hid (fun W (b : Below w.heap.size w W) => decode_x9 W (hR.below b))
 have CDB := Lib.hid (fun W (b : Below w.heap.size w W) => decodeBatch_t9 W (hR.below b))
 have CCH := Lib.hid (fun W (b : Below w.heap.size w W) => chain_s9 W (hD.below b))
 have CV0 := Lib.hid (fun W (b : Below w.heap.size w W) => valid_0 W (hR.below b))
 rw [x9_val] at CE CD
 clear hR hD
 obtain ⟨w1, w2, V1, Z1, G1, V2, K2, B2, B1, Z2⟩ := evcopy9 w x9
 have V2 := (show (((((((((((w1.setCell ⟨w.heap.size, 0, none⟩ (.int .i64 1)).setCell ⟨w.heap.size, 1, none⟩ (.int .i64 0)).setCell ⟨w.heap.size, 2, none⟩ (.int .i64 10)).setCell ⟨w.heap.size, 3, none⟩ (.int .i64 2)).setCell ⟨w.heap.size, 4, none⟩ (.int .i64 3)).setCell ⟨w.heap.size, 5, none⟩ (.int .i64 2)).setCell ⟨w.heap.size, 6, none⟩ (.int .i64 0)).setCell ⟨w.heap.size, 7, none⟩ (.int .i64 0)).setCell ⟨w.heap.size, 8, none⟩ (.int .i64 0)).setCell ⟨w.heap.size, 9, none⟩ (.int .i64 0)).setCell ⟨w.heap.size, 10, none⟩ (.int .i64 0)).setCell ⟨w.heap.size, 11, none⟩ (.int .i64 5) = w2 from V2)
 obtain ⟨g0, g0'⟩ := G1 0 (by decide)
 obtain ⟨g1, g1'⟩ := G1 1 (by decide)
 obtain ⟨g2, g2'⟩ := G1 2 (by decide)
 obtain ⟨g3, g3'⟩ := G1 3 (by decide)
 obtain ⟨g4, g4'⟩ := G1 4 (by decide)
 obtain ⟨g5, g5'⟩ := G1 5 (by decide)
 obtain ⟨g6, g6'⟩ := G1 6 (by decide)
 obtain ⟨g7, g7'⟩ := G1 7 (by decide)
 obtain ⟨g8, g8'⟩ := G1 8 (by decide)
 obtain ⟨g9, g9'⟩ := G1 9 (by decide)
 obtain ⟨g10, g10'⟩ := G1 10 (by decide)
 obtain ⟨g11, g11'⟩ := G1 11 (by decide)
 have HB := Lib.hid B2
 have HX := Lib.hid (fun W (b : Below w2.heap.size w2 W) => x9_cells (K2.below b))
 clear G1 K2 B2 B1 Z1
 go_enter Tryz.func7, Tryz.ntmps7
 go_upto_region 2 with fail
 clear V1 V2 g0 g0' g1 g1' g2 g2' g3 g3' g4 g4' g5 g5' g6 g6' g7 g7' g8 g8' g9 g9' g10 g10' g11 g11'
 have HB2 := Lib.hid (show Below w2.heap.size w2 w2 from Below.refl _ _)
 obtain ⟨u0, u1, u2, u3, u4, u5, u6, u7, u8, u9, u10, u11⟩ := HX.out w2 HB2.out
 go_wp2_with fail
 refine (CE.out _ HB.out).mono ?_
 rintro e w3 ⟨rfl, hb⟩
 clear u0 u1 u2 u3 u4 u5 u6 u7 u8 u9 u10 u11
 replace HB := Lib.hid (HB.out.trans ((hb).mono HB.out.size))
 replace HB2 := Lib.hid (HB2.out.trans ((hb).mono HB2.out.size))
 clear hb
 have hcat : ({ data := #[97, 98] } : ByteArray) ++ s9 = ab9 := by decide +kernel
 go_wp2_with fail
 refine (CD.out _ HB.out).mono ?_
 rintro e w4 ⟨rfl, hb⟩
 clear hcat
 replace HB := Lib.hid (HB.out.trans ((hb).mono HB.out.size))
 replace HB2 := Lib.hid (HB2.out.trans ((hb).mono HB2.out.size))
 clear hb
 obtain ⟨v4, w5, V4, Z4, G4, V5, K5, B5, B4, Z5⟩ := evcopy9 w4 x9
 have V5 := (show (((((((((((v4.setCell ⟨w4.heap.size, 0, none⟩ (.int .i64 1)).setCell ⟨w4.heap.size, 1, none⟩ (.int .i64 0)).setCell ⟨w4.heap.size, 2, none⟩ (.int .i64 10)).setCell ⟨w4.heap.size, 3, none⟩ (.int .i64 2)).setCell ⟨w4.heap.size, 4, none⟩ (.int .i64 3)).setCell ⟨w4.heap.size, 5, none⟩ (.int .i64 2)).setCell ⟨w4.heap.size, 6, none⟩ (.int .i64 0)).setCell ⟨w4.heap.size, 7, none⟩ (.int .i64 0)).setCell ⟨w4.heap.size, 8, none⟩ (.int .i64 0)).setCell ⟨w4.heap.size, 9, none⟩ (.int .i64 0)).setCell ⟨w4.heap.size, 10, none⟩ (.int .i64 0)).setCell ⟨w4.heap.size, 11, none⟩ (.int .i64 5) = w5 from V5)
 obtain ⟨g0, g0'⟩ := G4 0 (by decide)
 obtain ⟨g1, g1'⟩ := G4 1 (by decide)
 obtain ⟨g2, g2'⟩ := G4 2 (by decide)
 obtain ⟨g3, g3'⟩ := G4 3 (by decide)
 obtain ⟨g4, g4'⟩ := G4 4 (by decide)
 obtain ⟨g5, g5'⟩ := G4 5 (by decide)
 obtain ⟨g6, g6'⟩ := G4 6 (by decide)
 obtain ⟨g7, g7'⟩ := G4 7 (by decide)
 obtain ⟨g8, g8'⟩ := G4 8 (by decide)
 obtain ⟨g9, g9'⟩ := G4 9 (by decide)
 obtain ⟨g10, g10'⟩ := G4 10 (by decide)
 obtain ⟨g11, g11'⟩ := G4 11 (by decide)
 have HY := Lib.hid (fun W (b : Below w5.heap.size w5 W) => x9_cells (K5.below b))
 have hb := B5
 clear G4 K5 B5 B4 Z4
 go_upto_region 4 with fail
 clear V4 V5 g0 g0' g1 g1' g2 g2' g3 g3' g4 g4' g5 g5' g6 g6' g7 g7' g8 g8' g9 g9' g10 g10' g11 g11'
 replace HB := Lib.hid (HB.out.trans ((hb).mono HB.out.size))
 replace HB2 := Lib.hid (HB2.out.trans ((hb).mono HB2.out.size))
 have HB5 := Lib.hid (show Below w5.heap.size w5 w5 from Below.refl _ _)
 clear hb Z5
 obtain ⟨u0, u1, u2, u3, u4, u5, u6, u7, u8, u9, u10, u11⟩ := HX.out w5 HB2.out
 obtain ⟨w4a, Va, Za, Ka, Ba⟩ := lay8 w5 (KE.vs [x9]) 23
 have Va := (show w5.alloc (.cells #[.int .i64 1, .int .i64 0, .int .i64 10, .int .i64 2, .int .i64 3, .int .i64 2, .int .i64 0, .int .i64 0, .int .i64 0, .int .i64 0, .int .i64 0, .int .i64 5] 23) = w4a from Va)
 obtain ⟨w4b, Vb, Zb, Kb, Bb⟩ := lay8 w4a (([1] : List Int).map (Value.int .i64)) 3
 have Vb := (show w4a.alloc (.cells #[.int .i64 1] 3) = w4b from Vb)
 obtain ⟨w4c, Vc, Zc, Kc, Bc⟩ := lay8 w4b (([4] : List Int).map (Value.int .i64)) 3
 have Vc := (show w4b.alloc (.cells #[.int .i64 4] 3) = w4c from Vc)
 rw [Za] at Zb Kb Bb
 rw [Zb] at Zc Kc Bc
 have HIa := Lib.hid (((CellsAt.rnK9 KE (l := [x9]) Ka (Nat.le_refl _) (by omega)).rl.below (by rw [Za]; exact Bb)).below (by rw [Zb]; exact Bc))
 have HIb := Lib.hid ((CellsAt.ints9 (l := [1]) Kb (by omega)).below (by rw [Zb]; exact Bc))
 have HIc := Lib.hid (CellsAt.ints9 (l := [4]) Kc (by omega))
 have hb := (show Below w5.heap.size w5 w4c from (Ba.trans (Bb.mono (by omega))).trans (Bc.mono (by omega)))
 clear Ka Kb Kc Ba Bb Bc
 go_wp2_with fail
 clear Va Vb Vc
 clear u0 u1 u2 u3 u4 u5 u6 u7 u8 u9 u10 u11
 replace HB := Lib.hid (HB.out.trans ((hb).mono HB.out.size))
 replace HB2 := Lib.hid (HB2.out.trans ((hb).mono HB2.out.size))
 replace HB5 := Lib.hid (HB5.out.trans ((hb).mono HB5.out.size))
 clear hb Za Zb Zc
 refine (split_1 _ _ _ _ (HRD.out _ HB.out) (HDD.out _ HB.out) HIa.out HIb.out HIc.out).mono ?_
 rintro e w4z ⟨hb, p1, o1, sc1, ad1, c1, rfl, hc1, hr1⟩
 clear HIa HIb HIc
 replace HB := Lib.hid (HB.out.trans ((hb).mono HB.out.size))
 replace HB2 := Lib.hid (HB2.out.trans ((hb).mono HB2.out.size))
 replace HB5 := Lib.hid (HB5.out.trans ((hb).mono HB5.out.size))
 clear hb
 have HBp := Lib.hid (show Below w4z.heap.size w4z w4z from Below.refl _ _)
 have HC1 := Lib.hid hc1; have HR1 := Lib.hid (fun W (b : Below w4z.heap.size w4z W) => hr1.below b)
 clear hc1 hr1
 obtain ⟨u0, u1, u2, u3, u4, u5, u6, u7, u8, u9, u10, u11⟩ := HX.out w4z HB2.out
 obtain ⟨w5a, Va, Za, Ka, Ba⟩ := lay8 w4z (KE.vs [x9]) 23
 have Va := (show w4z.alloc (.cells #[.int .i64 1, .int .i64 0, .int .i64 10, .int .i64 2, .int .i64 3, .int .i64 2, .int .i64 0, .int .i64 0, .int .i64 0, .int .i64 0, .int .i64 0, .int .i64 5] 23) = w5a from Va)
 obtain ⟨w5b, Vb, Zb, Kb, Bb⟩ := lay8 w5a (([0, 1] : List Int).map (Value.int .i64)) 3
 have Vb := (show w5a.alloc (.cells #[.int .i64 0, .int .i64 1] 3) = w5b from Vb)
 obtain ⟨w5c, Vc, Zc, Kc, Bc⟩ := lay8 w5b (([3, 4] : List Int).map (Value.int .i64)) 3
 have Vc := (show w5b.alloc (.cells #[.int .i64 3, .int .i64 4] 3) = w5c from Vc)
 rw [Za] at Zb Kb Bb
 rw [Zb] at Zc Kc Bc
 have HIa := Lib.hid (((CellsAt.rnK9 KE (l := [x9]) Ka (Nat.le_refl _) (by omega)).rl.below (by rw [Za]; exact Bb)).below (by rw [Zb]; exact Bc))
 have HIb := Lib.hid ((CellsAt.ints9 (l := [0, 1]) Kb (by omega)).below (by rw [Zb]; exact Bc))
 have HIc := Lib.hid (CellsAt.ints9 (l := [3, 4]) Kc (by omega))
 have hb := (show Below w4z.heap.size w4z w5c from (Ba.trans (Bb.mono (by omega))).trans (Bc.mono (by omega)))
 clear Ka Kb Kc Ba Bb Bc
 go_wp2_with fail
 clear Va Vb Vc
 clear u0 u1 u2 u3 u4 u5 u6 u7 u8 u9 u10 u11
 replace HB := Lib.hid (HB.out.trans ((hb).mono HB.out.size))
 replace HB2 := Lib.hid (HB2.out.trans ((hb).mono HB2.out.size))
 replace HB5 := Lib.hid (HB5.out.trans ((hb).mono HB5.out.size))
 replace HBp := Lib.hid (HBp.out.trans ((hb).mono HBp.out.size))
 clear hb Za Zb Zc
 refine (split_2 _ _ _ _ (HRD.out _ HB.out) (HDD.out _ HB.out) HIa.out HIb.out HIc.out).mono ?_
 rintro e w5z ⟨hb, p2, o2, sc2, ad2, c2, rfl, hc2⟩
 clear HIa HIb HIc
 replace HB := Lib.hid (HB.out.trans ((hb).mono HB.out.size))
 replace HB2 := Lib.hid (HB2.out.trans ((hb).mono HB2.out.size))
 replace HB5 := Lib.hid (HB5.out.trans ((hb).mono HB5.out.size))
 replace HBp := Lib.hid (HBp.out.trans ((hb).mono HBp.out.size))
 clear hb
 have HBq := Lib.hid (show Below w5z.heap.size w5z w5z from Below.refl _ _)
 have HC2 := Lib.hid hc2
 clear hc2
 obtain ⟨u0, u1, u2, u3, u4, u5, u6, u7, u8, u9, u10, u11⟩ := HX.out w5z HB2.out
 obtain ⟨w6a, Va, Za, Ka, Ba⟩ := lay8 w5z (KE.vs [x9]) 23
 have Va := (show w5z.alloc (.cells #[.int .i64 1, .int .i64 0, .int .i64 10, .int .i64 2, .int .i64 3, .int .i64 2, .int .i64 0, .int .i64 0, .int .i64 0, .int .i64 0, .int .i64 0, .int .i64 5] 23) = w6a from Va)
 obtain ⟨w6b, Vb, Zb, Kb, Bb⟩ := lay8 w6a (([0, 1] : List Int).map (Value.int .i64)) 3
 have Vb := (show w6a.alloc (.cells #[.int .i64 0, .int .i64 1] 3) = w6b from Vb)
 obtain ⟨w6c, Vc, Zc, Kc, Bc⟩ := lay8 w6b (([4, 4] : List Int).map (Value.int .i64)) 3
 have Vc := (show w6b.alloc (.cells #[.int .i64 4, .int .i64 4] 3) = w6c from Vc)
 rw [Za] at Zb Kb Bb
 rw [Zb] at Zc Kc Bc
 have HIa := Lib.hid (((CellsAt.rnK9 KE (l := [x9]) Ka (Nat.le_refl _) (by omega)).rl.below (by rw [Za]; exact Bb)).below (by rw [Zb]; exact Bc))
 have HIb := Lib.hid ((CellsAt.ints9 (l := [0, 1]) Kb (by omega)).below (by rw [Zb]; exact Bc))
 have HIc := Lib.hid (CellsAt.ints9 (l := [4, 4]) Kc (by omega))
 have hb := (show Below w5z.heap.size w5z w6c from (Ba.trans (Bb.mono (by omega))).trans (Bc.mono (by omega)))
 clear Ka Kb Kc Ba Bb Bc
 go_wp2_with fail
 clear Va Vb Vc
 clear u0 u1 u2 u3 u4 u5 u6 u7 u8 u9 u10 u11
 replace HB := Lib.hid (HB.out.trans ((hb).mono HB.out.size))
 replace HB2 := Lib.hid (HB2.out.trans ((hb).mono HB2.out.size))
 replace HB5 := Lib.hid (HB5.out.trans ((hb).mono HB5.out.size))
 replace HBp := Lib.hid (HBp.out.trans ((hb).mono HBp.out.size))
 replace HBq := Lib.hid (HBq.out.trans ((hb).mono HBq.out.size))
 clear hb Za Zb Zc
 refine (split_3 _ _ _ _ (HRD.out _ HB.out) (HDD.out _ HB.out) HIa.out HIb.out HIc.out).mono ?_
 rintro e w6z ⟨rfl, hb⟩
 clear HIa HIb HIc
 replace HB := Lib.hid (HB.out.trans ((hb).mono HB.out.size))
 replace HB2 := Lib.hid (HB2.out.trans ((hb).mono HB2.out.size))
 replace HB5 := Lib.hid (HB5.out.trans ((hb).mono HB5.out.size))
 replace HBp := Lib.hid (HBp.out.trans ((hb).mono HBp.out.size))
 replace HBq := Lib.hid (HBq.out.trans ((hb).mono HBq.out.size))
 clear hb
 go_wp2_with fail
 refine (zeroR9_any _).mono ?_
 rintro e w7 ⟨rfl, hb⟩
 replace HB := Lib.hid (HB.out.trans ((hb).mono HB.out.size))
 replace HB2 := Lib.hid (HB2.out.trans ((hb).mono HB2.out.size))
 replace HB5 := Lib.hid (HB5.out.trans ((hb).mono HB5.out.size))
 replace HBp := Lib.hid (HBp.out.trans ((hb).mono HBp.out.size))
 replace HBq := Lib.hid (HBq.out.trans ((hb).mono HBq.out.size))
 clear hb
 go_wp2_with fail
 refine (CCH.out _ HB.out).mono ?_
 rintro e w8 ⟨rfl, hb⟩
 replace HB := Lib.hid (HB.out.trans ((hb).mono HB.out.size))
 replace HB2 := Lib.hid (HB2.out.trans ((hb).mono HB2.out.size))
 replace HB5 := Lib.hid (HB5.out.trans ((hb).mono HB5.out.size))
 replace HBp := Lib.hid (HBp.out.trans ((hb).mono HBp.out.size))
 replace HBq := Lib.hid (HBq.out.trans ((hb).mono HBq.out.size))
 clear hb
 have i1 := fun W => (show (Instr.indexAt 35 (.slice (some ⟨p1, o1, none⟩) 1 sc1) (.int .i64 0)).run Tryz.prog W = .ok (.pointer (some ⟨p1, o1, none⟩)) W from at_bv9 p1 o1 1 sc1 0 (by decide) W)
 have i2 := fun W => (show (Instr.indexAt 35 (.slice (some ⟨p2, o2, none⟩) 2 sc2) (.int .i64 0)).run Tryz.prog W = .ok (.pointer (some ⟨p2, o2, none⟩)) W from at_bv9 p2 o2 2 sc2 0 (by decide) W)
 obtain ⟨k0, k1, k2, k3, k4⟩ := HC1.out _ HBp.out
 go_wp2_with fail
 refine (encodeBatch_b9 _ _ _ (HRD.out _ HB.out) (HR1.out _ HBp.out)).mono ?_
 rintro e w9 ⟨rfl, hb⟩
 clear k0 k1 k2 k3 k4
 replace HB := Lib.hid (HB.out.trans ((hb).mono HB.out.size))
 replace HB2 := Lib.hid (HB2.out.trans ((hb).mono HB2.out.size))
 replace HB5 := Lib.hid (HB5.out.trans ((hb).mono HB5.out.size))
 replace HBp := Lib.hid (HBp.out.trans ((hb).mono HBp.out.size))
 replace HBq := Lib.hid (HBq.out.trans ((hb).mono HBq.out.size))
 clear hb
 go_wp2_with fail
 refine (CDB.out _ HB.out).mono ?_
 rintro e w10 ⟨hb, ad3, c3, rfl, hr3⟩
 replace HB := Lib.hid (HB.out.trans ((hb).mono HB.out.size))
 replace HB2 := Lib.hid (HB2.out.trans ((hb).mono HB2.out.size))
 replace HB5 := Lib.hid (HB5.out.trans ((hb).mono HB5.out.size))
 replace HBp := Lib.hid (HBp.out.trans ((hb).mono HBp.out.size))
 replace HBq := Lib.hid (HBq.out.trans ((hb).mono HBq.out.size))
 clear hb
 obtain ⟨w11, V11, Z11, K11, B11⟩ := lay8 w10 [.int .i64 0, .int .i64 0, .slice none 0 0, .int .i64 0, .string ⟨#[]⟩] 26
 obtain ⟨w12, V12, K12, hb⟩ : ∃ w12, ((((w11.setCell ⟨w10.heap.size, 0, none⟩ (.int .i64 1)).setCell ⟨w10.heap.size, 1, none⟩ (.int .i64 0)).setCell ⟨w10.heap.size, 2, none⟩ (.slice ad3 1 c3)).setCell ⟨w10.heap.size, 3, none⟩ (.int .i64 4)).setCell ⟨w10.heap.size, 4, none⟩ (.string h9) = w12 ∧ CellsAt w12 w10.heap.size [.int .i64 1, .int .i64 0, .slice ad3 1 c3, .int .i64 4, .string h9] ∧ Below w10.heap.size w10 w12 :=
  ⟨_, rfl, ((((K11.put 0 _).put 1 _).put 2 _).put 3 _).put 4 _, ((((B11.setCell (Nat.le_refl _) _).setCell (Nat.le_refl _) _).setCell (Nat.le_refl _) _).setCell (Nat.le_refl _) _).setCell (Nat.le_refl _) _⟩
 have HR3 := Lib.hid (fun W (b : Below w12.heap.size w12 W) => hr3.below (below_up8 hb b))
 have HZ3 := Lib.hid (fun W (b : Below w12.heap.size w12 W) => (show BtAt W w10.heap.size 0 1 0 ad3 1 c3 4 h9 from ⟨(K12.below b 0 (by simp)).1, (K12.below b 1 (by simp)).1, (K12.below b 2 (by simp)).1, (K12.below b 3 (by simp)).1, (K12.below b 4 (by simp)).1⟩))
 obtain ⟨m0, m0'⟩ := K11 0 (by simp); obtain ⟨m1, m1'⟩ := K11 1 (by simp); obtain ⟨m2, m2'⟩ := K11 2 (by simp); obtain ⟨m3, m3'⟩ := K11 3 (by simp); obtain ⟨m4, m4'⟩ := K11 4 (by simp)
 simp only [List.getElem_cons_zero, List.getElem_cons_succ] at m0 m1 m2 m3 m4
 clear K11 K12 B11 Z11 hr3
 go_upto_region 13 with fail
 clear V11 V12 m0 m0' m1 m1' m2 m2' m3 m3' m4 m4'
 replace HB := Lib.hid (HB.out.trans ((hb).mono HB.out.size))
 replace HB2 := Lib.hid (HB2.out.trans ((hb).mono HB2.out.size))
 replace HB5 := Lib.hid (HB5.out.trans ((hb).mono HB5.out.size))
 replace HBp := Lib.hid (HBp.out.trans ((hb).mono HBp.out.size))
 replace HBq := Lib.hid (HBq.out.trans ((hb).mono HBq.out.size))
 have HBz := Lib.hid (show Below w12.heap.size w12 w12 from Below.refl _ _)
 clear hb
 go_cut [20] from 103 to 138 (fun s20 wx => s20 = .bool true ∧ Hid (Below w12.heap.size w12 wx))
 case first =>
  have hs9 : s9.toList = [2, 0, 20, 4, 6, 4, 0, 0, 0, 0, 0, 10] := by decide +kernel
  have hsz : s9.size = 12 := rfl
  have heq := fun W => (show (Op.equalIn 10000 23 (.agg #[.int .i64 1, .int .i64 0, .int .i64 10, .int .i64 2, .int .i64 3, .int .i64 2, .int .i64 0, .int .i64 0, .int .i64 0, .int .i64 0, .int .i64 0, .int .i64 5]) (.agg #[.int .i64 1, .int .i64 0, .int .i64 10, .int .i64 2, .int .i64 3, .int .i64 2, .int .i64 0, .int .i64 0, .int .i64 0, .int .i64 0, .int .i64 0, .int .i64 5])).run Tryz.prog W = .ok true W from (eq_ev9 x9 x9 W).trans (by rw [Ev.eqB_iff.2 rfl]))
  have HXX := fun d os => HX.out _ (below_up8 HB2.out (below_regrown w12 d os))
  have HYY := fun d os => HY.out _ (below_up8 HB5.out (below_regrown w12 d os))
  have HCC := fun d os => HC1.out _ (below_up8 HBp.out (below_regrown w12 d os))
  have HDC := fun d os => HZ3.out _ (below_up8 HBz.out (below_regrown w12 d os))
  have u0 := fun d os => (HXX d os).1
  have y0 := fun d os => (HYY d os).1
  have u1 := fun d os => (HXX d os).2.1
  have y1 := fun d os => (HYY d os).2.1
  have u2 := fun d os => (HXX d os).2.2.1
  have y2 := fun d os => (HYY d os).2.2.1
  have u3 := fun d os => (HXX d os).2.2.2.1
  have y3 := fun d os => (HYY d os).2.2.2.1
  have u4 := fun d os => (HXX d os).2.2.2.2.1
  have y4 := fun d os => (HYY d os).2.2.2.2.1
  have u5 := fun d os => (HXX d os).2.2.2.2.2.1
  have y5 := fun d os => (HYY d os).2.2.2.2.2.1
  have u6 := fun d os => (HXX d os).2.2.2.2.2.2.1
  have y6 := fun d os => (HYY d os).2.2.2.2.2.2.1
  have u7 := fun d os => (HXX d os).2.2.2.2.2.2.2.1
  have y7 := fun d os => (HYY d os).2.2.2.2.2.2.2.1
  have u8 := fun d os => (HXX d os).2.2.2.2.2.2.2.2.1
  have y8 := fun d os => (HYY d os).2.2.2.2.2.2.2.2.1
  have u9 := fun d os => (HXX d os).2.2.2.2.2.2.2.2.2.1
  have y9 := fun d os => (HYY d os).2.2.2.2.2.2.2.2.2.1
  have u10 := fun d os => (HXX d os).2.2.2.2.2.2.2.2.2.2.1
  have y10 := fun d os => (HYY d os).2.2.2.2.2.2.2.2.2.2.1
  have u11 := fun d os => (HXX d os).2.2.2.2.2.2.2.2.2.2.2
  have y11 := fun d os => (HYY d os).2.2.2.2.2.2.2.2.2.2.2
  have k0 := fun d os => (HCC d os).1
  have z0 := fun d os => (HDC d os).1
  have k1 := fun d os => (HCC d os).2.1
  have z1 := fun d os => (HDC d os).2.1
  have k2 := fun d os => (HCC d os).2.2.1
  have z2 := fun d os => (HDC d os).2.2.1
  have k3 := fun d os => (HCC d os).2.2.2.1
  have z3 := fun d os => (HDC d os).2.2.2.1
  have k4 := fun d os => (HCC d os).2.2.2.2
  have z4 := fun d os => (HDC d os).2.2.2.2
  simp only [Nat.zero_add] at z1 z2 z3 z4
  clear HXX HYY HCC HDC
  refine wp_region_quiet_below (by kernel_rfl) (by kernel_rfl) ?_
  repeat (first | go_big_quiet_step ((go_at_call 26; exact Calls.regrown_of (same_b9 _ _ _ _ _ (HR1.out _ (below_up8 HBp.out (below_regrown _ _ _))) (HR3.out _ (below_up8 HBz.out (below_regrown _ _ _)))))) | quiet_step ((go_at_call 26; exact Calls.regrown_of (same_b9 _ _ _ _ _ (HR1.out _ (below_up8 HBp.out (below_regrown _ _ _))) (HR3.out _ (below_up8 HBz.out (below_regrown _ _ _)))))))
  refine wpQuiet_nil ?_
  intro _ hw'
  obtain ⟨⟨dq, osq⟩, hw''⟩ := hw'
  subst hw''
  go_wp2_with fail
  go_meet
  exact ⟨by first | rfl | simp, Lib.hid (below_regrown _ _ _)⟩
 case rest =>
  obtain ⟨rfl, HZ⟩ := hcut
  generalize wc = w13 at *
  have hb := HZ.out
  replace HB := Lib.hid (HB.out.trans ((hb).mono HB.out.size))
  replace HB2 := Lib.hid (HB2.out.trans ((hb).mono HB2.out.size))
  replace HB5 := Lib.hid (HB5.out.trans ((hb).mono HB5.out.size))
  replace HBp := Lib.hid (HBp.out.trans ((hb).mono HBp.out.size))
  replace HBq := Lib.hid (HBq.out.trans ((hb).mono HBq.out.size))
  replace HBz := Lib.hid (HBz.out.trans ((hb).mono HBz.out.size))
  clear hb HZ
  obtain ⟨k0, k1, k2, k3, k4⟩ := HC1.out _ HBp.out
  obtain ⟨j0, j1, j2, j3, j4⟩ := HC2.out _ HBq.out
  go_wp2_with fail
  refine (follows_z9 _ _ _ (HRD.out _ HB.out) (HDD.out _ HB.out) (HR1.out _ HBp.out)).mono ?_
  rintro e w14 ⟨rfl, hb⟩
  clear k0 k1 k2 k3 k4 j0 j1 j2 j3 j4
  replace HB := Lib.hid (HB.out.trans ((hb).mono HB.out.size))
  replace HB2 := Lib.hid (HB2.out.trans ((hb).mono HB2.out.size))
  replace HB5 := Lib.hid (HB5.out.trans ((hb).mono HB5.out.size))
  replace HBp := Lib.hid (HBp.out.trans ((hb).mono HBp.out.size))
  replace HBq := Lib.hid (HBq.out.trans ((hb).mono HBq.out.size))
  replace HBz := Lib.hid (HBz.out.trans ((hb).mono HBz.out.size))
  clear hb
  obtain ⟨k0, k1, k2, k3, k4⟩ := HC1.out _ HBp.out
  go_wp2_with fail
  refine (follows_h9 _ _ _ (HRD.out _ HB.out) (HDD.out _ HB.out) (HR1.out _ HBp.out)).mono ?_
  rintro e w15 ⟨rfl, hb⟩
  clear k0 k1 k2 k3 k4
  replace HB := Lib.hid (HB.out.trans ((hb).mono HB.out.size))
  replace HB2 := Lib.hid (HB2.out.trans ((hb).mono HB2.out.size))
  replace HB5 := Lib.hid (HB5.out.trans ((hb).mono HB5.out.size))
  replace HBp := Lib.hid (HBp.out.trans ((hb).mono HBp.out.size))
  replace HBq := Lib.hid (HBq.out.trans ((hb).mono HBq.out.size))
  replace HBz := Lib.hid (HBz.out.trans ((hb).mono HBz.out.size))
  clear hb
  obtain ⟨k0, k1, k2, k3, k4⟩ := HC1.out _ HBp.out
  go_wp2_with fail
  refine (valid_b9 _ _ _ (HRD.out _ HB.out) (HR1.out _ HBp.out)).mono ?_
  rintro e w16 ⟨rfl, hb⟩
  clear k0 k1 k2 k3 k4
  replace HB := Lib.hid (HB.out.trans ((hb).mono HB.out.size))
  replace HB2 := Lib.hid (HB2.out.trans ((hb).mono HB2.out.size))
  replace HB5 := Lib.hid (HB5.out.trans ((hb).mono HB5.out.size))
  replace HBp := Lib.hid (HBp.out.trans ((hb).mono HBp.out.size))
  replace HBq := Lib.hid (HBq.out.trans ((hb).mono HBq.out.size))
  replace HBz := Lib.hid (HBz.out.trans ((hb).mono HBz.out.size))
  clear hb
  obtain ⟨k0, k1, k2, k3, k4⟩ := HC1.out _ HBp.out
  go_wp2_with fail
  refine (CV0.out _ HB.out).mono ?_
  rintro e w17 ⟨rfl, hb⟩
  clear k0 k1 k2 k3 k4
  replace HB := Lib.hid (HB.out.trans ((hb).mono HB.out.size))
  replace HB2 := Lib.hid (HB2.out.trans ((hb).mono HB2.out.size))
  replace HB5 := Lib.hid (HB5.out.trans ((hb).mono HB5.out.size))
  replace HBp := Lib.hid (HBp.out.trans ((hb).mono HBp.out.size))
  replace HBq := Lib.hid (HBq.out.trans ((hb).mono HBq.out.size))
  replace HBz := Lib.hid (HBz.out.trans ((hb).mono HBz.out.size))
  go_wp2_with fail
  go_ret
  exact ⟨rfl, HB.out⟩
end Go.Proofs.YtnpfhcnjkekhbaaGreatDoor
