/-
  Layer 8: the contract of the maker's add. Layer 8: the contract of the maker's begin. Layer 8: the contract of the maker's release. Layer 8: the contract of the maker's end. Layer 8: a trace made, plain: its steps, and what stays as it should be. Layer 8: a trace made, plain: its events are valid, and follow their times. Layer 8: a trace made, plain: what holds at each step. Layer 8: streams; the contract of the reference's Of. Layer 8: a list copied into a row of one's own; the law's moved. Layer 8: streams, plain, and as they lie in memory. Layer 8: the contract of the reference's Streams. Layer 8: the example of the reference, plain: its events are valid, and agree with their times. Layer 8: events that follow their times agree with them; readings of real clocks fit, plain.
-/
import Derived.Test.YtamefmojocegkaaDoorProg
import Derived.Test.YtamefmojocegkaaDoorK03
import Derived.Lib.QuietBelow
import Derived.StillTail
import Derived.WalkKit
import Derived.WalkLawsBesides
import Derived.Outline
import Derived.Lib.Hide
import Derived.Below
import Derived.BigQuiet
import Derived.Deep.QuietTactic
import Derived.Deep.RegionHeld3
import Derived.Deep.DeepCutAuto
import Derived.Laws.Rows
import Derived.Laws.OwnMore
import Derived.OwnWalk
set_option maxRecDepth 100000
set_option maxHeartbeats 16000000
namespace Go.Proofs.YtamefmojocegkaaDoor
open Go Go.Proofs Go.RowKit Go.Lib
theorem at_bool8 (g o n c k : Nat) (hk : k < n) (w : World) : (Instr.indexAt 101 (.slice (some ⟨g, o, none⟩) n c) (.int .i64 (k : Int))).run Tryd.prog w = .ok (.pointer (some ⟨g, o + k, none⟩)) w := by
 have := KB.at_ g o n c k hk w
 rw [show o + KB.n * k = o + k by show o + 1 * k = _; omega] at this
 exact this
theorem Own.int8 {W : World} {base : Nat} {v : Value} {l : List Int} (h : Own KI W base v l) (i : Nat) (hi : i < l.length) : ∃ g c, v = .slice (some ⟨g, 0, none⟩) l.length c ∧ base ≤ g ∧ g < W.heap.size ∧ (∀ w, (Instr.indexAt 22 (.slice (some ⟨g, 0, none⟩) l.length c) (.int .i64 (i : Int))).run Tryd.prog w = .ok (.pointer (some ⟨g, i, none⟩)) w) ∧
 (∀ W' n, Below n W W' → g < n → W'.cell? ⟨g, i, none⟩ = some (.int .i64 (l.getD i 0)) ∧ W'.frozen? ⟨g, i, none⟩ = false) := by
 obtain ⟨g, c, rfl, _, h1, h2⟩ := h.block (by omega)
 refine ⟨g, c, rfl, h1, h2, fun w => by have := at_int8 g 0 l.length c i hi w; rwa [Nat.zero_add] at this, fun W' n b hg => ?_⟩
 have hc := h.cell i hi 0 (by decide)
 rw [show KI.n * i + 0 = i by show 1 * i + 0 = i; omega] at hc
 rw [b.cell (p := ⟨g, i, none⟩) hg, b.frozen (p := ⟨g, i, none⟩) hg, hc.1, List.getD_eq_getElem?_getD, List.getElem?_eq_getElem hi]
 exact ⟨rfl, hc.2⟩
theorem addR_any (base B : Nat) (F : Fv) (s : Mk) (i : Nat) (e : Ev) (hi : i < s.ags.length) (hsm : s.small) (w : World) (h : MkAt w base B F s) :
 Calls Tryd.prog 60 #[.pointer (some ⟨B, 0, none⟩), .int .i64 (i : Int), e.val] w (Done w base B F (addM s i e)) := by
 obtain ⟨vo, va, vp, vq, vh, hm⟩ := h
 obtain ⟨⟨i0, i1⟩, ⟨n0, n1⟩, ol, _⟩ := hsm
 have hlt := hm.lt
 obtain ⟨ga, ca, rfl, hga, hga2, hia, hca⟩ := hm.ra.int8 i hi
 have HM := Lib.hid hm
 have HAD := Lib.hid (show ∀ b, addM s i e = { s with out := s.out ++ [⟨{ e with tr := s.id, sp := i, ag := s.ags.getD i 0, bt := b }, s.now⟩], now := s.now + 1 } ∨ b ≠ 10 + pick8 (7 * (s.out.length : Nat) + s.id) 90 from fun b => by
  by_cases hb : b = 10 + pick8 (7 * (s.out.length : Nat) + s.id) 90
  · left; rw [hb]; rfl
  · right; exact hb)
 obtain ⟨ado, co, evo, hco⟩ := hm.ro.form
 have HPK := Lib.hid (fun W => (pickR8_any (7 * (s.out.length : Nat) + s.id) 90 (by omega) (by omega) (by decide) (by decide) W).mono fun e w2 h => And.intro h.1 h.2.symm)
 have p0 := pick8_lo (c := 7 * (s.out.length : Nat) + s.id) (n := 90) (by decide)
 have p1 := pick8_hi (c := 7 * (s.out.length : Nat) + s.id) (n := 90) (by decide)
 have HBB := Lib.hid (HAD.out (10 + pick8 (7 * (s.out.length : Nat) + s.id) 90))
 generalize pick8 (7 * (s.out.length : Nat) + s.id) 90 = PB at *
 subst evo
 have hw7 : IntKind.i64.wrap (7 * (s.out.length : Int)) = 7 * (s.out.length : Int) := wrapq8 (by omega)
 have hw8 : IntKind.i64.wrap (7 * (s.out.length : Int) + s.id) = 7 * (s.out.length : Int) + s.id := wrapq8 (by omega)
 have hw9 : IntKind.i64.wrap (10 + PB) = 10 + PB := wrapq8 (by omega)
 have hw1 : IntKind.i64.wrap (s.now + 1) = s.now + 1 := wrapq8 (by omega)
 have HOL := Lib.hid (show s.out.length + 1 ≤ 100000000 by omega)
 clear hm HAD hco p0 p1 n0 n1 i0 i1
 obtain ⟨w1, V1, Z1, K1, B1⟩ := lay8 w [.int .i64 e.ag, .int .i64 e.sq, .int .i64 e.tm, .int .i64 e.kd, .int .i64 e.tr, .int .i64 e.sp, .int .i64 e.lk, .int .i64 e.gn, .int .i64 e.op, .int .i64 e.vr, .int .i64 e.pe, .int .i64 e.bt] 46
 have HM1 := Lib.hid (HM.out.up B1 (Nat.le_refl _))
 have c5 := (HM1.out.cells 5 (by simp [Mk.cells])).1
 have c8 := (HM1.out.cells 8 (by simp [Mk.cells])).1
 simp only [Mk.cells, List.getElem_cons_zero, List.getElem_cons_succ] at c5 c8
 obtain ⟨x1, x2⟩ := hca w1 _ B1 hga2
 generalize s.ags.getD i 0 = AG at *
 obtain ⟨y41, y42⟩ := K1 4 (by simp); obtain ⟨y51, y52⟩ := K1 5 (by simp); obtain ⟨y01, y02⟩ := K1 0 (by simp)
 simp only [List.getElem_cons_zero, List.getElem_cons_succ] at y01 y41 y51
 have hb1 : ¬ w.heap.size = B := by omega
 have hb2 : ¬ B = w.heap.size := by omega
 have hb3 : ¬ w.heap.size = ga := by omega
 have hb4 : ¬ ga = w.heap.size := by omega
 have HK1 := Lib.hid K1
 have HB1 := Lib.hid B1
 clear K1 B1 hca hia x2
 have hia := fun W => (fun {g o n c k} (hk : k < n) => at_int8 g o n c k hk W) (g := ga) (o := 0) (c := ca) hi
 simp only [Nat.zero_add] at hia
 unfold Ev.val
 go_enter Tryd.func60, Tryd.ntmps60
 go_upto_region 4 with fail
 obtain ⟨w2, hW2⟩ : ∃ w2, w2 = ((w1.setCell ⟨w.heap.size, 4, none⟩ (.int .i64 s.id)).setCell ⟨w.heap.size, 5, none⟩ (.int .i64 (i : Int))).setCell ⟨w.heap.size, 0, none⟩ (.int .i64 AG) := ⟨_, rfl⟩
 rw [← hW2]
 have HB2 := Lib.hid (show Below w.heap.size w w2 by rw [hW2]; exact ((HB1.out.setCell (Nat.le_refl _) _).setCell (Nat.le_refl _) _).setCell (Nat.le_refl _) _)
 have KE2 := Lib.hid (show CellsAt w2 w.heap.size [.int .i64 AG, .int .i64 e.sq, .int .i64 e.tm, .int .i64 e.kd, .int .i64 s.id, .int .i64 (i : Int), .int .i64 e.lk, .int .i64 e.gn, .int .i64 e.op, .int .i64 e.vr, .int .i64 e.pe, .int .i64 e.bt] by rw [hW2]; exact ((HK1.out.put 4 _).put 5 _).put 0 _)
 have HM2 := Lib.hid (HM.out.up HB2.out (Nat.le_refl _))
 have hz2 : w.heap.size < w2.heap.size := by rw [hW2]; simp; omega
 clear c5 c8 x1 y01 y02 y41 y42 y51 y52 hW2 V1 Z1 HK1 HB1 HM1 hia hb3 hb4
 obtain ⟨E', hE'⟩ : ∃ E' : Ev, E' = { e with tr := s.id, sp := i, ag := AG, bt := 10 + PB } := ⟨_, rfl⟩
 refine wp_region_noPanic ?_
 refine wp_region_Kx (C := Grew w2) [13, 14] 13 #[false, false, false, false, false, false, false, false, false, false, false, false, false, false, false] (by kernel_rfl) (by kernel_rfl) (by kernel_rfl) (grew0 _) ?_
 intro wx hwx
 obtain ⟨z1, z2⟩ := (KE2.out.up hwx.below hz2) 11 (by simp)
 have HBX := Lib.hid (show Below w.heap.size w wx from HB2.out.trans (hwx.below.mono (by omega)))
 have KEX := Lib.hid (KE2.out.up hwx.below hz2)
 refine wpAnyK_ex (i := 0) rfl (by kernel_rfl) (listed' := #[true, false, false, false, false, false, false, false, false, false, false, false, false, false, false]) rfl (fun _ _ _ _ _ h => h) hwx ?_
 apply Exists.intro
 refine ⟨⟨by rfl, fun wy hw => ?_⟩, ?_⟩
 · (have bw := hw.below; go_simp; try (first | (with_reducible rfl) | (with_reducible exact ⟨rfl, rfl⟩)))
 try simp only [Act.put]
 refine wpAnyK_ex (i := 1) rfl (by kernel_rfl) (listed' := #[true, true, false, false, false, false, false, false, false, false, false, false, false, false, false]) rfl (fun _ _ _ _ _ h => h) hwx ?_
 apply Exists.intro
 refine ⟨⟨by rfl, fun wy hw => ?_⟩, ?_⟩
 · (have bw := hw.below; go_simp; try (first | (with_reducible rfl) | (with_reducible exact ⟨rfl, rfl⟩)))
 try simp only [Act.put]
 refine wpAnyK_ex (i := 2) rfl (by kernel_rfl) (listed' := #[true, true, true, false, false, false, false, false, false, false, false, false, false, false, false]) rfl (fun _ _ _ _ _ h => h) hwx ?_
 apply Exists.intro
 refine ⟨⟨by rfl, fun wy hw => ?_⟩, ?_⟩
 · (have bw := hw.below; go_simp; try (first | (with_reducible rfl) | (with_reducible exact ⟨rfl, rfl⟩)))
 try simp only [Act.put]
 refine wpAnyK_ex (i := 3) rfl (by kernel_rfl) (listed' := #[true, true, true, true, false, false, false, false, false, false, false, false, false, false, false]) rfl (fun _ _ _ _ _ h => h) hwx ?_
 apply Exists.intro
 refine ⟨⟨by rfl, fun wy hw => ?_⟩, ?_⟩
 · (have bw := hw.below; have f7 := (show wy.cell? ⟨B, 7, none⟩ = some (.slice ado s.out.length co) from (HM2.out.cells.below bw 7 (show 7 < 19 by decide)).1); go_simp; try (first | (with_reducible rfl) | (with_reducible exact ⟨rfl, rfl⟩)))
 try simp only [Act.put]
 refine wpAnyK_ex (i := 4) rfl (by kernel_rfl) (listed' := #[true, true, true, true, true, false, false, false, false, false, false, false, false, false, false]) rfl (fun _ _ _ _ _ h => h) hwx ?_
 apply Exists.intro
 refine ⟨⟨by rfl, fun wy hw => ?_⟩, ?_⟩
 · (have bw := hw.below; go_simp; try (first | (with_reducible rfl) | (with_reducible exact ⟨rfl, rfl⟩)))
 try simp only [Act.put]
 refine wpAnyK_ex (i := 5) rfl (by kernel_rfl) (listed' := #[true, true, true, true, true, true, false, false, false, false, false, false, false, false, false]) rfl (fun _ _ _ _ _ h => h) hwx ?_
 apply Exists.intro
 refine ⟨⟨by rfl, fun wy hw => ?_⟩, ?_⟩
 · (have bw := hw.below; go_simp; try (first | (with_reducible rfl) | (with_reducible exact ⟨rfl, rfl⟩)))
 try simp only [Act.put]
 refine wpAnyK_ex (i := 6) rfl (by kernel_rfl) (listed' := #[true, true, true, true, true, true, true, false, false, false, false, false, false, false, false]) rfl (fun _ _ _ _ _ h => h) hwx ?_
 apply Exists.intro
 refine ⟨⟨by rfl, fun wy hw => ?_⟩, ?_⟩
 · (have bw := hw.below; go_simp; try (first | (with_reducible rfl) | (with_reducible exact ⟨rfl, rfl⟩)))
 try simp only [Act.put]
 refine wpAnyK_ex (i := 7) rfl (by kernel_rfl) (listed' := #[true, true, true, true, true, true, true, true, false, false, false, false, false, false, false]) rfl (fun _ _ _ _ _ h => h) hwx ?_
 apply Exists.intro
 refine ⟨⟨by rfl, fun wy hw => ?_⟩, ?_⟩
 · (have bw := hw.below; go_simp; try (first | (with_reducible rfl) | (with_reducible exact ⟨rfl, rfl⟩)))
 try simp only [Act.put]
 refine wpAnyK_ex (i := 8) rfl (by kernel_rfl) (listed' := #[true, true, true, true, true, true, true, true, true, false, false, false, false, false, false]) rfl (fun _ _ _ _ _ h => h) hwx ?_
 apply Exists.intro
 refine ⟨⟨by rfl, fun wy hw => ?_⟩, ?_⟩
 · (have bw := hw.below; go_simp; try (first | (with_reducible rfl) | (with_reducible exact ⟨rfl, rfl⟩)))
 try simp only [Act.put]
 refine wpAnyK_ex (i := 9) rfl (by kernel_rfl) (listed' := #[true, true, true, true, true, true, true, true, true, true, false, false, false, false, false]) rfl (fun _ _ _ _ _ h => h) hwx ?_
 apply Exists.intro
 refine ⟨⟨by rfl, fun wy hw => ?_⟩, ?_⟩
 · (have bw := hw.below; have f5 := (show wy.cell? ⟨B, 5, none⟩ = some (.int .i64 s.id) from (HM2.out.cells.below bw 5 (show 5 < 19 by decide)).1); go_simp; try (first | (with_reducible rfl) | (with_reducible exact ⟨rfl, rfl⟩)))
 try simp only [Act.put]
 refine wpAnyK_ex (i := 10) rfl (by kernel_rfl) (listed' := #[true, true, true, true, true, true, true, true, true, true, true, false, false, false, false]) rfl (fun _ _ _ _ _ h => h) hwx ?_
 apply Exists.intro
 refine ⟨⟨by rfl, fun wy hw => ?_⟩, ?_⟩
 · (have bw := hw.below; go_simp; try (first | (with_reducible rfl) | (with_reducible exact ⟨rfl, rfl⟩)))
 try simp only [Act.put]
 refine wpAnyK_callx (i := 11) rfl (by kernel_rfl) (listed' := #[true, true, true, true, true, true, true, true, true, true, true, true, false, false, false]) rfl (fun _ _ _ _ _ h => h) hwx ?_
 apply Exists.intro
 apply Exists.intro
 apply Exists.intro
 refine ⟨⟨by rfl, fun wy hw => ?_, fun wy hw => ?_⟩, ?_⟩
 · (have bw := hw.below; go_simp; try (first | (with_reducible rfl) | (with_reducible exact ⟨rfl, rfl⟩)))
 · (exact HPK.out _)
 try simp only [Act.put]
 refine wpAnyK_ex (i := 12) rfl (by kernel_rfl) (listed' := #[true, true, true, true, true, true, true, true, true, true, true, true, true, false, false]) rfl (fun _ _ _ _ _ h => h) hwx ?_
 apply Exists.intro
 refine ⟨⟨by rfl, fun wy hw => ?_⟩, ?_⟩
 · (have bw := hw.below; go_simp; try (first | (with_reducible rfl) | (with_reducible exact ⟨rfl, rfl⟩)))
 try simp only [Act.put]
 refine wpAnyK_end (by kernel_rfl) ?_
 try simp only [pickOps, List.filterMap_cons, List.filterMap_nil, List.getElem?_toArray, List.getElem?_cons_succ, List.getElem?_cons_zero]
 clear hwx
 go_wp2_with fail
 refine NoPanic.normal ?_
 go_upto_region 5 with fail
 clear z1 z2
 obtain ⟨w3, hW3⟩ : ∃ w3, w3 = wx.setCell ⟨w.heap.size, 11, none⟩ (.int .i64 (10 + PB)) := ⟨_, rfl⟩
 rw [← hW3]
 have HB3 := Lib.hid (show Below w.heap.size w w3 by rw [hW3]; exact HBX.out.setCell (Nat.le_refl _) _)
 have KE3 := Lib.hid (show CellsAt w3 w.heap.size E'.cells by rw [hW3, hE']; exact KEX.out.put 11 _)
 have HM3 := Lib.hid (HM.out.up HB3.out (Nat.le_refl _))
 have hz3 : w.heap.size < w3.heap.size := by rw [hW3]; have := HBX.out.size; have := KEX.out 0 (by simp); have := World.block_lt_of_cell? wx ⟨w.heap.size, 0, none⟩ this.1; simp; exact this
 have HE := Lib.hid (show addM s i e = { s with out := s.out ++ [⟨E', s.now⟩], now := s.now + 1 } by rw [HBB.out.resolve_right (fun h => h rfl), hE'])
 clear hW3 hE' HBX KEX KE2 HM2 HB2 hz2 HBB
 refine wp_region_noPanic ?_
 refine wp_region_Kp (C := Grew w3) [0] [12, 13, 14, 15] 11 #[true, false, false, false, false, false, false, false, false, false, false, false, false, false, false, false] (by kernel_rfl) (by kernel_rfl) (by kernel_rfl) (by kernel_rfl) (grew0 _) (fun _ _ _ _ _ h => h) ?_
 simp only [pickOps, List.filterMap_cons, List.filterMap_nil, List.getElem?_toArray, List.getElem?_cons_succ, List.getElem?_cons_zero]
 refine wpPure_step (fun K hK => ?_)
 apply Exists.intro
 refine ⟨⟨by rfl, fun wx => ?_⟩, hK _ ?_⟩
 · (go_simp; try (first | (with_reducible rfl) | (with_reducible exact ⟨rfl, rfl⟩)))
 clear hK K
 try simp only [Act.put]
 refine wpPure_nil ?_
 intro wq hwq
 obtain ⟨w7, V7, Z7, K7, B7⟩ := lay8 wq [.int .i64 E'.ag, .int .i64 E'.sq, .int .i64 E'.tm, .int .i64 E'.kd, .int .i64 E'.tr, .int .i64 E'.sp, .int .i64 E'.lk, .int .i64 E'.gn, .int .i64 E'.op, .int .i64 E'.vr, .int .i64 E'.pe, .int .i64 E'.bt, .int .i64 s.now] 99
 have g7 : Grew w3 w7 := by rw [← V7]; exact hwq.alloc _
 have H7 := Lib.hid g7.below
 have HM7 := Lib.hid (HM3.out.up H7.out (Nat.le_refl _))
 have K7 := Lib.hid (show CellsAt w7 wq.heap.size (KH.cs ⟨E', s.now⟩) from K7)
 have HB7 := Lib.hid (show Below w.heap.size w w7 from HB3.out.trans (H7.out.mono (by omega)))
 refine wpAnyK_ex (i := 1) rfl (by kernel_rfl) (listed' := #[true, true, false, false, false, false, false, false, false, false, false, false, false, false, false, false]) rfl (fun _ _ _ _ _ h => h) hwq ?_
 apply Exists.intro
 refine ⟨⟨by rfl, fun wy hw => ?_⟩, ?_⟩
 · (have bw := hw.below; go_simp; try (first | (with_reducible rfl) | (with_reducible exact ⟨rfl, rfl⟩)))
 try simp only [Act.put]
 refine wpAnyK_ex (i := 2) rfl (by kernel_rfl) (listed' := #[true, true, true, false, false, false, false, false, false, false, false, false, false, false, false, false]) rfl (fun _ _ _ _ _ h => h) hwq ?_
 apply Exists.intro
 refine ⟨⟨by rfl, fun wy hw => ?_⟩, ?_⟩
 · (have bw := hw.below; go_simp; try (first | (with_reducible rfl) | (with_reducible exact ⟨rfl, rfl⟩)))
 try simp only [Act.put]
 refine wpAnyK_ex (i := 3) rfl (by kernel_rfl) (listed' := #[true, true, true, true, false, false, false, false, false, false, false, false, false, false, false, false]) rfl (fun _ _ _ _ _ h => h) hwq ?_
 apply Exists.intro
 refine ⟨⟨by rfl, fun wy hw => ?_⟩, ?_⟩
 · (have bw := hw.below; go_simp; try (first | (with_reducible rfl) | (with_reducible exact ⟨rfl, rfl⟩)))
 try simp only [Act.put]
 refine wpAnyK_ex (i := 4) rfl (by kernel_rfl) (listed' := #[true, true, true, true, true, false, false, false, false, false, false, false, false, false, false, false]) rfl (fun _ _ _ _ _ h => h) hwq ?_
 apply Exists.intro
 refine ⟨⟨by rfl, fun wy hw => ?_⟩, ?_⟩
 · (have bw := hw.below; have f7 := (show wy.cell? ⟨B, 7, none⟩ = some (.slice ado s.out.length co) from (HM3.out.cells.below bw 7 (show 7 < 19 by decide)).1); go_simp; try (first | (with_reducible rfl) | (with_reducible exact ⟨rfl, rfl⟩)))
 try simp only [Act.put]
 refine wpAnyK_ex (i := 5) rfl (by kernel_rfl) (listed' := #[true, true, true, true, true, true, false, false, false, false, false, false, false, false, false, false]) rfl (fun _ _ _ _ _ h => h) hwq ?_
 apply Exists.intro
 refine ⟨⟨by rfl, fun wy hw => ?_⟩, ?_⟩
 · (have bw := hw.below; obtain ⟨e0, e1, e2, e3, e4, e5, e6, e7, e8, e9, e10, e11⟩ := CellsAt.ev (KE3.out.up bw hz3); go_simp; try (first | (with_reducible rfl) | (with_reducible exact ⟨rfl, rfl⟩)))
 try simp only [Act.put]
 refine wpAnyK_ex (i := 6) rfl (by kernel_rfl) (listed' := #[true, true, true, true, true, true, true, false, false, false, false, false, false, false, false, false]) rfl (fun _ _ _ _ _ h => h) hwq ?_
 apply Exists.intro
 refine ⟨⟨by rfl, fun wy hw => ?_⟩, ?_⟩
 · (have bw := hw.below; go_simp; try (first | (with_reducible rfl) | (with_reducible exact ⟨rfl, rfl⟩)))
 try simp only [Act.put]
 refine wpAnyK_ex (i := 7) rfl (by kernel_rfl) (listed' := #[true, true, true, true, true, true, true, true, false, false, false, false, false, false, false, false]) rfl (fun _ _ _ _ _ h => h) hwq ?_
 apply Exists.intro
 refine ⟨⟨by rfl, fun wy hw => ?_⟩, ?_⟩
 · (have bw := hw.below; go_simp; try (first | (with_reducible rfl) | (with_reducible exact ⟨rfl, rfl⟩)))
 try simp only [Act.put]
 refine wpAnyK_ex (i := 8) rfl (by kernel_rfl) (listed' := #[true, true, true, true, true, true, true, true, true, false, false, false, false, false, false, false]) rfl (fun _ _ _ _ _ h => h) hwq ?_
 apply Exists.intro
 refine ⟨⟨by rfl, fun wy hw => ?_⟩, ?_⟩
 · (have bw := hw.below; go_simp; try (first | (with_reducible rfl) | (with_reducible exact ⟨rfl, rfl⟩)))
 try simp only [Act.put]
 refine wpAnyK_ex (i := 9) rfl (by kernel_rfl) (listed' := #[true, true, true, true, true, true, true, true, true, true, false, false, false, false, false, false]) rfl (fun _ _ _ _ _ h => h) hwq ?_
 apply Exists.intro
 refine ⟨⟨by rfl, fun wy hw => ?_⟩, ?_⟩
 · (have bw := hw.below; have f6 := (show wy.cell? ⟨B, 6, none⟩ = some (.int .i64 s.now) from (HM3.out.cells.below bw 6 (show 6 < 19 by decide)).1); go_simp; try (first | (with_reducible rfl) | (with_reducible exact ⟨rfl, rfl⟩)))
 try simp only [Act.put]
 refine wpAnyK_ex (i := 10) rfl (by kernel_rfl) (listed' := #[true, true, true, true, true, true, true, true, true, true, true, false, false, false, false, false]) rfl (fun _ _ _ _ _ h => h) hwq ?_
 apply Exists.intro
 refine ⟨⟨by rfl, fun wy hw => ?_⟩, ?_⟩
 · (have bw := hw.below; go_simp; try (first | (with_reducible rfl) | (with_reducible exact ⟨rfl, rfl⟩)))
 try simp only [Act.put]
 refine wpAnyK_fork1 11 (by kernel_rfl) ?_
 refine wpOpK_step rfl (by kernel_rfl) (listed' := #[true, true, true, true, true, true, true, true, true, true, true, true, false, false, false, false]) rfl (by rfl) (fun K hK => ?_)
 go_simp
 refine hK _ _ (g7) ?_
 clear hK K
 try simp only [Act.put]
 refine wpAnyK_end (by kernel_rfl) ?_
 try simp only [pickOps, List.filterMap_cons, List.filterMap_nil, List.getElem?_toArray, List.getElem?_cons_succ, List.getElem?_cons_zero]
 clear V7 hwq g7
 refine walk_push8 KH (w0 := w7) rfl _ _ rfl base (.slice ado s.out.length co) s.out (⟨E', s.now⟩ : Hp) rfl HM7.out.ro (Below.refl _ _) (by have := HM7.out.hb; have := HM7.out.lt; omega) wq.heap.size 1 rfl K7.out HOL.out ?_
 intro v8 w8 ho8 hb8 hg8 hk8
 obtain ⟨ad8, cp8, e8, _⟩ := ho8.form
 generalize (s.out ++ [(⟨E', s.now⟩ : Hp)]).length = L8 at e8
 subst e8
 have HM8 := Lib.hid (HM7.out.push_out ho8 hg8 hk8)
 have kc := cells_grown8 HM7.out.cells hg8 (fun e => HM7.out.ap.ne 0 1 B rfl (by decide) rfl e.symm)
 have HB8 := Lib.hid (show Below base w w8 from (HB7.out.mono (by have := HM7.out.hb; omega)).trans hb8)
 have k71 : w8.cell? ⟨B, 7, none⟩ = some (.slice ado s.out.length co) := (kc 7 (show 7 < 19 by decide)).1
 have k72 := (kc 7 (show 7 < 19 by decide)).2
 have k61 : w8.cell? ⟨B, 6, none⟩ = some (.int .i64 s.now) := (kc 6 (show 6 < 19 by decide)).1
 have k62 := (kc 6 (show 6 < 19 by decide)).2
 clear ho8 hb8 hg8 hk8 kc
 go_wp2_with fail
 refine NoPanic.normal ?_
 go_wp2_with fail
 go_end0
 refine ⟨rfl, ?_, (HB8.out.setCell HM.out.hb _).setCell HM.out.hb _⟩
 rw [HE.out]
 exact ⟨_, _, _, _, _, HM8.out.put 6 _ { s with out := s.out ++ [⟨E', s.now⟩], now := s.now + 1 } rfl rfl rfl rfl rfl rfl⟩
end Go.Proofs.YtamefmojocegkaaDoor

namespace Go.Proofs.YtamefmojocegkaaDoor
open Go Go.Proofs Go.RowKit Go.Lib
def Mk.few (s : Mk) : Prop := s.ags.length ≤ 10 ∧ s.pars.length ≤ 10 ∧ s.opn.length ≤ 10 ∧ s.hol.length ≤ 10
def rowsM (s : Mk) (parent agent : Int) : Mk := { s with ags := s.ags ++ [agent], pars := s.pars ++ [parent], opn := s.opn ++ [true], hol := s.hol ++ [-1] }
def begM (ns : Nat) (s : Mk) (parent agent n person : Int) : Mk := addM (rowsM s parent agent) s.ags.length ⟨0, 0, 0, 1, 0, 0, parent, 0, pick8 n ns, pick8 (n.tdiv 7) 3, person, 0⟩
theorem beginR_any (base B : Nat) (F : Fv) (s : Mk) (parent agent n person : Int) (hns : 1 ≤ F.n2) (hns2 : F.n2 ≤ 1000) (h0 : -9223372036854775808 ≤ n) (h1 : n ≤ 9223372036854775807) (hsm : s.small) (hfw : s.few) (w : World) (h : MkAt w base B F s) :
 Calls Tryd.prog 59 #[.pointer (some ⟨B, 0, none⟩), .int .i64 parent, .int .i64 agent, .int .i64 n, .int .i64 person] w (Done w base B F (begM F.n2 s parent agent n person)) := by
 obtain ⟨vo, va, vp, vq, vh, hm⟩ := h
 obtain ⟨l1, l2, l3, l4⟩ := hfw
 have HM := Lib.hid hm
 have hbw : base < w.heap.size := Nat.lt_of_le_of_lt hm.hb hm.lt
 obtain ⟨ada, cpa, eva, _⟩ := hm.ra.form
 obtain ⟨adp, cpp, evp, _⟩ := hm.rp.form
 obtain ⟨adq, cpq, evq, _⟩ := hm.rq.form
 obtain ⟨adh, cph, evh, _⟩ := hm.rh.form
 subst eva evp evq evh
 have HPK := Lib.hid (fun W => (pickR8_any n (F.n2 : Nat) h0 h1 (by omega) (by omega) W).mono fun e w2 h => And.intro h.1 h.2.symm)
 have t7 := tdiv8 h0 h1 7 (by decide)
 have hw7 : IntKind.i64.wrap (n.tdiv 7) = n.tdiv 7 := wrapq8 (by omega)
 have HP7 := Lib.hid (fun W => (pickR8_any (n.tdiv 7) 3 (by omega) (by omega) (by decide) (by decide) W).mono fun e w2 h => And.intro h.1 h.2.symm)
 have HBE := Lib.hid (show begM F.n2 s parent agent n person = addM (rowsM s parent agent) s.ags.length ⟨0, 0, 0, 1, 0, 0, parent, 0, pick8 n F.n2, pick8 (n.tdiv 7) 3, person, 0⟩ from rfl)
 have hwl : IntKind.i64.wrap ((s.ags.length : Nat) : Int) = ((s.ags.length : Nat) : Int) := wrapq8 (by omega)
 have HCA := Lib.hid (fun W hW => addR_any base B F (rowsM s parent agent) s.ags.length ⟨0, 0, 0, 1, 0, 0, parent, 0, pick8 n F.n2, pick8 (n.tdiv 7) 3, person, 0⟩ (by unfold rowsM; simp) hsm W hW)
 have HL1 := Lib.hid (show s.ags.length + 1 ≤ 100000000 by omega); have HL2 := Lib.hid (show s.pars.length + 1 ≤ 100000000 by omega); have HL3 := Lib.hid (show s.opn.length + 1 ≤ 100000000 by omega); have HL4 := Lib.hid (show s.hol.length + 1 ≤ 100000000 by omega)
 generalize pick8 n (F.n2 : Nat) = P1 at *
 generalize pick8 (n.tdiv 7) 3 = P2 at *
 have HBW0 := Lib.hid (Nat.le_refl w.heap.size)
 have HDm := Lib.hid (Below.refl base w)
 clear hm t7 l1 l2 l3 l4 h0 h1 hns hns2
 obtain ⟨w1, V1, Z1, K1, B1⟩ := lay8 w [.int .i64 agent] 3
 go_enter Tryd.func59, Tryd.ntmps59
 have K0a := Lib.hid K1; have B0a := Lib.hid B1
 clear K1 B1 Z1
 have HM0a := Lib.hid (HM.out.up B0a.out (Nat.le_refl _))
 have f0 : w.cell? ⟨B, 8, none⟩ = some (.slice ada s.ags.length cpa) := (HM.out.cells 8 (show 8 < 19 by decide)).1
 have f0a : w1.cell? ⟨B, 8, none⟩ = some (.slice ada s.ags.length cpa) := (HM0a.out.cells 8 (show 8 < 19 by decide)).1
 go_upto_region 1 with (first | (at_builtin; refine walk_push8 KI (w0 := w1) rfl _ _ rfl base (.slice ada s.ags.length cpa) s.ags agent rfl HM0a.out.ra (Below.refl _ _) (Nat.le_trans (Nat.le_of_lt hbw) (Nat.le_trans HBW0.out B0a.out.size)) w.heap.size 1 rfl K0a.out HL1.out ?_; intro v8 w8 ho8 hb8 hg8 hk8; obtain ⟨ad0, cp0, e8, _⟩ := ho8.form; rw [show (s.ags ++ [agent]).length = s.ags.length + 1 by simp] at e8; subst e8; have HM0b := Lib.hid (HM0a.out.push_ags ho8 hg8 hk8); have kc := cells_grown8 HM0a.out.cells hg8 (fun e => HM0a.out.ap.ne 0 2 B rfl (by decide) rfl e.symm); have k1 : w8.cell? ⟨B, 8, none⟩ = some (.slice ada s.ags.length cpa) := (kc 8 (show 8 < 19 by decide)).1; have k2 := (kc 8 (show 8 < 19 by decide)).2; have HB0b := Lib.hid hb8; have HG0b := Lib.hid hg8.size; clear ho8 hb8 hg8 hk8 kc))
 obtain ⟨w0n, hwn⟩ : ∃ wn, wn = w8.setCell ⟨B, 8, none⟩ (.slice ad0 (s.ags.length + 1) cp0) := ⟨_, rfl⟩
 rw [← hwn]
 have HM0n := Lib.hid (show MkP w0n base B F _ _ _ _ _ _ from by rw [hwn]; exact HM0b.out)
 have HD0 := Lib.hid (show Below base w w0n by rw [hwn]; exact ((HDm.out.trans (B0a.out.mono (Nat.le_trans (Nat.le_of_lt hbw) HBW0.out))).trans HB0b.out).setCell HM.out.hb _)
 have HBW1 := Lib.hid (show w.heap.size ≤ w0n.heap.size by rw [hwn]; have := HBW0.out; have := B0a.out.size; have := HG0b.out; simp; omega)
 clear hwn f0 f0a V1 k1 k2 HM0b HB0b HG0b HM0a B0a K0a
 obtain ⟨w1a, V1, Z1, K1, B1⟩ := lay8 w0n [.int .i64 parent] 3
 have K1a := Lib.hid K1; have B1a := Lib.hid B1
 clear K1 B1 Z1
 have HM1a := Lib.hid (HM0n.out.up B1a.out (Nat.le_refl _))
 have f1 : w0n.cell? ⟨B, 9, none⟩ = some (.slice adp s.pars.length cpp) := (HM0n.out.cells 9 (show 9 < 19 by decide)).1
 have f1a : w1a.cell? ⟨B, 9, none⟩ = some (.slice adp s.pars.length cpp) := (HM1a.out.cells 9 (show 9 < 19 by decide)).1
 go_upto_region 2 with (first | (at_builtin; refine walk_push8 KI (w0 := w1a) rfl _ _ rfl base (.slice adp s.pars.length cpp) s.pars parent rfl HM1a.out.rp (Below.refl _ _) (Nat.le_trans (Nat.le_of_lt hbw) (Nat.le_trans HBW1.out B1a.out.size)) w0n.heap.size 1 rfl K1a.out HL2.out ?_; intro v8 w8 ho8 hb8 hg8 hk8; obtain ⟨ad1, cp1, e8, _⟩ := ho8.form; rw [show (s.pars ++ [parent]).length = s.pars.length + 1 by simp] at e8; subst e8; have HM1b := Lib.hid (HM1a.out.push_pars ho8 hg8 hk8); have kc := cells_grown8 HM1a.out.cells hg8 (fun e => HM1a.out.ap.ne 0 3 B rfl (by decide) rfl e.symm); have k1 : w8.cell? ⟨B, 9, none⟩ = some (.slice adp s.pars.length cpp) := (kc 9 (show 9 < 19 by decide)).1; have k2 := (kc 9 (show 9 < 19 by decide)).2; have HB1b := Lib.hid hb8; have HG1b := Lib.hid hg8.size; clear ho8 hb8 hg8 hk8 kc))
 obtain ⟨w1n, hwn⟩ : ∃ wn, wn = w8.setCell ⟨B, 9, none⟩ (.slice ad1 (s.pars.length + 1) cp1) := ⟨_, rfl⟩
 rw [← hwn]
 have HM1n := Lib.hid (show MkP w1n base B F _ _ _ _ _ _ from by rw [hwn]; exact HM1b.out)
 have HD1 := Lib.hid (show Below base w w1n by rw [hwn]; exact ((HD0.out.trans (B1a.out.mono (Nat.le_trans (Nat.le_of_lt hbw) HBW1.out))).trans HB1b.out).setCell HM.out.hb _)
 have HBW2 := Lib.hid (show w.heap.size ≤ w1n.heap.size by rw [hwn]; have := HBW1.out; have := B1a.out.size; have := HG1b.out; simp; omega)
 clear hwn f1 f1a V1 k1 k2 HM1b HB1b HG1b HM1a B1a K1a HM0n HD0 HBW1
 obtain ⟨w2a, V2, Z2, K2, B2⟩ := lay8 w1n [.bool true] 4
 have K2a := Lib.hid K2; have B2a := Lib.hid B2
 clear K2 B2 Z2
 have HM2a := Lib.hid (HM1n.out.up B2a.out (Nat.le_refl _))
 have f2 : w1n.cell? ⟨B, 10, none⟩ = some (.slice adq s.opn.length cpq) := (HM1n.out.cells 10 (show 10 < 19 by decide)).1
 have f2a : w2a.cell? ⟨B, 10, none⟩ = some (.slice adq s.opn.length cpq) := (HM2a.out.cells 10 (show 10 < 19 by decide)).1
 go_upto_region 3 with (first | (at_builtin; refine walk_push8 KB (w0 := w2a) rfl _ _ rfl base (.slice adq s.opn.length cpq) s.opn true rfl HM2a.out.rq (Below.refl _ _) (Nat.le_trans (Nat.le_of_lt hbw) (Nat.le_trans HBW2.out B2a.out.size)) w1n.heap.size 1 rfl K2a.out HL3.out ?_; intro v8 w8 ho8 hb8 hg8 hk8; obtain ⟨ad2, cp2, e8, _⟩ := ho8.form; rw [show (s.opn ++ [true]).length = s.opn.length + 1 by simp] at e8; subst e8; have HM2b := Lib.hid (HM2a.out.push_opn ho8 hg8 hk8); have kc := cells_grown8 HM2a.out.cells hg8 (fun e => HM2a.out.ap.ne 0 4 B rfl (by decide) rfl e.symm); have k1 : w8.cell? ⟨B, 10, none⟩ = some (.slice adq s.opn.length cpq) := (kc 10 (show 10 < 19 by decide)).1; have k2 := (kc 10 (show 10 < 19 by decide)).2; have HB2b := Lib.hid hb8; have HG2b := Lib.hid hg8.size; clear ho8 hb8 hg8 hk8 kc))
 obtain ⟨w2n, hwn⟩ : ∃ wn, wn = w8.setCell ⟨B, 10, none⟩ (.slice ad2 (s.opn.length + 1) cp2) := ⟨_, rfl⟩
 rw [← hwn]
 have HM2n := Lib.hid (show MkP w2n base B F _ _ _ _ _ _ from by rw [hwn]; exact HM2b.out)
 have HD2 := Lib.hid (show Below base w w2n by rw [hwn]; exact ((HD1.out.trans (B2a.out.mono (Nat.le_trans (Nat.le_of_lt hbw) HBW2.out))).trans HB2b.out).setCell HM.out.hb _)
 have HBW3 := Lib.hid (show w.heap.size ≤ w2n.heap.size by rw [hwn]; have := HBW2.out; have := B2a.out.size; have := HG2b.out; simp; omega)
 clear hwn f2 f2a V2 k1 k2 HM2b HB2b HG2b HM2a B2a K2a HM1n HD1 HBW2
 obtain ⟨w3a, V3, Z3, K3, B3⟩ := lay8 w2n [.int .i64 (-1)] 3
 have K3a := Lib.hid K3; have B3a := Lib.hid B3
 clear K3 B3 Z3
 have HM3a := Lib.hid (HM2n.out.up B3a.out (Nat.le_refl _))
 have f3 : w2n.cell? ⟨B, 11, none⟩ = some (.slice adh s.hol.length cph) := (HM2n.out.cells 11 (show 11 < 19 by decide)).1
 have f3a : w3a.cell? ⟨B, 11, none⟩ = some (.slice adh s.hol.length cph) := (HM3a.out.cells 11 (show 11 < 19 by decide)).1
 go_upto_region 4 with (first | (at_builtin; refine walk_push8 KI (w0 := w3a) rfl _ _ rfl base (.slice adh s.hol.length cph) s.hol (-1 : Int) rfl HM3a.out.rh (Below.refl _ _) (Nat.le_trans (Nat.le_of_lt hbw) (Nat.le_trans HBW3.out B3a.out.size)) w2n.heap.size 1 rfl K3a.out HL4.out ?_; intro v8 w8 ho8 hb8 hg8 hk8; obtain ⟨ad3, cp3, e8, _⟩ := ho8.form; rw [show (s.hol ++ [(-1 : Int)]).length = s.hol.length + 1 by simp] at e8; subst e8; have HM3b := Lib.hid (HM3a.out.push_hol ho8 hg8 hk8); have kc := cells_grown8 HM3a.out.cells hg8 (fun e => HM3a.out.ap.ne 0 5 B rfl (by decide) rfl e.symm); have k1 : w8.cell? ⟨B, 11, none⟩ = some (.slice adh s.hol.length cph) := (kc 11 (show 11 < 19 by decide)).1; have k2 := (kc 11 (show 11 < 19 by decide)).2; have HB3b := Lib.hid hb8; have HG3b := Lib.hid hg8.size; clear ho8 hb8 hg8 hk8 kc))
 obtain ⟨w3n, hwn⟩ : ∃ wn, wn = w8.setCell ⟨B, 11, none⟩ (.slice ad3 (s.hol.length + 1) cp3) := ⟨_, rfl⟩
 rw [← hwn]
 have HM3n := Lib.hid (show MkP w3n base B F _ _ _ _ _ _ from by rw [hwn]; exact HM3b.out)
 have HD3 := Lib.hid (show Below base w w3n by rw [hwn]; exact ((HD2.out.trans (B3a.out.mono (Nat.le_trans (Nat.le_of_lt hbw) HBW3.out))).trans HB3b.out).setCell HM.out.hb _)
 have HBW4 := Lib.hid (show w.heap.size ≤ w3n.heap.size by rw [hwn]; have := HBW3.out; have := B3a.out.size; have := HG3b.out; simp; omega)
 clear hwn f3 f3a V3 k1 k2 HM3b HB3b HG3b HM3a B3a K3a HM2n HD2 HBW3
 have HMX := Lib.hid (show MkP w3n base B F (rowsM s parent agent) _ _ _ _ _ from HM3n.out)
 have HAT := Lib.hid (show ∀ W, Below w3n.heap.size w3n W → MkAt W base B F (rowsM s parent agent) from fun W b => ⟨_, _, _, _, _, HMX.out.up b (Nat.le_refl _)⟩)
 clear HM3n
 refine wp_region_noPanic ?_
 refine wp_region_Kx (C := Grew w3n) [21] 21 #[false, false, false, false, false, false, false, false, false, false, false, false, false, false, false, false, false, false, false, false, false, false] (by kernel_rfl) (by kernel_rfl) (by kernel_rfl) (grew0 _) ?_
 intro wx hwx
 refine wpAnyK_ex (i := 0) rfl (by kernel_rfl) (listed' := #[true, false, false, false, false, false, false, false, false, false, false, false, false, false, false, false, false, false, false, false, false, false]) rfl (fun _ _ _ _ _ h => h) hwx ?_
 apply Exists.intro
 refine ⟨⟨by rfl, fun wy hw => ?_⟩, ?_⟩
 · (have bw := hw.below; go_simp; try (first | (with_reducible rfl) | (with_reducible exact ⟨rfl, rfl⟩)))
 try simp only [Act.put]
 refine wpAnyK_ex (i := 1) rfl (by kernel_rfl) (listed' := #[true, true, false, false, false, false, false, false, false, false, false, false, false, false, false, false, false, false, false, false, false, false]) rfl (fun _ _ _ _ _ h => h) hwx ?_
 apply Exists.intro
 refine ⟨⟨by rfl, fun wy hw => ?_⟩, ?_⟩
 · (have bw := hw.below; go_simp; try (first | (with_reducible rfl) | (with_reducible exact ⟨rfl, rfl⟩)))
 try simp only [Act.put]
 refine wpAnyK_ex (i := 2) rfl (by kernel_rfl) (listed' := #[true, true, true, false, false, false, false, false, false, false, false, false, false, false, false, false, false, false, false, false, false, false]) rfl (fun _ _ _ _ _ h => h) hwx ?_
 apply Exists.intro
 refine ⟨⟨by rfl, fun wy hw => ?_⟩, ?_⟩
 · (have bw := hw.below; go_simp; try (first | (with_reducible rfl) | (with_reducible exact ⟨rfl, rfl⟩)))
 try simp only [Act.put]
 refine wpAnyK_ex (i := 3) rfl (by kernel_rfl) (listed' := #[true, true, true, true, false, false, false, false, false, false, false, false, false, false, false, false, false, false, false, false, false, false]) rfl (fun _ _ _ _ _ h => h) hwx ?_
 apply Exists.intro
 refine ⟨⟨by rfl, fun wy hw => ?_⟩, ?_⟩
 · (have bw := hw.below; go_simp; try (first | (with_reducible rfl) | (with_reducible exact ⟨rfl, rfl⟩)))
 try simp only [Act.put]
 refine wpAnyK_ex (i := 4) rfl (by kernel_rfl) (listed' := #[true, true, true, true, true, false, false, false, false, false, false, false, false, false, false, false, false, false, false, false, false, false]) rfl (fun _ _ _ _ _ h => h) hwx ?_
 apply Exists.intro
 refine ⟨⟨by rfl, fun wy hw => ?_⟩, ?_⟩
 · (have bw := hw.below; have fx := (show wy.cell? ⟨B, 8, none⟩ = some (.slice ad0 (s.ags.length + 1) cp0) from (HMX.out.cells.below bw 8 (show 8 < 19 by decide)).1); go_simp; try (first | (with_reducible rfl) | (with_reducible exact ⟨rfl, rfl⟩)))
 try simp only [Act.put]
 refine wpAnyK_ex (i := 5) rfl (by kernel_rfl) (listed' := #[true, true, true, true, true, true, false, false, false, false, false, false, false, false, false, false, false, false, false, false, false, false]) rfl (fun _ _ _ _ _ h => h) hwx ?_
 apply Exists.intro
 refine ⟨⟨by rfl, fun wy hw => ?_⟩, ?_⟩
 · (have bw := hw.below; go_simp; try (first | (with_reducible rfl) | (with_reducible exact ⟨rfl, rfl⟩)))
 try simp only [Act.put]
 refine wpAnyK_ex (i := 6) rfl (by kernel_rfl) (listed' := #[true, true, true, true, true, true, true, false, false, false, false, false, false, false, false, false, false, false, false, false, false, false]) rfl (fun _ _ _ _ _ h => h) hwx ?_
 apply Exists.intro
 refine ⟨⟨by rfl, fun wy hw => ?_⟩, ?_⟩
 · (have bw := hw.below; go_simp; try (first | (with_reducible rfl) | (with_reducible exact ⟨rfl, rfl⟩)))
 try simp only [Act.put]
 refine wpAnyK_ex (i := 7) rfl (by kernel_rfl) (listed' := #[true, true, true, true, true, true, true, true, false, false, false, false, false, false, false, false, false, false, false, false, false, false]) rfl (fun _ _ _ _ _ h => h) hwx ?_
 apply Exists.intro
 refine ⟨⟨by rfl, fun wy hw => ?_⟩, ?_⟩
 · (have bw := hw.below; go_simp; try (first | (with_reducible rfl) | (with_reducible exact ⟨rfl, rfl⟩)))
 try simp only [Act.put]
 refine wpAnyK_ex (i := 8) rfl (by kernel_rfl) (listed' := #[true, true, true, true, true, true, true, true, true, false, false, false, false, false, false, false, false, false, false, false, false, false]) rfl (fun _ _ _ _ _ h => h) hwx ?_
 apply Exists.intro
 refine ⟨⟨by rfl, fun wy hw => ?_⟩, ?_⟩
 · (have bw := hw.below; go_simp; try (first | (with_reducible rfl) | (with_reducible exact ⟨rfl, rfl⟩)))
 try simp only [Act.put]
 refine wpAnyK_ex (i := 9) rfl (by kernel_rfl) (listed' := #[true, true, true, true, true, true, true, true, true, true, false, false, false, false, false, false, false, false, false, false, false, false]) rfl (fun _ _ _ _ _ h => h) hwx ?_
 apply Exists.intro
 refine ⟨⟨by rfl, fun wy hw => ?_⟩, ?_⟩
 · (have bw := hw.below; go_simp; try (first | (with_reducible rfl) | (with_reducible exact ⟨rfl, rfl⟩)))
 try simp only [Act.put]
 refine wpAnyK_ex (i := 10) rfl (by kernel_rfl) (listed' := #[true, true, true, true, true, true, true, true, true, true, true, false, false, false, false, false, false, false, false, false, false, false]) rfl (fun _ _ _ _ _ h => h) hwx ?_
 apply Exists.intro
 refine ⟨⟨by rfl, fun wy hw => ?_⟩, ?_⟩
 · (have bw := hw.below; go_simp; try (first | (with_reducible rfl) | (with_reducible exact ⟨rfl, rfl⟩)))
 try simp only [Act.put]
 refine wpAnyK_ex (i := 11) rfl (by kernel_rfl) (listed' := #[true, true, true, true, true, true, true, true, true, true, true, true, false, false, false, false, false, false, false, false, false, false]) rfl (fun _ _ _ _ _ h => h) hwx ?_
 apply Exists.intro
 refine ⟨⟨by rfl, fun wy hw => ?_⟩, ?_⟩
 · (have bw := hw.below; go_simp; try (first | (with_reducible rfl) | (with_reducible exact ⟨rfl, rfl⟩)))
 try simp only [Act.put]
 refine wpAnyK_ex (i := 12) rfl (by kernel_rfl) (listed' := #[true, true, true, true, true, true, true, true, true, true, true, true, true, false, false, false, false, false, false, false, false, false]) rfl (fun _ _ _ _ _ h => h) hwx ?_
 apply Exists.intro
 refine ⟨⟨by rfl, fun wy hw => ?_⟩, ?_⟩
 · (have bw := hw.below; go_simp; try (first | (with_reducible rfl) | (with_reducible exact ⟨rfl, rfl⟩)))
 try simp only [Act.put]
 refine wpAnyK_ex (i := 13) rfl (by kernel_rfl) (listed' := #[true, true, true, true, true, true, true, true, true, true, true, true, true, true, false, false, false, false, false, false, false, false]) rfl (fun _ _ _ _ _ h => h) hwx ?_
 apply Exists.intro
 refine ⟨⟨by rfl, fun wy hw => ?_⟩, ?_⟩
 · (have bw := hw.below; have fx := (show wy.cell? ⟨B, 3, none⟩ = some (.slice F.a2 F.n2 F.c2) from (HMX.out.cells.below bw 3 (show 3 < 19 by decide)).1); go_simp; try (first | (with_reducible rfl) | (with_reducible exact ⟨rfl, rfl⟩)))
 try simp only [Act.put]
 refine wpAnyK_ex (i := 14) rfl (by kernel_rfl) (listed' := #[true, true, true, true, true, true, true, true, true, true, true, true, true, true, true, false, false, false, false, false, false, false]) rfl (fun _ _ _ _ _ h => h) hwx ?_
 apply Exists.intro
 refine ⟨⟨by rfl, fun wy hw => ?_⟩, ?_⟩
 · (have bw := hw.below; go_simp; try (first | (with_reducible rfl) | (with_reducible exact ⟨rfl, rfl⟩)))
 try simp only [Act.put]
 refine wpAnyK_callx (i := 15) rfl (by kernel_rfl) (listed' := #[true, true, true, true, true, true, true, true, true, true, true, true, true, true, true, true, false, false, false, false, false, false]) rfl (fun _ _ _ _ _ h => h) hwx ?_
 apply Exists.intro
 apply Exists.intro
 apply Exists.intro
 refine ⟨⟨by rfl, fun wy hw => ?_, fun wy hw => ?_⟩, ?_⟩
 · (have bw := hw.below; go_simp; try (first | (with_reducible rfl) | (with_reducible exact ⟨rfl, rfl⟩)))
 · (exact HPK.out _)
 try simp only [Act.put]
 refine wpAnyK_ex (i := 16) rfl (by kernel_rfl) (listed' := #[true, true, true, true, true, true, true, true, true, true, true, true, true, true, true, true, true, false, false, false, false, false]) rfl (fun _ _ _ _ _ h => h) hwx ?_
 apply Exists.intro
 refine ⟨⟨by rfl, fun wy hw => ?_⟩, ?_⟩
 · (have bw := hw.below; go_simp; try (first | (with_reducible rfl) | (with_reducible exact ⟨rfl, rfl⟩)))
 try simp only [Act.put]
 refine wpAnyK_ex (i := 17) rfl (by kernel_rfl) (listed' := #[true, true, true, true, true, true, true, true, true, true, true, true, true, true, true, true, true, true, false, false, false, false]) rfl (fun _ _ _ _ _ h => h) hwx ?_
 apply Exists.intro
 refine ⟨⟨by rfl, fun wy hw => ?_⟩, ?_⟩
 · (have bw := hw.below; go_simp; try (first | (with_reducible rfl) | (with_reducible exact ⟨rfl, rfl⟩)))
 try simp only [Act.put]
 refine wpAnyK_callx (i := 18) rfl (by kernel_rfl) (listed' := #[true, true, true, true, true, true, true, true, true, true, true, true, true, true, true, true, true, true, true, false, false, false]) rfl (fun _ _ _ _ _ h => h) hwx ?_
 apply Exists.intro
 apply Exists.intro
 apply Exists.intro
 refine ⟨⟨by rfl, fun wy hw => ?_, fun wy hw => ?_⟩, ?_⟩
 · (have bw := hw.below; go_simp; try (first | (with_reducible rfl) | (with_reducible exact ⟨rfl, rfl⟩)))
 · (exact HP7.out _)
 try simp only [Act.put]
 refine wpAnyK_ex (i := 19) rfl (by kernel_rfl) (listed' := #[true, true, true, true, true, true, true, true, true, true, true, true, true, true, true, true, true, true, true, true, false, false]) rfl (fun _ _ _ _ _ h => h) hwx ?_
 apply Exists.intro
 refine ⟨⟨by rfl, fun wy hw => ?_⟩, ?_⟩
 · (have bw := hw.below; go_simp; try (first | (with_reducible rfl) | (with_reducible exact ⟨rfl, rfl⟩)))
 try simp only [Act.put]
 refine wpAnyK_ex (i := 20) rfl (by kernel_rfl) (listed' := #[true, true, true, true, true, true, true, true, true, true, true, true, true, true, true, true, true, true, true, true, true, false]) rfl (fun _ _ _ _ _ h => h) hwx ?_
 apply Exists.intro
 refine ⟨⟨by rfl, fun wy hw => ?_⟩, ?_⟩
 · (have bw := hw.below; go_simp; try (first | (with_reducible rfl) | (with_reducible exact ⟨rfl, rfl⟩)))
 try simp only [Act.put]
 refine wpAnyK_end (by kernel_rfl) ?_
 try simp only [pickOps, List.filterMap_cons, List.filterMap_nil, List.getElem?_toArray, List.getElem?_cons_succ, List.getElem?_cons_zero]
 have HB4 := Lib.hid (show Below base w wx from HD3.out.trans (hwx.below.mono (Nat.le_trans (Nat.le_of_lt hbw) HBW4.out)))
 have HA4 := Lib.hid (HAT.out wx hwx.below)
 clear hwx
 go_wp2_with (go_at_call 60; refine (HCA.out _ HA4.out).mono ?_; rintro e z ⟨rfl, hz1, hz2⟩)
 have HZ := Lib.hid (And.intro hz1 (HB4.out.trans hz2))
 clear hz1 hz2
 refine NoPanic.normal ?_
 go_wp2_with fail
 go_end0
 exact ⟨rfl, by rw [HBE.out]; exact HZ.out.1, HZ.out.2⟩
end Go.Proofs.YtamefmojocegkaaDoor

namespace Go.Proofs.YtamefmojocegkaaDoor
open Go Go.Proofs Go.RowKit Go.Lib
def Mk.gr (s : Mk) (r : Int) : Int := if r = 0 then s.g0 else if r = 1 then s.g1 else s.g2
def Mk.bump (s : Mk) (r : Int) : Mk := if r = 0 then { s with g0 := s.g0 + 1, t0 := false } else if r = 1 then { s with g1 := s.g1 + 1, t1 := false } else { s with g2 := s.g2 + 1, t2 := false }
def relM (s : Mk) (i : Nat) : Mk :=
 if s.hol.getD i 0 < 0 then s
 else { ((addM s i ⟨0, 0, 0, 6, 0, 0, s.hol.getD i 0, s.gr (s.hol.getD i 0), 0, 0, 0, 0⟩).bump (s.hol.getD i 0)) with hol := s.hol.set i (-1) }
theorem releaseR_any (base B : Nat) (F : Fv) (s : Mk) (i : Nat) (hi : i < s.hol.length) (hi2 : i < s.ags.length) (hr : s.hol.getD i 0 < 3) (hsm : s.small) (w : World) (h : MkAt w base B F s) :
 Calls Tryd.prog 61 #[.pointer (some ⟨B, 0, none⟩), .int .i64 (i : Int)] w (Done w base B F (relM s i)) := by
 obtain ⟨vo, va, vp, vq, vh, hm⟩ := h
 have hsm2 := hsm
 obtain ⟨_, _, _, _, ⟨g00, g01⟩, ⟨g10, g11⟩, g20, g21⟩ := hsm2
 have HCA := Lib.hid (fun e W hW => addR_any base B F s i e hi2 hsm W hW)
 have hlt := hm.lt
 obtain ⟨gh, ch, rfl, _, hgh, hih, hch⟩ := hm.rh.int8 i hi
 have HM := Lib.hid hm
 have c11 : w.cell? ⟨B, 11, none⟩ = some (.slice (some ⟨gh, 0, none⟩) s.hol.length ch) := (hm.cells 11 (show 11 < 19 by decide)).1
 have c13 : w.cell? ⟨B, 13, none⟩ = some (.int .i64 s.g0) := (hm.cells 13 (show 13 < 19 by decide)).1
 have c14 : w.cell? ⟨B, 14, none⟩ = some (.int .i64 s.g1) := (hm.cells 14 (show 14 < 19 by decide)).1
 have c15 : w.cell? ⟨B, 15, none⟩ = some (.int .i64 s.g2) := (hm.cells 15 (show 15 < 19 by decide)).1
 obtain ⟨x1, _⟩ := hch w _ (Below.refl _ w) hgh
 have hww0 : IntKind.i64.wrap (s.g0 + 1) = s.g0 + 1 := wrapq8 (by omega)
 have hww1 : IntKind.i64.wrap (s.g1 + 1) = s.g1 + 1 := wrapq8 (by omega)
 have hww2 : IntKind.i64.wrap (s.g2 + 1) = s.g2 + 1 := wrapq8 (by omega)
 have HI := Lib.hid hi
 have HRL := Lib.hid (show relM s i = if s.hol.getD i 0 < 0 then s else { ((addM s i ⟨0, 0, 0, 6, 0, 0, s.hol.getD i 0, s.gr (s.hol.getD i 0), 0, 0, 0, 0⟩).bump (s.hol.getD i 0)) with hol := s.hol.set i (-1) } from rfl)
 generalize s.hol.getD i 0 = r at *
 clear hm hch hsm hi hi2 g00 g01 g10 g11 g20 g21
 go_enter Tryd.func61, Tryd.ntmps61
 by_cases h0 : r < 0
 · have HR := Lib.hid (show relM s i = s by rw [HRL.out, if_pos h0])
   go_wp2_with fail
   exact bodyPost_ret (results_none rfl _ _ _) rfl ⟨rfl, by rw [HR.out]; exact ⟨_, _, _, _, _, HM.out⟩, Below.refl _ _⟩
 · have h3 : r = 0 ∨ r = 1 ∨ r = 2 := by omega
   have HR := Lib.hid (show relM s i = { ((addM s i ⟨0, 0, 0, 6, 0, 0, r, s.gr r, 0, 0, 0, 0⟩).bump r) with hol := s.hol.set i (-1) } by rw [HRL.out, if_neg h0])
   clear HRL hr h0
   rcases h3 with rfl | rfl | rfl
   · skip
     have HC := Lib.hid (HCA.out (⟨0, 0, 0, 6, 0, 0, 0, s.g0, 0, 0, 0, 0⟩ : Ev))
     have HR2 := Lib.hid (show relM s i = { (addM s i ⟨0, 0, 0, 6, 0, 0, 0, s.g0, 0, 0, 0, 0⟩) with g0 := s.g0 + 1, t0 := false, hol := s.hol.set i (-1) } from HR.out)
     clear HR HCA
     go_wp2_with fail
     refine (HC.out _ ⟨_, _, _, _, _, HM.out⟩).mono ?_
     rintro e z ⟨rfl, hz1, hz2⟩
     obtain ⟨vo2, va2, vp2, vq2, vh2, hm2⟩ := hz1
     have HB2 := Lib.hid hz2
     obtain ⟨gh2, ch2, evh, _, hgh2, hih2, hch2⟩ := hm2.rh.int8 i HI.out
     subst evh
     have HM2 := Lib.hid hm2
     have d1 := (hch2 z _ (Below.refl _ z) hgh2)
     clear c11 c13 c14 c15 x1 hih hz2 hgh
     generalize HSS : addM s i ⟨0, 0, 0, 6, 0, 0, 0, s.g0, 0, 0, 0, 0⟩ = s1 at HM2 HR2
     have HE := Lib.hid (show s1.hol = s.hol ∧ s1.g0 = s.g0 from by rw [← HSS]; exact ⟨rfl, rfl⟩)
     clear HSS
     have HR3 := Lib.hid (show relM s i = { s1 with g0 := s1.g0 + 1, t0 := false, hol := s1.hol.set i (-1) } by rw [HR2.out, HE.out.1, HE.out.2])
     have hwx1 : IntKind.i64.wrap (s1.g0 + 1) = s1.g0 + 1 := by rw [HE.out.2]; exact hww0
     have hgb : ¬ gh2 = B := fun e => HM2.out.ap.ne 0 5 B rfl (by decide) rfl (by rw [e]; rfl)
     have hgb2 : ¬ B = gh2 := fun e => hgb e.symm
     have HBW := Lib.hid (show base ≤ B ∧ base ≤ gh2 ∧ B < z.heap.size from ⟨HM2.out.hb, (HM2.out.rh.ge gh2 rfl).1, HM2.out.lt⟩)
     have HL1 := Lib.hid (show i < s1.hol.length by rw [HE.out.1]; exact HI.out)
     clear HR2 HE
     go_upto_region 3 with fail
     refine wp_region_noPanic ?_
     refine wp_region_Kx (C := Grew z) [9, 10] 9 #[false, false, false, false, false, false, false, false, false, false, false] (by kernel_rfl) (by kernel_rfl) (by kernel_rfl) (grew0 _) ?_
     intro wx hwx
     have HBX := Lib.hid hwx.below
     have e1 : wx.cell? ⟨B, 13, none⟩ = some (.int .i64 s1.g0) := (HM2.out.cells.below HBX.out 13 (show 13 < 19 by decide)).1
     have e2 := (HM2.out.cells.below HBX.out 13 (show 13 < 19 by decide)).2
     refine wpAnyK_ex (i := 0) rfl (by kernel_rfl) (listed' := #[true, false, false, false, false, false, false, false, false, false, false]) rfl (fun _ _ _ _ _ h => h) hwx ?_
     apply Exists.intro
     refine ⟨⟨by rfl, fun wy hw => ?_⟩, ?_⟩
     · (have bw := hw.below; go_simp; try (first | (with_reducible rfl) | (with_reducible exact ⟨rfl, rfl⟩)))
     try simp only [Act.put]
     refine wpAnyK_ex (i := 1) rfl (by kernel_rfl) (listed' := #[true, true, false, false, false, false, false, false, false, false, false]) rfl (fun _ _ _ _ _ h => h) hwx ?_
     apply Exists.intro
     refine ⟨⟨by rfl, fun wy hw => ?_⟩, ?_⟩
     · (have bw := hw.below; go_simp; try (first | (with_reducible rfl) | (with_reducible exact ⟨rfl, rfl⟩)))
     try simp only [Act.put]
     refine wpAnyK_ex (i := 2) rfl (by kernel_rfl) (listed' := #[true, true, true, false, false, false, false, false, false, false, false]) rfl (fun _ _ _ _ _ h => h) hwx ?_
     apply Exists.intro
     refine ⟨⟨by rfl, fun wy hw => ?_⟩, ?_⟩
     · (have bw := hw.below; go_simp; try (first | (with_reducible rfl) | (with_reducible exact ⟨rfl, rfl⟩)))
     try simp only [Act.put]
     refine wpAnyK_ex (i := 3) rfl (by kernel_rfl) (listed' := #[true, true, true, true, false, false, false, false, false, false, false]) rfl (fun _ _ _ _ _ h => h) hwx ?_
     apply Exists.intro
     refine ⟨⟨by rfl, fun wy hw => ?_⟩, ?_⟩
     · (have bw := hw.below; go_simp; try (first | (with_reducible rfl) | (with_reducible exact ⟨rfl, rfl⟩)))
     try simp only [Act.put]
     refine wpAnyK_ex (i := 4) rfl (by kernel_rfl) (listed' := #[true, true, true, true, true, false, false, false, false, false, false]) rfl (fun _ _ _ _ _ h => h) hwx ?_
     apply Exists.intro
     refine ⟨⟨by rfl, fun wy hw => ?_⟩, ?_⟩
     · (have bw := hw.below; go_simp; try (first | (with_reducible rfl) | (with_reducible exact ⟨rfl, rfl⟩)))
     try simp only [Act.put]
     refine wpAnyK_ex (i := 5) rfl (by kernel_rfl) (listed' := #[true, true, true, true, true, true, false, false, false, false, false]) rfl (fun _ _ _ _ _ h => h) hwx ?_
     apply Exists.intro
     refine ⟨⟨by rfl, fun wy hw => ?_⟩, ?_⟩
     · (have bw := hw.below; have fx := (show wy.cell? ⟨B, 13, none⟩ = some (.int .i64 s1.g0) from (HM2.out.cells.below bw 13 (show 13 < 19 by decide)).1); go_simp; try (first | (with_reducible rfl) | (with_reducible exact ⟨rfl, rfl⟩)))
     try simp only [Act.put]
     refine wpAnyK_ex (i := 6) rfl (by kernel_rfl) (listed' := #[true, true, true, true, true, true, true, false, false, false, false]) rfl (fun _ _ _ _ _ h => h) hwx ?_
     apply Exists.intro
     refine ⟨⟨by rfl, fun wy hw => ?_⟩, ?_⟩
     · (have bw := hw.below; go_simp; try (first | (with_reducible rfl) | (with_reducible exact ⟨rfl, rfl⟩)))
     try simp only [Act.put]
     refine wpAnyK_ex (i := 7) rfl (by kernel_rfl) (listed' := #[true, true, true, true, true, true, true, true, false, false, false]) rfl (fun _ _ _ _ _ h => h) hwx ?_
     apply Exists.intro
     refine ⟨⟨by rfl, fun wy hw => ?_⟩, ?_⟩
     · (have bw := hw.below; go_simp; try (first | (with_reducible rfl) | (with_reducible exact ⟨rfl, rfl⟩)))
     try simp only [Act.put]
     refine wpAnyK_ex (i := 8) rfl (by kernel_rfl) (listed' := #[true, true, true, true, true, true, true, true, true, false, false]) rfl (fun _ _ _ _ _ h => h) hwx ?_
     apply Exists.intro
     refine ⟨⟨by rfl, fun wy hw => ?_⟩, ?_⟩
     · (have bw := hw.below; go_simp; try (first | (with_reducible rfl) | (with_reducible exact ⟨rfl, rfl⟩)))
     try simp only [Act.put]
     refine wpAnyK_end (by kernel_rfl) ?_
     try simp only [pickOps, List.filterMap_cons, List.filterMap_nil, List.getElem?_toArray, List.getElem?_cons_succ, List.getElem?_cons_zero]
     clear hwx
     go_wp2_with fail
     refine NoPanic.normal ?_
     go_upto_region 4 with fail
     obtain ⟨w4, hw4⟩ : ∃ w4, w4 = wx.setCell ⟨B, 13, none⟩ (.int .i64 (s1.g0 + 1)) := ⟨_, rfl⟩
     rw [← hw4]
     have HM4 := Lib.hid (show MkP w4 base B F { s1 with g0 := s1.g0 + 1 } _ _ _ _ _ by rw [hw4]; exact (HM2.out.up HBX.out (Nat.le_refl _)).put 13 _ { s1 with g0 := s1.g0 + 1 } rfl rfl rfl rfl rfl rfl)
     have HB4 := Lib.hid (show Below base w w4 by rw [hw4]; exact (HB2.out.trans (HBX.out.mono (by have := HBW.out; omega))).setCell HBW.out.1 _)
     clear hw4 e1 e2 HBX d1
     have e11 : w4.cell? ⟨B, 11, none⟩ = some (.slice (some ⟨gh2, 0, none⟩) s1.hol.length ch2) := (HM4.out.cells 11 (show 11 < 19 by decide)).1
     have e16 : w4.cell? ⟨B, 16, none⟩ = some (.bool s1.t0) := (HM4.out.cells 16 (show 16 < 19 by decide)).1
     have e17 := (HM4.out.cells 16 (show 16 < 19 by decide)).2
     have HI1 := Lib.hid (show i < s1.hol.length from by have := HL1.out; omega)
     have hx1 := HM4.out.rh.cell i HI1.out 0 (by decide)
     rw [show KI.n * i + 0 = i by show 1 * i + 0 = i; omega] at hx1
     obtain ⟨hx2, hx3⟩ := hx1
     have hx4 : w4.cell? ⟨gh2, i, none⟩ = some (.int .i64 (s1.hol.getD i 0)) := hx2.trans (by rw [List.getD_eq_getElem?_getD, List.getElem?_eq_getElem HI1.out]; rfl)
     clear hx2
     go_wp2_with fail
     go_end0
     refine ⟨rfl, ?_, (HB4.out.setCell HBW.out.1 _).setCell HBW.out.2.1 _⟩
     rw [HR3.out]
     exact ⟨_, _, _, _, _, (HM4.out.put 16 _ { s1 with g0 := s1.g0 + 1, t0 := false } rfl rfl rfl rfl rfl rfl).set_hol (x := -1) i HI1.out⟩
   · skip
     have HC := Lib.hid (HCA.out (⟨0, 0, 0, 6, 0, 0, 1, s.g1, 0, 0, 0, 0⟩ : Ev))
     have HR2 := Lib.hid (show relM s i = { (addM s i ⟨0, 0, 0, 6, 0, 0, 1, s.g1, 0, 0, 0, 0⟩) with g1 := s.g1 + 1, t1 := false, hol := s.hol.set i (-1) } from HR.out)
     clear HR HCA
     go_wp2_with fail
     refine (HC.out _ ⟨_, _, _, _, _, HM.out⟩).mono ?_
     rintro e z ⟨rfl, hz1, hz2⟩
     obtain ⟨vo2, va2, vp2, vq2, vh2, hm2⟩ := hz1
     have HB2 := Lib.hid hz2
     obtain ⟨gh2, ch2, evh, _, hgh2, hih2, hch2⟩ := hm2.rh.int8 i HI.out
     subst evh
     have HM2 := Lib.hid hm2
     have d1 := (hch2 z _ (Below.refl _ z) hgh2)
     clear c11 c13 c14 c15 x1 hih hz2 hgh
     generalize HSS : addM s i ⟨0, 0, 0, 6, 0, 0, 1, s.g1, 0, 0, 0, 0⟩ = s1 at HM2 HR2
     have HE := Lib.hid (show s1.hol = s.hol ∧ s1.g1 = s.g1 from by rw [← HSS]; exact ⟨rfl, rfl⟩)
     clear HSS
     have HR3 := Lib.hid (show relM s i = { s1 with g1 := s1.g1 + 1, t1 := false, hol := s1.hol.set i (-1) } by rw [HR2.out, HE.out.1, HE.out.2])
     have hwx1 : IntKind.i64.wrap (s1.g1 + 1) = s1.g1 + 1 := by rw [HE.out.2]; exact hww1
     have hgb : ¬ gh2 = B := fun e => HM2.out.ap.ne 0 5 B rfl (by decide) rfl (by rw [e]; rfl)
     have hgb2 : ¬ B = gh2 := fun e => hgb e.symm
     have HBW := Lib.hid (show base ≤ B ∧ base ≤ gh2 ∧ B < z.heap.size from ⟨HM2.out.hb, (HM2.out.rh.ge gh2 rfl).1, HM2.out.lt⟩)
     have HL1 := Lib.hid (show i < s1.hol.length by rw [HE.out.1]; exact HI.out)
     clear HR2 HE
     go_upto_region 3 with fail
     refine wp_region_noPanic ?_
     refine wp_region_Kx (C := Grew z) [9, 10] 9 #[false, false, false, false, false, false, false, false, false, false, false] (by kernel_rfl) (by kernel_rfl) (by kernel_rfl) (grew0 _) ?_
     intro wx hwx
     have HBX := Lib.hid hwx.below
     have e1 : wx.cell? ⟨B, 14, none⟩ = some (.int .i64 s1.g1) := (HM2.out.cells.below HBX.out 14 (show 14 < 19 by decide)).1
     have e2 := (HM2.out.cells.below HBX.out 14 (show 14 < 19 by decide)).2
     refine wpAnyK_ex (i := 0) rfl (by kernel_rfl) (listed' := #[true, false, false, false, false, false, false, false, false, false, false]) rfl (fun _ _ _ _ _ h => h) hwx ?_
     apply Exists.intro
     refine ⟨⟨by rfl, fun wy hw => ?_⟩, ?_⟩
     · (have bw := hw.below; go_simp; try (first | (with_reducible rfl) | (with_reducible exact ⟨rfl, rfl⟩)))
     try simp only [Act.put]
     refine wpAnyK_ex (i := 1) rfl (by kernel_rfl) (listed' := #[true, true, false, false, false, false, false, false, false, false, false]) rfl (fun _ _ _ _ _ h => h) hwx ?_
     apply Exists.intro
     refine ⟨⟨by rfl, fun wy hw => ?_⟩, ?_⟩
     · (have bw := hw.below; go_simp; try (first | (with_reducible rfl) | (with_reducible exact ⟨rfl, rfl⟩)))
     try simp only [Act.put]
     refine wpAnyK_ex (i := 2) rfl (by kernel_rfl) (listed' := #[true, true, true, false, false, false, false, false, false, false, false]) rfl (fun _ _ _ _ _ h => h) hwx ?_
     apply Exists.intro
     refine ⟨⟨by rfl, fun wy hw => ?_⟩, ?_⟩
     · (have bw := hw.below; go_simp; try (first | (with_reducible rfl) | (with_reducible exact ⟨rfl, rfl⟩)))
     try simp only [Act.put]
     refine wpAnyK_ex (i := 3) rfl (by kernel_rfl) (listed' := #[true, true, true, true, false, false, false, false, false, false, false]) rfl (fun _ _ _ _ _ h => h) hwx ?_
     apply Exists.intro
     refine ⟨⟨by rfl, fun wy hw => ?_⟩, ?_⟩
     · (have bw := hw.below; go_simp; try (first | (with_reducible rfl) | (with_reducible exact ⟨rfl, rfl⟩)))
     try simp only [Act.put]
     refine wpAnyK_ex (i := 4) rfl (by kernel_rfl) (listed' := #[true, true, true, true, true, false, false, false, false, false, false]) rfl (fun _ _ _ _ _ h => h) hwx ?_
     apply Exists.intro
     refine ⟨⟨by rfl, fun wy hw => ?_⟩, ?_⟩
     · (have bw := hw.below; go_simp; try (first | (with_reducible rfl) | (with_reducible exact ⟨rfl, rfl⟩)))
     try simp only [Act.put]
     refine wpAnyK_ex (i := 5) rfl (by kernel_rfl) (listed' := #[true, true, true, true, true, true, false, false, false, false, false]) rfl (fun _ _ _ _ _ h => h) hwx ?_
     apply Exists.intro
     refine ⟨⟨by rfl, fun wy hw => ?_⟩, ?_⟩
     · (have bw := hw.below; have fx := (show wy.cell? ⟨B, 14, none⟩ = some (.int .i64 s1.g1) from (HM2.out.cells.below bw 14 (show 14 < 19 by decide)).1); go_simp; try (first | (with_reducible rfl) | (with_reducible exact ⟨rfl, rfl⟩)))
     try simp only [Act.put]
     refine wpAnyK_ex (i := 6) rfl (by kernel_rfl) (listed' := #[true, true, true, true, true, true, true, false, false, false, false]) rfl (fun _ _ _ _ _ h => h) hwx ?_
     apply Exists.intro
     refine ⟨⟨by rfl, fun wy hw => ?_⟩, ?_⟩
     · (have bw := hw.below; go_simp; try (first | (with_reducible rfl) | (with_reducible exact ⟨rfl, rfl⟩)))
     try simp only [Act.put]
     refine wpAnyK_ex (i := 7) rfl (by kernel_rfl) (listed' := #[true, true, true, true, true, true, true, true, false, false, false]) rfl (fun _ _ _ _ _ h => h) hwx ?_
     apply Exists.intro
     refine ⟨⟨by rfl, fun wy hw => ?_⟩, ?_⟩
     · (have bw := hw.below; go_simp; try (first | (with_reducible rfl) | (with_reducible exact ⟨rfl, rfl⟩)))
     try simp only [Act.put]
     refine wpAnyK_ex (i := 8) rfl (by kernel_rfl) (listed' := #[true, true, true, true, true, true, true, true, true, false, false]) rfl (fun _ _ _ _ _ h => h) hwx ?_
     apply Exists.intro
     refine ⟨⟨by rfl, fun wy hw => ?_⟩, ?_⟩
     · (have bw := hw.below; go_simp; try (first | (with_reducible rfl) | (with_reducible exact ⟨rfl, rfl⟩)))
     try simp only [Act.put]
     refine wpAnyK_end (by kernel_rfl) ?_
     try simp only [pickOps, List.filterMap_cons, List.filterMap_nil, List.getElem?_toArray, List.getElem?_cons_succ, List.getElem?_cons_zero]
     clear hwx
     go_wp2_with fail
     refine NoPanic.normal ?_
     go_upto_region 4 with fail
     obtain ⟨w4, hw4⟩ : ∃ w4, w4 = wx.setCell ⟨B, 14, none⟩ (.int .i64 (s1.g1 + 1)) := ⟨_, rfl⟩
     rw [← hw4]
     have HM4 := Lib.hid (show MkP w4 base B F { s1 with g1 := s1.g1 + 1 } _ _ _ _ _ by rw [hw4]; exact (HM2.out.up HBX.out (Nat.le_refl _)).put 14 _ { s1 with g1 := s1.g1 + 1 } rfl rfl rfl rfl rfl rfl)
     have HB4 := Lib.hid (show Below base w w4 by rw [hw4]; exact (HB2.out.trans (HBX.out.mono (by have := HBW.out; omega))).setCell HBW.out.1 _)
     clear hw4 e1 e2 HBX d1
     have e11 : w4.cell? ⟨B, 11, none⟩ = some (.slice (some ⟨gh2, 0, none⟩) s1.hol.length ch2) := (HM4.out.cells 11 (show 11 < 19 by decide)).1
     have e16 : w4.cell? ⟨B, 17, none⟩ = some (.bool s1.t1) := (HM4.out.cells 17 (show 17 < 19 by decide)).1
     have e17 := (HM4.out.cells 17 (show 17 < 19 by decide)).2
     have HI1 := Lib.hid (show i < s1.hol.length from by have := HL1.out; omega)
     have hx1 := HM4.out.rh.cell i HI1.out 0 (by decide)
     rw [show KI.n * i + 0 = i by show 1 * i + 0 = i; omega] at hx1
     obtain ⟨hx2, hx3⟩ := hx1
     have hx4 : w4.cell? ⟨gh2, i, none⟩ = some (.int .i64 (s1.hol.getD i 0)) := hx2.trans (by rw [List.getD_eq_getElem?_getD, List.getElem?_eq_getElem HI1.out]; rfl)
     clear hx2
     go_wp2_with fail
     go_end0
     refine ⟨rfl, ?_, (HB4.out.setCell HBW.out.1 _).setCell HBW.out.2.1 _⟩
     rw [HR3.out]
     exact ⟨_, _, _, _, _, (HM4.out.put 17 _ { s1 with g1 := s1.g1 + 1, t1 := false } rfl rfl rfl rfl rfl rfl).set_hol (x := -1) i HI1.out⟩
   · skip
     have HC := Lib.hid (HCA.out (⟨0, 0, 0, 6, 0, 0, 2, s.g2, 0, 0, 0, 0⟩ : Ev))
     have HR2 := Lib.hid (show relM s i = { (addM s i ⟨0, 0, 0, 6, 0, 0, 2, s.g2, 0, 0, 0, 0⟩) with g2 := s.g2 + 1, t2 := false, hol := s.hol.set i (-1) } from HR.out)
     clear HR HCA
     go_wp2_with fail
     refine (HC.out _ ⟨_, _, _, _, _, HM.out⟩).mono ?_
     rintro e z ⟨rfl, hz1, hz2⟩
     obtain ⟨vo2, va2, vp2, vq2, vh2, hm2⟩ := hz1
     have HB2 := Lib.hid hz2
     obtain ⟨gh2, ch2, evh, _, hgh2, hih2, hch2⟩ := hm2.rh.int8 i HI.out
     subst evh
     have HM2 := Lib.hid hm2
     have d1 := (hch2 z _ (Below.refl _ z) hgh2)
     clear c11 c13 c14 c15 x1 hih hz2 hgh
     generalize HSS : addM s i ⟨0, 0, 0, 6, 0, 0, 2, s.g2, 0, 0, 0, 0⟩ = s1 at HM2 HR2
     have HE := Lib.hid (show s1.hol = s.hol ∧ s1.g2 = s.g2 from by rw [← HSS]; exact ⟨rfl, rfl⟩)
     clear HSS
     have HR3 := Lib.hid (show relM s i = { s1 with g2 := s1.g2 + 1, t2 := false, hol := s1.hol.set i (-1) } by rw [HR2.out, HE.out.1, HE.out.2])
     have hwx1 : IntKind.i64.wrap (s1.g2 + 1) = s1.g2 + 1 := by rw [HE.out.2]; exact hww2
     have hgb : ¬ gh2 = B := fun e => HM2.out.ap.ne 0 5 B rfl (by decide) rfl (by rw [e]; rfl)
     have hgb2 : ¬ B = gh2 := fun e => hgb e.symm
     have HBW := Lib.hid (show base ≤ B ∧ base ≤ gh2 ∧ B < z.heap.size from ⟨HM2.out.hb, (HM2.out.rh.ge gh2 rfl).1, HM2.out.lt⟩)
     have HL1 := Lib.hid (show i < s1.hol.length by rw [HE.out.1]; exact HI.out)
     clear HR2 HE
     go_upto_region 3 with fail
     refine wp_region_noPanic ?_
     refine wp_region_Kx (C := Grew z) [9, 10] 9 #[false, false, false, false, false, false, false, false, false, false, false] (by kernel_rfl) (by kernel_rfl) (by kernel_rfl) (grew0 _) ?_
     intro wx hwx
     have HBX := Lib.hid hwx.below
     have e1 : wx.cell? ⟨B, 15, none⟩ = some (.int .i64 s1.g2) := (HM2.out.cells.below HBX.out 15 (show 15 < 19 by decide)).1
     have e2 := (HM2.out.cells.below HBX.out 15 (show 15 < 19 by decide)).2
     refine wpAnyK_ex (i := 0) rfl (by kernel_rfl) (listed' := #[true, false, false, false, false, false, false, false, false, false, false]) rfl (fun _ _ _ _ _ h => h) hwx ?_
     apply Exists.intro
     refine ⟨⟨by rfl, fun wy hw => ?_⟩, ?_⟩
     · (have bw := hw.below; go_simp; try (first | (with_reducible rfl) | (with_reducible exact ⟨rfl, rfl⟩)))
     try simp only [Act.put]
     refine wpAnyK_ex (i := 1) rfl (by kernel_rfl) (listed' := #[true, true, false, false, false, false, false, false, false, false, false]) rfl (fun _ _ _ _ _ h => h) hwx ?_
     apply Exists.intro
     refine ⟨⟨by rfl, fun wy hw => ?_⟩, ?_⟩
     · (have bw := hw.below; go_simp; try (first | (with_reducible rfl) | (with_reducible exact ⟨rfl, rfl⟩)))
     try simp only [Act.put]
     refine wpAnyK_ex (i := 2) rfl (by kernel_rfl) (listed' := #[true, true, true, false, false, false, false, false, false, false, false]) rfl (fun _ _ _ _ _ h => h) hwx ?_
     apply Exists.intro
     refine ⟨⟨by rfl, fun wy hw => ?_⟩, ?_⟩
     · (have bw := hw.below; go_simp; try (first | (with_reducible rfl) | (with_reducible exact ⟨rfl, rfl⟩)))
     try simp only [Act.put]
     refine wpAnyK_ex (i := 3) rfl (by kernel_rfl) (listed' := #[true, true, true, true, false, false, false, false, false, false, false]) rfl (fun _ _ _ _ _ h => h) hwx ?_
     apply Exists.intro
     refine ⟨⟨by rfl, fun wy hw => ?_⟩, ?_⟩
     · (have bw := hw.below; go_simp; try (first | (with_reducible rfl) | (with_reducible exact ⟨rfl, rfl⟩)))
     try simp only [Act.put]
     refine wpAnyK_ex (i := 4) rfl (by kernel_rfl) (listed' := #[true, true, true, true, true, false, false, false, false, false, false]) rfl (fun _ _ _ _ _ h => h) hwx ?_
     apply Exists.intro
     refine ⟨⟨by rfl, fun wy hw => ?_⟩, ?_⟩
     · (have bw := hw.below; go_simp; try (first | (with_reducible rfl) | (with_reducible exact ⟨rfl, rfl⟩)))
     try simp only [Act.put]
     refine wpAnyK_ex (i := 5) rfl (by kernel_rfl) (listed' := #[true, true, true, true, true, true, false, false, false, false, false]) rfl (fun _ _ _ _ _ h => h) hwx ?_
     apply Exists.intro
     refine ⟨⟨by rfl, fun wy hw => ?_⟩, ?_⟩
     · (have bw := hw.below; have fx := (show wy.cell? ⟨B, 15, none⟩ = some (.int .i64 s1.g2) from (HM2.out.cells.below bw 15 (show 15 < 19 by decide)).1); go_simp; try (first | (with_reducible rfl) | (with_reducible exact ⟨rfl, rfl⟩)))
     try simp only [Act.put]
     refine wpAnyK_ex (i := 6) rfl (by kernel_rfl) (listed' := #[true, true, true, true, true, true, true, false, false, false, false]) rfl (fun _ _ _ _ _ h => h) hwx ?_
     apply Exists.intro
     refine ⟨⟨by rfl, fun wy hw => ?_⟩, ?_⟩
     · (have bw := hw.below; go_simp; try (first | (with_reducible rfl) | (with_reducible exact ⟨rfl, rfl⟩)))
     try simp only [Act.put]
     refine wpAnyK_ex (i := 7) rfl (by kernel_rfl) (listed' := #[true, true, true, true, true, true, true, true, false, false, false]) rfl (fun _ _ _ _ _ h => h) hwx ?_
     apply Exists.intro
     refine ⟨⟨by rfl, fun wy hw => ?_⟩, ?_⟩
     · (have bw := hw.below; go_simp; try (first | (with_reducible rfl) | (with_reducible exact ⟨rfl, rfl⟩)))
     try simp only [Act.put]
     refine wpAnyK_ex (i := 8) rfl (by kernel_rfl) (listed' := #[true, true, true, true, true, true, true, true, true, false, false]) rfl (fun _ _ _ _ _ h => h) hwx ?_
     apply Exists.intro
     refine ⟨⟨by rfl, fun wy hw => ?_⟩, ?_⟩
     · (have bw := hw.below; go_simp; try (first | (with_reducible rfl) | (with_reducible exact ⟨rfl, rfl⟩)))
     try simp only [Act.put]
     refine wpAnyK_end (by kernel_rfl) ?_
     try simp only [pickOps, List.filterMap_cons, List.filterMap_nil, List.getElem?_toArray, List.getElem?_cons_succ, List.getElem?_cons_zero]
     clear hwx
     go_wp2_with fail
     refine NoPanic.normal ?_
     go_upto_region 4 with fail
     obtain ⟨w4, hw4⟩ : ∃ w4, w4 = wx.setCell ⟨B, 15, none⟩ (.int .i64 (s1.g2 + 1)) := ⟨_, rfl⟩
     rw [← hw4]
     have HM4 := Lib.hid (show MkP w4 base B F { s1 with g2 := s1.g2 + 1 } _ _ _ _ _ by rw [hw4]; exact (HM2.out.up HBX.out (Nat.le_refl _)).put 15 _ { s1 with g2 := s1.g2 + 1 } rfl rfl rfl rfl rfl rfl)
     have HB4 := Lib.hid (show Below base w w4 by rw [hw4]; exact (HB2.out.trans (HBX.out.mono (by have := HBW.out; omega))).setCell HBW.out.1 _)
     clear hw4 e1 e2 HBX d1
     have e11 : w4.cell? ⟨B, 11, none⟩ = some (.slice (some ⟨gh2, 0, none⟩) s1.hol.length ch2) := (HM4.out.cells 11 (show 11 < 19 by decide)).1
     have e16 : w4.cell? ⟨B, 18, none⟩ = some (.bool s1.t2) := (HM4.out.cells 18 (show 18 < 19 by decide)).1
     have e17 := (HM4.out.cells 18 (show 18 < 19 by decide)).2
     have HI1 := Lib.hid (show i < s1.hol.length from by have := HL1.out; omega)
     have hx1 := HM4.out.rh.cell i HI1.out 0 (by decide)
     rw [show KI.n * i + 0 = i by show 1 * i + 0 = i; omega] at hx1
     obtain ⟨hx2, hx3⟩ := hx1
     have hx4 : w4.cell? ⟨gh2, i, none⟩ = some (.int .i64 (s1.hol.getD i 0)) := hx2.trans (by rw [List.getD_eq_getElem?_getD, List.getElem?_eq_getElem HI1.out]; rfl)
     clear hx2
     go_wp2_with fail
     go_end0
     refine ⟨rfl, ?_, (HB4.out.setCell HBW.out.1 _).setCell HBW.out.2.1 _⟩
     rw [HR3.out]
     exact ⟨_, _, _, _, _, (HM4.out.put 18 _ { s1 with g2 := s1.g2 + 1, t2 := false } rfl rfl rfl rfl rfl rfl).set_hol (x := -1) i HI1.out⟩
end Go.Proofs.YtamefmojocegkaaDoor

namespace Go.Proofs.YtamefmojocegkaaDoor
open Go Go.Proofs Go.RowKit Go.Lib
def Mk.bd (s : Mk) (k : Nat) : Prop := (0 ≤ s.id ∧ s.id ≤ 999) ∧ (0 ≤ s.now ∧ s.now ≤ 100000000000 + (k : Int) * 100000000) ∧ s.out.length ≤ 100 + k ∧ (0 ≤ s.msg ∧ s.msg ≤ 100 + k) ∧ (0 ≤ s.g0 ∧ s.g0 ≤ 100 + k) ∧ (0 ≤ s.g1 ∧ s.g1 ≤ 100 + k) ∧ (0 ≤ s.g2 ∧ s.g2 ≤ 100 + k)
theorem Mk.bd.small {s : Mk} {k : Nat} (h : s.bd k) (hk : k ≤ 900) : s.small := by
 obtain ⟨h1, h2, h3, h4, h5, h6, h7⟩ := h
 refine ⟨h1, ?_, by omega, by omega, by omega, by omega, by omega⟩
 omega
theorem Mk.bd.add {s : Mk} {k : Nat} (h : s.bd k) (i : Nat) (e : Ev) : (addM s i e).bd (k + 1) := by
 obtain ⟨h1, h2, h3, h4, h5, h6, h7⟩ := h
 refine ⟨h1, ?_, ?_, ?_, ?_, ?_, ?_⟩
 · show 0 ≤ s.now + 1 ∧ s.now + 1 ≤ _; omega
 · show (s.out ++ [_]).length ≤ _; rw [List.length_append]; simp; omega
 · show 0 ≤ s.msg ∧ s.msg ≤ _; omega
 · show 0 ≤ s.g0 ∧ s.g0 ≤ _; omega
 · show 0 ≤ s.g1 ∧ s.g1 ≤ _; omega
 · show 0 ≤ s.g2 ∧ s.g2 ≤ _; omega
theorem Mk.bd.mono {s : Mk} {k m : Nat} (h : s.bd k) (hm : k ≤ m) : s.bd m := by
 obtain ⟨h1, h2, h3, h4, h5, h6, h7⟩ := h
 refine ⟨h1, ?_, by omega, by omega, by omega, by omega, by omega⟩
 omega
theorem Mk.bd.rel {s : Mk} {k : Nat} (h : s.bd k) (i : Nat) : (relM s i).bd (k + 2) := by
 unfold relM
 split
 · exact h.mono (by omega)
 · obtain ⟨h1, h2, h3, h4, h5, h6, h7⟩ := h.add i ⟨0, 0, 0, 6, 0, 0, s.hol.getD i 0, s.gr (s.hol.getD i 0), 0, 0, 0, 0⟩
   generalize addM s i _ = s1 at *
   unfold Mk.bump
   split
   · refine ⟨h1, ?_, ?_, ?_, ?_, ?_, ?_⟩ <;> dsimp only <;> omega
   · split <;> (refine ⟨h1, ?_, ?_, ?_, ?_, ?_, ?_⟩ <;> dsimp only <;> omega)
theorem relM_rows (s : Mk) (i : Nat) : (relM s i).ags = s.ags ∧ (relM s i).pars = s.pars ∧ (relM s i).opn = s.opn ∧ (relM s i).hol.length = s.hol.length := by
  unfold relM
  split
  · exact ⟨rfl, rfl, rfl, rfl⟩
  · refine ⟨?_, ?_, ?_, by simp⟩ <;> (unfold Mk.bump; split; · rfl
                                      · split <;> rfl)
def shutM (s : Mk) (i : Nat) : Mk := { relM s i with opn := (relM s i).opn.set i false }
def replyM (lat : Int) (s : Mk) (i up : Nat) : Mk :=
 let s4 := addM (addM s i (⟨0, 0, 0, 3, 0, 0, s.msg, 0, 0, 0, 0, 0⟩ : Ev)) i (⟨0, 0, 0, 2, 0, 0, 0, 0, 0, 0, 0, 0⟩ : Ev)
 let s6 := addM { s4 with now := s4.now + lat } up (⟨0, 0, 0, 4, 0, 0, s.msg, 0, 0, 0, 0, 0⟩ : Ev)
 { s6 with msg := s6.msg + 1 }
def endM (lat : Int) (s : Mk) (i : Nat) (replies : Bool) : Mk :=
 if (shutM s i).pars.getD i 0 < 0 ∨ replies = false ∨ (shutM s i).opn.getD ((shutM s i).pars.getD i 0).toNat false = false then addM (shutM s i) i (⟨0, 0, 0, 2, 0, 0, 0, 0, 0, 0, 0, 0⟩ : Ev) else replyM lat (shutM s i) i ((shutM s i).pars.getD i 0).toNat
theorem Own.bool8 {W : World} {base : Nat} {v : Value} {l : List Bool} (h : Own KB W base v l) (i : Nat) (hi : i < l.length) : ∃ g c, v = .slice (some ⟨g, 0, none⟩) l.length c ∧ base ≤ g ∧ g < W.heap.size ∧ (∀ w, (Instr.indexAt 101 (.slice (some ⟨g, 0, none⟩) l.length c) (.int .i64 (i : Int))).run Tryd.prog w = .ok (.pointer (some ⟨g, i, none⟩)) w) ∧
 (∀ W' n, Below n W W' → g < n → W'.cell? ⟨g, i, none⟩ = some (.bool (l.getD i false)) ∧ W'.frozen? ⟨g, i, none⟩ = false) := by
 obtain ⟨g, c, rfl, _, h1, h2⟩ := h.block (by omega)
 refine ⟨g, c, rfl, h1, h2, fun w => by have := at_bool8 g 0 l.length c i hi w; rwa [Nat.zero_add] at this, fun W' n b hg => ?_⟩
 have hc := h.cell i hi 0 (by decide)
 rw [show KB.n * i + 0 = i by show 1 * i + 0 = i; omega] at hc
 rw [b.cell (p := ⟨g, i, none⟩) hg, b.frozen (p := ⟨g, i, none⟩) hg, hc.1, List.getD_eq_getElem?_getD, List.getElem?_eq_getElem hi]
 exact ⟨rfl, hc.2⟩
theorem endR_any (base B : Nat) (F : Fv) (s : Mk) (i : Nat) (rp : Bool) (hh : i < s.hol.length) (ha : i < s.ags.length) (hp : i < s.pars.length) (ho : i < s.opn.length) (hr : s.hol.getD i 0 < 3) (hup : s.pars.getD i 0 < (s.ags.length : Int)) (hao : s.opn.length = s.ags.length)
 (hl0 : 0 ≤ F.lat) (hl1 : F.lat ≤ 1000000) (k : Nat) (hk : k ≤ 800) (hbd : s.bd k) (w : World) (h : MkAt w base B F s) :
 Calls Tryd.prog 62 #[.pointer (some ⟨B, 0, none⟩), .int .i64 (i : Int), .bool rp] w (Done w base B F (endM F.lat s i rp)) := by
 have HRC := Lib.hid (releaseR_any base B F s i hh ha hr (hbd.small (by omega)) w h)
 obtain ⟨q1, q2, q3, q4⟩ := relM_rows s i
 have HBD := Lib.hid (hbd.rel i)
 have HEN := Lib.hid (show endM F.lat s i rp = if (shutM s i).pars.getD i 0 < 0 ∨ rp = false ∨ (shutM s i).opn.getD ((shutM s i).pars.getD i 0).toNat false = false then addM (shutM s i) i (⟨0, 0, 0, 2, 0, 0, 0, 0, 0, 0, 0, 0⟩ : Ev) else replyM F.lat (shutM s i) i ((shutM s i).pars.getD i 0).toNat from rfl)
 have HSH := Lib.hid (show shutM s i = { relM s i with opn := (relM s i).opn.set i false } from rfl)
 have HIX := Lib.hid (show i < (relM s i).ags.length ∧ i < (relM s i).pars.length ∧ i < (relM s i).opn.length ∧ (relM s i).pars.getD i 0 < ((relM s i).ags.length : Int) ∧ (relM s i).opn.length = (relM s i).ags.length by rw [q1, q2, q3]; exact ⟨ha, hp, ho, hup, hao⟩)
 clear q1 q2 q3 q4 hbd hh ha hp ho hr hup hao h
 go_enter Tryd.func62, Tryd.ntmps62
 go_wp2_with fail
 refine (HRC.out).mono ?_
 rintro e z ⟨rfl, hz1, hz2⟩
 generalize relM s i = s1 at *
 generalize shutM s i = s2 at *
 obtain ⟨vo, va, vp, vq, vh, hm⟩ := hz1
 obtain ⟨i1, i2, i3, i4, i5⟩ := HIX.out
 obtain ⟨gq, cq, rfl, _, hgq, hiq, hcq⟩ := hm.rq.bool8 i i3
 have HM := Lib.hid hm
 have HB := Lib.hid hz2
 have c10 : z.cell? ⟨B, 10, none⟩ = some (.slice (some ⟨gq, 0, none⟩) s1.opn.length cq) := (hm.cells 10 (show 10 < 19 by decide)).1
 obtain ⟨x1, x2⟩ := hcq z _ (Below.refl _ z) hgq
 have HGE := Lib.hid (show base ≤ gq ∧ base ≤ B ∧ B < z.heap.size from ⟨(hm.rq.ge gq rfl).1, hm.hb, hm.lt⟩)
 clear hm hz2 hcq hgq HIX HRC
 go_upto_region 2 with fail
 obtain ⟨w2, hw2⟩ : ∃ w2, w2 = z.setCell ⟨gq, i, none⟩ (.bool false) := ⟨_, rfl⟩
 rw [← hw2]
 have HM2 := Lib.hid (show MkP w2 base B F s2 _ _ _ _ _ by rw [hw2, HSH.out]; exact HM.out.set_opn (x := false) i i3)
 have HB2 := Lib.hid (show Below base w w2 by rw [hw2]; exact HB.out.setCell HGE.out.1 _)
 have HS2 := Lib.hid (show s2.ags = s1.ags ∧ s2.pars = s1.pars ∧ s2.opn.length = s1.opn.length ∧ s2.bd (k + 2) from by rw [HSH.out]; exact ⟨rfl, rfl, by simp, HBD.out⟩)
 clear hw2 c10 x1 x2 hiq HM HB HSH HBD
 obtain ⟨gp, cp, evp, _, hgp, hip, hcp⟩ := HM2.out.rp.int8 i (by rw [HS2.out.2.1]; exact i2)
 subst evp
 have HUP := Lib.hid (show s2.pars.getD i 0 < (s2.ags.length : Int) by rw [HS2.out.2.1, HS2.out.1]; exact i4)
 have HOA := Lib.hid (show s2.opn.length = s2.ags.length by rw [HS2.out.2.2.1, HS2.out.1]; exact i5)
 have HIA := Lib.hid (show i < s2.ags.length by rw [HS2.out.1]; exact i1)
 have HBD := Lib.hid HS2.out.2.2.2
 have c9 : w2.cell? ⟨B, 9, none⟩ = some (.slice (some ⟨gp, 0, none⟩) s2.pars.length cp) := (HM2.out.cells 9 (show 9 < 19 by decide)).1
 obtain ⟨y1, _⟩ := hcp w2 _ (Below.refl _ w2) hgp
 have HC1 := Lib.hid (fun W hW => addR_any base B F s2 i (⟨0, 0, 0, 2, 0, 0, 0, 0, 0, 0, 0, 0⟩ : Ev) HIA.out (HBD.out.small (by omega)) W hW)
 have HC2 := Lib.hid (fun W hW => addR_any base B F s2 i (⟨0, 0, 0, 3, 0, 0, s2.msg, 0, 0, 0, 0, 0⟩ : Ev) HIA.out (HBD.out.small (by omega)) W hW)
 have HIO := Lib.hid (show i < s2.opn.length by rw [HS2.out.2.2.1]; exact i3)
 clear i1 i2 i3 i4 i5 HS2 hgp hcp
 generalize s2.pars.getD i 0 = up at *
 by_cases hu : up < 0
 · have HR := Lib.hid (show endM F.lat s i rp = addM s2 i (⟨0, 0, 0, 2, 0, 0, 0, 0, 0, 0, 0, 0⟩ : Ev) by rw [HEN.out, if_pos (.inl hu)])
   go_wp2_with fail
   refine (HC1.out _ ⟨_, _, _, _, _, HM2.out⟩).mono ?_
   rintro e z3 ⟨rfl, hz3, hb3⟩
   have HZ := Lib.hid (And.intro hz3 (HB2.out.trans hb3))
   clear hz3 hb3
   go_wp2_with fail
   exact bodyPost_ret (results_none rfl _ _ _) rfl ⟨rfl, by rw [HR.out]; exact HZ.out.1, HZ.out.2⟩
 · obtain ⟨u, rfl⟩ := Int.eq_ofNat_of_zero_le (show 0 ≤ up by omega)
   have hu2 : decide ((u : Int) < 0) = false := decide_eq_false hu
   cases rp with
   | false =>
    have HR := Lib.hid (show endM F.lat s i false = addM s2 i (⟨0, 0, 0, 2, 0, 0, 0, 0, 0, 0, 0, 0⟩ : Ev) by rw [HEN.out, if_pos (.inr (.inl rfl))])
    go_wp2_with fail
    refine (HC1.out _ ⟨_, _, _, _, _, HM2.out⟩).mono ?_
    rintro e z3 ⟨rfl, hz3, hb3⟩
    have HZ := Lib.hid (And.intro hz3 (HB2.out.trans hb3))
    clear hz3 hb3
    go_wp2_with fail
    exact bodyPost_ret (results_none rfl _ _ _) rfl ⟨rfl, by rw [HR.out]; exact HZ.out.1, HZ.out.2⟩
   | true =>
    have hul : u < s2.opn.length := by have := HUP.out; have := HOA.out; omega
    obtain ⟨gq2, cq2, evq, _, hgq2, hiq2, hcq2⟩ := HM2.out.rq.bool8 u hul
    have c10 : w2.cell? ⟨B, 10, none⟩ = some (.slice (some ⟨gq2, 0, none⟩) s2.opn.length cq2) := by rw [← evq]; exact (HM2.out.cells 10 (show 10 < 19 by decide)).1
    obtain ⟨o1, _⟩ := hcq2 w2 _ (Below.refl _ w2) hgq2
    clear hcq2 hgq2 evq
    cases hop : s2.opn.getD u false with
    | false =>
     rw [hop] at o1
     have HR := Lib.hid (show endM F.lat s i true = addM s2 i (⟨0, 0, 0, 2, 0, 0, 0, 0, 0, 0, 0, 0⟩ : Ev) by rw [HEN.out, if_pos (.inr (.inr (by rw [Int.toNat_natCast]; exact hop)))])
     clear hop
     go_wp2_with fail
     refine (HC1.out _ ⟨_, _, _, _, _, HM2.out⟩).mono ?_
     rintro e z3 ⟨rfl, hz3, hb3⟩
     have HZ := Lib.hid (And.intro hz3 (HB2.out.trans hb3))
     clear hz3 hb3
     go_wp2_with fail
     exact bodyPost_ret (results_none rfl _ _ _) rfl ⟨rfl, by rw [HR.out]; exact HZ.out.1, HZ.out.2⟩
    | true =>
     rw [hop] at o1
     have HR := Lib.hid (show endM F.lat s i true = replyM F.lat s2 i u by
      have hne : ¬ ((u : Int) < 0 ∨ true = false ∨ s2.opn.getD ((u : Int).toNat) false = false) := by
       rw [Int.toNat_natCast, hop]
       intro h
       rcases h with h | h | h
       · exact hu h
       · cases h
       · cases h
      rw [HEN.out, if_neg hne, Int.toNat_natCast])
     clear hop HEN
     have c12 : w2.cell? ⟨B, 12, none⟩ = some (.int .i64 s2.msg) := (HM2.out.cells 12 (show 12 < 19 by decide)).1
     have HUA := Lib.hid (show u < s2.ags.length by have := HUP.out; omega)
     go_wp2_with fail
     refine (HC2.out _ ⟨_, _, _, _, _, HM2.out⟩).mono ?_
     rintro e z3 ⟨rfl, hz3, hb3⟩
     have HA3 := Lib.hid hz3
     have HB3 := Lib.hid (HB2.out.trans hb3)
     have HBD3 := Lib.hid (HBD.out.add i (⟨0, 0, 0, 3, 0, 0, s2.msg, 0, 0, 0, 0, 0⟩ : Ev))
     clear c9 c10 c12 y1 o1 hip hiq2 hz3 hb3
     go_wp2_with fail
     refine (addR_any base B F (addM s2 i (⟨0, 0, 0, 3, 0, 0, s2.msg, 0, 0, 0, 0, 0⟩ : Ev)) i (⟨0, 0, 0, 2, 0, 0, 0, 0, 0, 0, 0, 0⟩ : Ev) HIA.out (HBD3.out.small (by omega)) _ HA3.out).mono ?_
     rintro e z4 ⟨rfl, hz4, hb4⟩
     have HB4 := Lib.hid (HB3.out.trans hb4)
     have HBD4 := Lib.hid (HBD3.out.add i (⟨0, 0, 0, 2, 0, 0, 0, 0, 0, 0, 0, 0⟩ : Ev))
     obtain ⟨vo4, va4, vp4, vq4, vh4, hm4⟩ := hz4
     have HM4 := Lib.hid hm4
     have HRP := Lib.hid (show replyM F.lat s2 i u = { (addM { (addM (addM s2 i (⟨0, 0, 0, 3, 0, 0, s2.msg, 0, 0, 0, 0, 0⟩ : Ev)) i (⟨0, 0, 0, 2, 0, 0, 0, 0, 0, 0, 0, 0⟩ : Ev)) with now := (addM (addM s2 i (⟨0, 0, 0, 3, 0, 0, s2.msg, 0, 0, 0, 0, 0⟩ : Ev)) i (⟨0, 0, 0, 2, 0, 0, 0, 0, 0, 0, 0, 0⟩ : Ev)).now + F.lat } u (⟨0, 0, 0, 4, 0, 0, s2.msg, 0, 0, 0, 0, 0⟩ : Ev)) with msg := s2.msg + 1 } from rfl)
     have HAG := Lib.hid (show (addM (addM s2 i (⟨0, 0, 0, 3, 0, 0, s2.msg, 0, 0, 0, 0, 0⟩ : Ev)) i (⟨0, 0, 0, 2, 0, 0, 0, 0, 0, 0, 0, 0⟩ : Ev)).ags = s2.ags ∧ (addM (addM s2 i (⟨0, 0, 0, 3, 0, 0, s2.msg, 0, 0, 0, 0, 0⟩ : Ev)) i (⟨0, 0, 0, 2, 0, 0, 0, 0, 0, 0, 0, 0⟩ : Ev)).msg = s2.msg from ⟨rfl, rfl⟩)
     generalize addM (addM s2 i (⟨0, 0, 0, 3, 0, 0, s2.msg, 0, 0, 0, 0, 0⟩ : Ev)) i (⟨0, 0, 0, 2, 0, 0, 0, 0, 0, 0, 0, 0⟩ : Ev) = s4 at *
     have hn4 := HBD4.out.2.1
     obtain ⟨n40, n41⟩ := hn4
     have hwn : IntKind.i64.wrap (s4.now + F.lat) = s4.now + F.lat := wrapq8 (by omega)
     clear hm4 hb4 HA3 HB3 HBD3 HM2 HB2 n40 n41
     go_upto_region 7 with fail
     refine wp_region_noPanic ?_
     refine wp_region_Kp (C := Grew z4) [0] [11, 12, 13] 10 #[true, false, false, false, false, false, false, false, false, false, false, false, false, false] (by kernel_rfl) (by kernel_rfl) (by kernel_rfl) (by kernel_rfl) (grew0 _) (fun _ _ _ _ _ h => h) ?_
     simp only [pickOps, List.filterMap_cons, List.filterMap_nil, List.getElem?_toArray, List.getElem?_cons_succ, List.getElem?_cons_zero]
     refine wpPure_step (fun K hK => ?_)
     apply Exists.intro
     refine ⟨⟨by rfl, fun wx => ?_⟩, hK _ ?_⟩
     · (go_simp; try (first | (with_reducible rfl) | (with_reducible exact ⟨rfl, rfl⟩)))
     clear hK K
     try simp only [Act.put]
     refine wpPure_nil ?_
     intro wx hwx
     have HBX := Lib.hid hwx.below
     have e1 : wx.cell? ⟨B, 6, none⟩ = some (.int .i64 s4.now) := (HM4.out.cells.below HBX.out 6 (show 6 < 19 by decide)).1
     have e2 := (HM4.out.cells.below HBX.out 6 (show 6 < 19 by decide)).2
     refine wpAnyK_ex (i := 1) rfl (by kernel_rfl) (listed' := #[true, true, false, false, false, false, false, false, false, false, false, false, false, false]) rfl (fun _ _ _ _ _ h => h) hwx ?_
     apply Exists.intro
     refine ⟨⟨by rfl, fun wy hw => ?_⟩, ?_⟩
     · (have bw := hw.below; go_simp; try (first | (with_reducible rfl) | (with_reducible exact ⟨rfl, rfl⟩)))
     try simp only [Act.put]
     refine wpAnyK_ex (i := 2) rfl (by kernel_rfl) (listed' := #[true, true, true, false, false, false, false, false, false, false, false, false, false, false]) rfl (fun _ _ _ _ _ h => h) hwx ?_
     apply Exists.intro
     refine ⟨⟨by rfl, fun wy hw => ?_⟩, ?_⟩
     · (have bw := hw.below; go_simp; try (first | (with_reducible rfl) | (with_reducible exact ⟨rfl, rfl⟩)))
     try simp only [Act.put]
     refine wpAnyK_ex (i := 3) rfl (by kernel_rfl) (listed' := #[true, true, true, true, false, false, false, false, false, false, false, false, false, false]) rfl (fun _ _ _ _ _ h => h) hwx ?_
     apply Exists.intro
     refine ⟨⟨by rfl, fun wy hw => ?_⟩, ?_⟩
     · (have bw := hw.below; go_simp; try (first | (with_reducible rfl) | (with_reducible exact ⟨rfl, rfl⟩)))
     try simp only [Act.put]
     refine wpAnyK_ex (i := 4) rfl (by kernel_rfl) (listed' := #[true, true, true, true, true, false, false, false, false, false, false, false, false, false]) rfl (fun _ _ _ _ _ h => h) hwx ?_
     apply Exists.intro
     refine ⟨⟨by rfl, fun wy hw => ?_⟩, ?_⟩
     · (have bw := hw.below; have fx := (show wy.cell? ⟨B, 6, none⟩ = some (.int .i64 s4.now) from (HM4.out.cells.below bw 6 (show 6 < 19 by decide)).1); go_simp; try (first | (with_reducible rfl) | (with_reducible exact ⟨rfl, rfl⟩)))
     try simp only [Act.put]
     refine wpAnyK_ex (i := 5) rfl (by kernel_rfl) (listed' := #[true, true, true, true, true, true, false, false, false, false, false, false, false, false]) rfl (fun _ _ _ _ _ h => h) hwx ?_
     apply Exists.intro
     refine ⟨⟨by rfl, fun wy hw => ?_⟩, ?_⟩
     · (have bw := hw.below; go_simp; try (first | (with_reducible rfl) | (with_reducible exact ⟨rfl, rfl⟩)))
     try simp only [Act.put]
     refine wpAnyK_ex (i := 6) rfl (by kernel_rfl) (listed' := #[true, true, true, true, true, true, true, false, false, false, false, false, false, false]) rfl (fun _ _ _ _ _ h => h) hwx ?_
     apply Exists.intro
     refine ⟨⟨by rfl, fun wy hw => ?_⟩, ?_⟩
     · (have bw := hw.below; go_simp; try (first | (with_reducible rfl) | (with_reducible exact ⟨rfl, rfl⟩)))
     try simp only [Act.put]
     refine wpAnyK_ex (i := 7) rfl (by kernel_rfl) (listed' := #[true, true, true, true, true, true, true, true, false, false, false, false, false, false]) rfl (fun _ _ _ _ _ h => h) hwx ?_
     apply Exists.intro
     refine ⟨⟨by rfl, fun wy hw => ?_⟩, ?_⟩
     · (have bw := hw.below; go_simp; try (first | (with_reducible rfl) | (with_reducible exact ⟨rfl, rfl⟩)))
     try simp only [Act.put]
     refine wpAnyK_ex (i := 8) rfl (by kernel_rfl) (listed' := #[true, true, true, true, true, true, true, true, true, false, false, false, false, false]) rfl (fun _ _ _ _ _ h => h) hwx ?_
     apply Exists.intro
     refine ⟨⟨by rfl, fun wy hw => ?_⟩, ?_⟩
     · (have bw := hw.below; go_simp; try (first | (with_reducible rfl) | (with_reducible exact ⟨rfl, rfl⟩)))
     try simp only [Act.put]
     refine wpAnyK_ex (i := 9) rfl (by kernel_rfl) (listed' := #[true, true, true, true, true, true, true, true, true, true, false, false, false, false]) rfl (fun _ _ _ _ _ h => h) hwx ?_
     apply Exists.intro
     refine ⟨⟨by rfl, fun wy hw => ?_⟩, ?_⟩
     · (have bw := hw.below; have fx := (show wy.cell? ⟨B, 1, none⟩ = some (.int .i64 F.lat) from (HM4.out.cells.below bw 1 (show 1 < 19 by decide)).1); go_simp; try (first | (with_reducible rfl) | (with_reducible exact ⟨rfl, rfl⟩)))
     try simp only [Act.put]
     refine wpAnyK_ex (i := 10) rfl (by kernel_rfl) (listed' := #[true, true, true, true, true, true, true, true, true, true, true, false, false, false]) rfl (fun _ _ _ _ _ h => h) hwx ?_
     apply Exists.intro
     refine ⟨⟨by rfl, fun wy hw => ?_⟩, ?_⟩
     · (have bw := hw.below; go_simp; try (first | (with_reducible rfl) | (with_reducible exact ⟨rfl, rfl⟩)))
     try simp only [Act.put]
     refine wpAnyK_end (by kernel_rfl) ?_
     try simp only [pickOps, List.filterMap_cons, List.filterMap_nil, List.getElem?_toArray, List.getElem?_cons_succ, List.getElem?_cons_zero]
     clear hwx
     go_wp2_with fail
     refine NoPanic.normal ?_
     go_upto_region 8 with fail
     obtain ⟨w5, hw5⟩ : ∃ w5, w5 = wx.setCell ⟨B, 6, none⟩ (.int .i64 (s4.now + F.lat)) := ⟨_, rfl⟩
     rw [← hw5]
     have HM5 := Lib.hid (show MkP w5 base B F { s4 with now := s4.now + F.lat } _ _ _ _ _ by rw [hw5]; exact (HM4.out.up HBX.out (Nat.le_refl _)).put 6 _ { s4 with now := s4.now + F.lat } rfl rfl rfl rfl rfl rfl)
     have HB5 := Lib.hid (show Below base w w5 by rw [hw5]; exact (HB4.out.trans (HBX.out.mono (by have := HM4.out.hb; have := HM4.out.lt; omega))).setCell HM4.out.hb _)
     have HBD5 := Lib.hid (show Mk.bd { s4 with now := s4.now + F.lat } (k + 5) by
      obtain ⟨b1, b2, b3, b4, b5, b6, b7⟩ := HBD4.out
      exact ⟨b1, by dsimp only; omega, by dsimp only; omega, by dsimp only; omega, by dsimp only; omega, by dsimp only; omega, by dsimp only; omega⟩)
     clear hw5 e1 e2 HBX HB4 HM4 hwn
     have f12 : w5.cell? ⟨B, 12, none⟩ = some (.int .i64 s4.msg) := (HM5.out.cells 12 (show 12 < 19 by decide)).1
     have hms : s4.msg = s2.msg := HAG.out.2
     have HUA4 := Lib.hid (show u < ({ s4 with now := s4.now + F.lat } : Mk).ags.length by have := HUA.out; rw [← HAG.out.1] at this; exact this)
     have hm5 := HBD5.out.2.2.2.1
     have hwm : IntKind.i64.wrap (s2.msg + 1) = s2.msg + 1 := wrapq8 (by have := HBD.out.2.2.2.1; omega)
     rw [hms] at f12
     clear hms hm5
     go_wp2_with fail
     refine (addR_any base B F { s4 with now := s4.now + F.lat } u (⟨0, 0, 0, 4, 0, 0, s2.msg, 0, 0, 0, 0, 0⟩ : Ev) HUA4.out (HBD5.out.small (by omega)) _ ⟨_, _, _, _, _, HM5.out⟩).mono ?_
     rintro e z6 ⟨rfl, hz6, hb6⟩
     obtain ⟨vo6, va6, vp6, vq6, vh6, hm6⟩ := hz6
     have HM6 := Lib.hid hm6
     have HB6 := Lib.hid (HB5.out.trans hb6)
     have HG6 := Lib.hid (show (addM { s4 with now := s4.now + F.lat } u (⟨0, 0, 0, 4, 0, 0, s2.msg, 0, 0, 0, 0, 0⟩ : Ev)).msg = s2.msg from HAG.out.2)
     clear hm6 hb6 f12
     generalize addM { s4 with now := s4.now + F.lat } u (⟨0, 0, 0, 4, 0, 0, s2.msg, 0, 0, 0, 0, 0⟩ : Ev) = s6 at *
     have g12 : z6.cell? ⟨B, 12, none⟩ = some (.int .i64 s2.msg) := by rw [← HG6.out]; exact (HM6.out.cells 12 (show 12 < 19 by decide)).1
     have g13 := (HM6.out.cells 12 (show 12 < 19 by decide)).2
     go_wp2_with fail
     go_end0
     refine ⟨rfl, ?_, HB6.out.setCell HM6.out.hb _⟩
     rw [HR.out, HRP.out]
     exact ⟨_, _, _, _, _, HM6.out.put 12 _ { s6 with msg := s2.msg + 1 } rfl rfl rfl rfl rfl rfl⟩
end Go.Proofs.YtamefmojocegkaaDoor

namespace Go.Proofs.YtamefmojocegkaaDoor
open Go Go.Proofs Go.RowKit Go.Lib
structure D4 where
 (a b c d : Int)
def D4.cells (x : D4) : List Value := [.int .i64 x.a, .int .i64 x.b, .int .i64 x.c, .int .i64 x.d]
def KD : RowK D4 where
 n := 4
 bytes := 32
 et := 106
 st := 26
 zero := .agg #[.int .i64 0, .int .i64 0, .int .i64 0, .int .i64 0]
 cs := D4.cells
 len := fun _ => rfl
 one := fun x u hu => by
  simp [D4.cells] at hu
  rcases hu with rfl | rfl | rfl | rfl <;> rfl
 pos := by decide
 bb := by decide
 und := by kernel_rfl
 elem := by kernel_rfl
 info := by kernel_rfl
 zs := rfl
def evS (k : Int) (lk gn : Int) : Ev := ⟨0, 0, 0, k, 0, 0, lk, gn, 0, 0, 0, 0⟩
def call3 (lat : Int) (nd : Nat) (s : Mk) (p : Nat) (d : D4) : Mk := { addM s p (evS 3 s.msg 0) with now := (addM s p (evS 3 s.msg 0)).now + lat + pick8 (d.d.tdiv 5) 700000, ags := s.ags ++ [pick8 d.c nd] }
def call5 (lat : Int) (nd : Nat) (s : Mk) (p : Nat) (d : D4) : Mk := { addM (call3 lat nd s p d) s.ags.length (evS 4 s.msg 0) with ags := s.ags }
def callM (lat : Int) (nd ns : Nat) (person : Int) (s : Mk) (p : Nat) (d : D4) : Mk := { begM ns (call5 lat nd s p d) p (pick8 d.c nd) d.c person with msg := s.msg + 1 }
def Mk.tk (s : Mk) (r : Int) : Bool := if r = 0 then s.t0 else if r = 1 then s.t1 else s.t2
def Mk.take_ (s : Mk) (r : Int) : Mk := if r = 0 then { s with t0 := true } else if r = 1 then { s with t1 := true } else { s with t2 := true }
def acqM (s : Mk) (p : Nat) (d : D4) : Mk :=
 if s.tk (pick8 d.c 3) = false ∧ s.hol.getD p 0 < 0 then { ((addM s p (evS 5 (pick8 d.c 3) (s.gr (pick8 d.c 3)))).take_ (pick8 d.c 3)) with hol := s.hol.set p (pick8 d.c 3) } else s
def spanM (s : Mk) (d : D4) : Nat := (pick8 d.b (s.ags.length : Nat)).toNat
def laterM (s : Mk) (d : D4) : Mk := { s with now := s.now + pick8 d.d 4000000 }
def doM (lat : Int) (nd ns : Nat) (person : Int) (s : Mk) (p : Nat) (d : D4) : Mk :=
 if s.opn.getD p false = false then s
 else if pick8 d.a 6 = 0 ∨ pick8 d.a 6 = 1 ∨ pick8 d.a 6 = 2 then (if 4 ≤ s.ags.length then s else callM lat nd ns person s p d)
 else if pick8 d.a 6 = 3 then acqM s p d
 else if pick8 d.a 6 = 4 then relM s p
 else if 0 < p then endM lat s p (decide (d.c.tmod 2 = 0)) else s
def stepM (lat : Int) (nd ns : Nat) (person : Int) (s : Mk) (d : D4) : Mk := doM lat nd ns person (laterM s d) (spanM s d) d
def loopM (lat : Int) (nd ns : Nat) (person : Int) : Mk → List D4 → Nat → Mk
 | s, [], _ => s
 | s, d :: l, n => if n < 60 ∧ s.out.length < 9 then loopM lat nd ns person (stepM lat nd ns person s d) l (n + 1) else s
def lastM (lat id : Int) : Nat → Mk → Mk
 | 0, s => s
 | j + 1, s => lastM lat id j (if s.opn.getD j false = true then endM lat { s with now := s.now + 1000 * pick8 (id + (j : Nat)) 1000 } j (decide (0 < (id + (j : Nat)).tmod 3)) else s)
def startM (id at_ : Int) : Mk := ⟨pick8 id 1000, at_, [], [], [], [], [], 0, 0, 0, 0, false, false, false⟩
def runM (lat : Int) (nd ns : Nat) (id at_ person : Int) (l : List D4) : Mk := loopM lat nd ns person (begM ns (startM id at_) (-1) (pick8 id nd) id person) l 0
def madeN (lat : Int) (nd ns : Nat) (id at_ person : Int) (l : List D4) : List Hp := (lastM lat id (runM lat nd ns id at_ person l).ags.length (runM lat nd ns id at_ person l)).out
structure Wf (s : Mk) : Prop where
 l1 : 1 ≤ s.ags.length
 l4 : s.ags.length ≤ 4
 p : s.pars.length = s.ags.length
 o : s.opn.length = s.ags.length
 h : s.hol.length = s.ags.length
 hp : ∀ i, s.pars.getD i 0 < (s.ags.length : Int)
 hh : ∀ i, s.hol.getD i 0 < 3
theorem Wf.of {s s' : Mk} (h : Wf s) (h1 : s'.ags = s.ags) (h2 : s'.pars = s.pars) (h3 : s'.opn.length = s.opn.length) (h4 : s'.hol = s.hol) : Wf s' :=
 ⟨by rw [h1]; exact h.l1, by rw [h1]; exact h.l4, by rw [h1, h2]; exact h.p, by rw [h1, h3]; exact h.o, by rw [h1, h4]; exact h.h, by rw [h1, h2]; exact h.hp, by rw [h4]; exact h.hh⟩
theorem getD_set8 {l : List Int} {i j : Nat} {x : Int} : (l.set i x).getD j 0 = if i = j ∧ i < l.length then x else l.getD j 0 := by
 rw [List.getD_eq_getElem?_getD, List.getD_eq_getElem?_getD, List.getElem?_set]
 by_cases h : i = j
 · subst h
   by_cases h2 : i < l.length
   · simp [h2]
   · rw [if_pos rfl, if_neg h2, if_neg (by omega), List.getElem?_eq_none (by omega)]
 · rw [if_neg h, if_neg (by omega)]
theorem getD_push8 {l : List Int} {j : Nat} {x : Int} : (l ++ [x]).getD j 0 = if j < l.length then l.getD j 0 else if j = l.length then x else 0 := by
 rw [List.getD_eq_getElem?_getD, List.getD_eq_getElem?_getD]
 by_cases h : j < l.length
 · rw [if_pos h, List.getElem?_append_left h]
 · rw [if_neg h, List.getElem?_append_right (by omega)]
   by_cases h2 : j = l.length
   · subst h2; simp
   · rw [if_neg h2, List.getElem?_eq_none (by simp; omega)]; rfl
theorem relM_hol (s : Mk) (i : Nat) : (relM s i).hol = s.hol ∨ (relM s i).hol = s.hol.set i (-1) := by
 unfold relM
 split
 · exact .inl rfl
 · exact .inr rfl
theorem Wf.rel {s : Mk} (h : Wf s) (i : Nat) : Wf (relM s i) := by
 obtain ⟨q1, q2, q3, q4⟩ := relM_rows s i
 refine ⟨by rw [q1]; exact h.l1, by rw [q1]; exact h.l4, by rw [q1, q2]; exact h.p, by rw [q1, q3]; exact h.o, by rw [q1, q4]; exact h.h, by rw [q1, q2]; exact h.hp, fun j => ?_⟩
 rcases relM_hol s i with e | e
 · rw [e]; exact h.hh j
 · rw [e, getD_set8]; split
   · decide
   · exact h.hh j
theorem Wf.shut {s : Mk} (h : Wf s) (i : Nat) : Wf (shutM s i) := (h.rel i).of rfl rfl (by unfold shutM; simp) rfl
theorem Wf.add {s : Mk} (h : Wf s) (i : Nat) (e : Ev) : Wf (addM s i e) := h.of rfl rfl rfl rfl
theorem Wf.end_ {s : Mk} (h : Wf s) (lat : Int) (i : Nat) (b : Bool) : Wf (endM lat s i b) := by
 unfold endM
 split
 · exact (h.shut i).add _ _
 · exact (h.shut i).of rfl rfl rfl rfl
theorem Wf.later {s : Mk} (h : Wf s) (x : Int) : Wf { s with now := x } := h.of rfl rfl rfl rfl
theorem take_eq (s : Mk) (r : Int) : (s.take_ r).id = s.id ∧ (s.take_ r).now = s.now ∧ (s.take_ r).out = s.out ∧ (s.take_ r).ags = s.ags ∧ (s.take_ r).pars = s.pars ∧ (s.take_ r).opn = s.opn ∧ (s.take_ r).msg = s.msg ∧ (s.take_ r).g0 = s.g0 ∧ (s.take_ r).g1 = s.g1 ∧ (s.take_ r).g2 = s.g2 := by
 unfold Mk.take_
 split
 · exact ⟨rfl, rfl, rfl, rfl, rfl, rfl, rfl, rfl, rfl, rfl⟩
 · split <;> exact ⟨rfl, rfl, rfl, rfl, rfl, rfl, rfl, rfl, rfl, rfl⟩
theorem Wf.acq {s : Mk} (h : Wf s) (p : Nat) (d : D4) : Wf (acqM s p d) := by
 unfold acqM
 split
 · have hr := pick8_hi (c := d.c) (n := 3) (by decide)
   have hw : Wf { s with hol := s.hol.set p (pick8 d.c 3) } := ⟨h.l1, h.l4, h.p, h.o, by simp; exact h.h, h.hp, fun j => by
    show (s.hol.set p _).getD j 0 < 3
    rw [getD_set8]; split
    · exact hr
    · exact h.hh j⟩
   obtain ⟨_, _, _, e4, e5, e6, _⟩ := take_eq (addM s p (evS 5 (pick8 d.c 3) (s.gr (pick8 d.c 3)))) (pick8 d.c 3)
   exact hw.of e4 e5 (by show (Mk.take_ _ _).opn.length = _; rw [e6]; rfl) rfl
 · exact h
theorem Wf.beg {s : Mk} (h : Wf s) (hl : s.ags.length < 4) (ns : Nat) (p : Nat) (hp : p < s.ags.length) (ag n person : Int) : Wf (begM ns s p ag n person) := by
 have hw : Wf (rowsM s p ag) := by
  refine ⟨?_, ?_, ?_, ?_, ?_, fun j => ?_, fun j => ?_⟩
  · show 1 ≤ (s.ags ++ [ag]).length; simp
  · show (s.ags ++ [ag]).length ≤ 4; simp; omega
  · show (s.pars ++ [_]).length = (s.ags ++ [ag]).length; simp [h.p]
  · show (s.opn ++ [_]).length = (s.ags ++ [ag]).length; simp [h.o]
  · show (s.hol ++ [_]).length = (s.ags ++ [ag]).length; simp [h.h]
  · show (s.pars ++ [(p : Int)]).getD j 0 < ((s.ags ++ [ag]).length : Int)
    rw [getD_push8, List.length_append]
    have := h.hp j
    simp only [List.length_cons, List.length_nil]
    split
    · omega
    · split <;> omega
  · show (s.hol ++ [-1]).getD j 0 < 3
    rw [getD_push8]
    have := h.hh j
    split
    · exact this
    · split <;> decide
 exact hw.add _ _
theorem Wf.call {s : Mk} (h : Wf s) (hl : s.ags.length < 4) (lat : Int) (nd ns : Nat) (person : Int) (p : Nat) (hp : p < s.ags.length) (d : D4) : Wf (callM lat nd ns person s p d) := by
 unfold callM
 exact (Wf.beg (s := call5 lat nd s p d) (h.of rfl rfl rfl rfl) hl ns p hp (pick8 d.c nd) d.c person).of rfl rfl rfl rfl
theorem spanM_lt {s : Mk} (h : Wf s) (d : D4) : spanM s d < s.ags.length := by
 unfold spanM
 have h1 := pick8_lo (c := d.b) (n := (s.ags.length : Nat)) (by have := h.l1; omega)
 have h2 := pick8_hi (c := d.b) (n := (s.ags.length : Nat)) (by have := h.l1; omega)
 omega
theorem Wf.do_ {s : Mk} (h : Wf s) (lat : Int) (nd ns : Nat) (person : Int) (p : Nat) (hp : p < s.ags.length) (d : D4) : Wf (doM lat nd ns person s p d) := by
 unfold doM
 split
 · exact h
 · split
   · split
     · exact h
     · exact h.call (by omega) _ _ _ _ _ hp _
   · split
     · exact h.acq _ _
     · split
       · exact h.rel _
       · split
         · exact h.end_ _ _ _
         · exact h
theorem Wf.step {s : Mk} (h : Wf s) (lat : Int) (nd ns : Nat) (person : Int) (d : D4) : Wf (stepM lat nd ns person s d) := Wf.do_ (s := laterM s d) (h.of rfl rfl rfl rfl) lat nd ns person _ (spanM_lt h d) d
theorem wf_start (ns : Nat) (id at_ ag n person : Int) : Wf (begM ns (startM id at_) (-1) ag n person) := by
 refine ⟨by show 1 ≤ 1; decide, by show 1 ≤ 4; decide, rfl, rfl, rfl, fun j => ?_, fun j => ?_⟩
 · show ([(-1 : Int)]).getD j 0 < 1
   rw [show ([(-1 : Int)] : List Int) = [] ++ [-1] from rfl, getD_push8]
   split
   · rename_i h; exact absurd h (Nat.not_lt_zero _)
   · split <;> decide
 · show ([(-1 : Int)]).getD j 0 < 3
   rw [show ([(-1 : Int)] : List Int) = [] ++ [-1] from rfl, getD_push8]
   split
   · rename_i h; exact absurd h (Nat.not_lt_zero _)
   · split <;> decide
/-! ### what is not too great -/
theorem Mk.bd.later {s : Mk} {k : Nat} (h : s.bd k) (x : Int) (h0 : 0 ≤ x) (h1 : x ≤ 100000000) : Mk.bd { s with now := s.now + x } (k + 1) := by
 obtain ⟨b1, b2, b3, b4, b5, b6, b7⟩ := h
 refine ⟨b1, ?_, ?_, ?_, ?_, ?_, ?_⟩ <;> dsimp only <;> omega
theorem Mk.bd.of {s s' : Mk} {k : Nat} (h : s.bd k) (h1 : s'.id = s.id) (h2 : s'.now = s.now) (h3 : s'.out = s.out) (h4 : s'.msg = s.msg) (h5 : s'.g0 = s.g0) (h6 : s'.g1 = s.g1) (h7 : s'.g2 = s.g2) : s'.bd k := by
 obtain ⟨b1, b2, b3, b4, b5, b6, b7⟩ := h
 exact ⟨by rw [h1]; exact b1, by rw [h2]; exact b2, by rw [h3]; exact b3, by rw [h4]; exact b4, by rw [h5]; exact b5, by rw [h6]; exact b6, by rw [h7]; exact b7⟩
theorem Mk.bd.msg {s : Mk} {k : Nat} (h : s.bd k) (x : Int) (h0 : 0 ≤ x) (h1 : x ≤ 100 + k) : Mk.bd { s with msg := x } k := by
 obtain ⟨b1, b2, b3, b4, b5, b6, b7⟩ := h
 exact ⟨b1, b2, b3, ⟨h0, h1⟩, b5, b6, b7⟩
theorem Mk.bd.beg {s : Mk} {k : Nat} (h : s.bd k) (ns : Nat) (p ag n person : Int) : (begM ns s p ag n person).bd (k + 1) := (h.of (s' := rowsM s p ag) rfl rfl rfl rfl rfl rfl rfl).add _ _
theorem Mk.bd.call {s : Mk} {k : Nat} (h : s.bd k) (lat : Int) (l0 : 0 ≤ lat) (l1 : lat ≤ 1000000) (nd ns : Nat) (person : Int) (p : Nat) (d : D4) : (callM lat nd ns person s p d).bd (k + 5) := by
 have p0 := pick8_lo (c := d.d.tdiv 5) (n := 700000) (by decide)
 have p1 := pick8_hi (c := d.d.tdiv 5) (n := 700000) (by decide)
 have a2 := h.add p (evS 3 s.msg 0)
 have a3 := a2.later (lat + pick8 (d.d.tdiv 5) 700000) (by omega) (by omega)
 have a3' : (call3 lat nd s p d).bd (k + 2) := a3.of rfl (by unfold call3; dsimp only; omega) rfl rfl rfl rfl rfl
 have a5 : (call5 lat nd s p d).bd (k + 3) := (a3'.add s.ags.length (evS 4 s.msg 0)).of rfl rfl rfl rfl rfl rfl rfl
 have a6 := a5.beg ns p (pick8 d.c nd) d.c person
 have hm := h.2.2.2.1
 exact (a6.mono (show k + 4 ≤ k + 5 by omega)).msg (s.msg + 1) (by omega) (by omega)
theorem Mk.bd.acq {s : Mk} {k : Nat} (h : s.bd k) (p : Nat) (d : D4) : (acqM s p d).bd (k + 1) := by
 unfold acqM
 split
 · obtain ⟨e1, e2, e3, _, _, _, e7, e8, e9, e10⟩ := take_eq (addM s p (evS 5 (pick8 d.c 3) (s.gr (pick8 d.c 3)))) (pick8 d.c 3)
   exact (h.add p (evS 5 (pick8 d.c 3) (s.gr (pick8 d.c 3)))).of e1 e2 e3 e7 e8 e9 e10
 · exact h.mono (by omega)
theorem Mk.bd.end_ {s : Mk} {k : Nat} (h : s.bd k) (lat : Int) (l0 : 0 ≤ lat) (l1 : lat ≤ 1000000) (i : Nat) (b : Bool) : (endM lat s i b).bd (k + 7) := by
 have hs : (shutM s i).bd (k + 2) := (h.rel i).of rfl rfl rfl rfl rfl rfl rfl
 unfold endM
 split
 · exact (hs.add _ _).mono (by omega)
 · generalize shutM s i = t at *
   have a4 := (hs.add i ⟨0, 0, 0, 3, 0, 0, t.msg, 0, 0, 0, 0, 0⟩).add i ⟨0, 0, 0, 2, 0, 0, 0, 0, 0, 0, 0, 0⟩
   have a6 := (a4.later lat l0 (by omega)).add (t.pars.getD i 0).toNat ⟨0, 0, 0, 4, 0, 0, t.msg, 0, 0, 0, 0, 0⟩
   have hm := hs.2.2.2.1
   exact (a6.mono (show k + 2 + 1 + 1 + 1 + 1 ≤ k + 7 by omega)).msg (t.msg + 1) (by omega) (by omega)
theorem Mk.bd.step {s : Mk} {k : Nat} (h : s.bd k) (lat : Int) (l0 : 0 ≤ lat) (l1 : lat ≤ 1000000) (nd ns : Nat) (person : Int) (d : D4) : (stepM lat nd ns person s d).bd (k + 8) := by
 have p0 := pick8_lo (c := d.d) (n := 4000000) (by decide)
 have p1 := pick8_hi (c := d.d) (n := 4000000) (by decide)
 have h1 : (laterM s d).bd (k + 1) := h.later _ p0 (by omega)
 unfold stepM doM
 split
 · exact h1.mono (by omega)
 · split
   · split
     · exact h1.mono (by omega)
     · exact (h1.call lat l0 l1 nd ns person _ d).mono (by omega)
   · split
     · exact (h1.acq _ d).mono (by omega)
     · split
       · exact (h1.rel _).mono (by omega)
       · split
         · exact (h1.end_ lat l0 l1 _ _).mono (by omega)
         · exact h1.mono (by omega)
theorem bd_start (ns : Nat) (id at_ ag n person : Int) (h0 : 0 ≤ at_) (h1 : at_ ≤ 10000000) : (begM ns (startM id at_) (-1) ag n person).bd 1 := by
 have b : (startM id at_).bd 0 := by
  have p0 := pick8_lo (c := id) (n := 1000) (by decide)
  have p1 := pick8_hi (c := id) (n := 1000) (by decide)
  refine ⟨⟨p0, by show pick8 id 1000 ≤ 999; omega⟩, ⟨h0, by show at_ ≤ _; omega⟩, Nat.zero_le _, ⟨Int.le_refl _, by show (0 : Int) ≤ _; omega⟩, ⟨Int.le_refl _, by show (0 : Int) ≤ _; omega⟩, ⟨Int.le_refl _, by show (0 : Int) ≤ _; omega⟩, ⟨Int.le_refl _, by show (0 : Int) ≤ _; omega⟩⟩
 exact b.beg ns (-1) ag n person
end Go.Proofs.YtamefmojocegkaaDoor

namespace Go.Proofs.YtamefmojocegkaaDoor
open Go Go.Proofs Go.RowKit Go.Lib
theorem folB_iff (a b : Ev) : folB a b = true ↔ (a.kd = 3 ∧ b.kd = 4 ∧ a.lk = b.lk) ∨ (a.kd = 5 ∧ b.kd = 6 ∧ a.lk = b.lk ∧ a.gn = b.gn) ∨ (a.kd = 6 ∧ b.kd = 5 ∧ a.lk = b.lk ∧ a.gn + 1 = b.gn) ∨ (a.kd = 1 ∧ b.kd = 1 ∧ b.lk = a.sp) := by
 unfold folB
 simp only [Bool.or_eq_true, Bool.and_eq_true, beq_iff_eq, and_assoc, or_assoc]
theorem folN_le (lat : Int) (a b : Ev) : folN lat a b = 0 ∨ (folN lat a b = lat ∧ a.kd = 3 ∧ b.kd = 4 ∧ a.lk = b.lk) := by
 unfold folN
 split
 · rename_i h
   simp only [Bool.and_eq_true, beq_iff_eq, and_assoc] at h
   exact .inr ⟨rfl, h⟩
 · exact .inl rfl
def EvK (ns : Nat) (pe : Int) (na : Nat) (msg : Int) (gr : Int → Int) (e : Ev) : Prop :=
 (e.kd = 1 ∧ (-1 ≤ e.lk ∧ e.lk < e.sp ∧ e.sp < (na : Int)) ∧ e.gn = 0 ∧ (0 ≤ e.op ∧ e.op < (ns : Int)) ∧ (0 ≤ e.vr ∧ e.vr < 3) ∧ e.pe = pe) ∨
 ((e.op = 0 ∧ e.vr = 0 ∧ e.pe = 0) ∧ ((e.kd = 2 ∧ e.lk = 0 ∧ e.gn = 0) ∨ ((e.kd = 3 ∨ e.kd = 4) ∧ (0 ≤ e.lk ∧ e.lk < msg) ∧ e.gn = 0) ∨ (e.kd = 5 ∧ (0 ≤ e.lk ∧ e.lk < 3) ∧ 0 ≤ e.gn ∧ e.gn ≤ gr e.lk) ∨ (e.kd = 6 ∧ (0 ≤ e.lk ∧ e.lk < 3) ∧ 0 ≤ e.gn ∧ e.gn < gr e.lk)))
structure EvOk (nd ns : Nat) (id pe : Int) (na : Nat) (msg : Int) (gr : Int → Int) (e : Ev) : Prop where
 ag : 0 ≤ e.ag ∧ e.ag < (nd : Int)
 tr : e.tr = id
 sp : 0 ≤ e.sp ∧ e.sp ≤ 9
 bt : 10 ≤ e.bt ∧ e.bt ≤ 99
 kd : EvK ns pe na msg gr e
theorem EvOk.mono {nd ns : Nat} {id pe : Int} {na na' : Nat} {msg msg' : Int} {gr gr' : Int → Int} {e : Ev} (h : EvOk nd ns id pe na msg gr e) (hna : na ≤ na') (hm : msg ≤ msg') (hg : ∀ r, 0 ≤ r → r < 3 → gr r ≤ gr' r) : EvOk nd ns id pe na' msg' gr' e := by
 refine ⟨h.ag, h.tr, h.sp, h.bt, ?_⟩
 rcases h.kd with k | ⟨k0, k | k | k | k⟩
 · exact .inl ⟨k.1, ⟨k.2.1.1, k.2.1.2.1, by omega⟩, k.2.2⟩
 · exact .inr ⟨k0, .inl k⟩
 · exact .inr ⟨k0, .inr (.inl ⟨k.1, ⟨k.2.1.1, by omega⟩, k.2.2⟩)⟩
 · exact .inr ⟨k0, .inr (.inr (.inl ⟨k.1, k.2.1, k.2.2.1, by have := hg e.lk k.2.1.1 k.2.1.2; omega⟩))⟩
 · exact .inr ⟨k0, .inr (.inr (.inr ⟨k.1, k.2.1, k.2.2.1, by have := hg e.lk k.2.1.1 k.2.1.2; omega⟩))⟩
structure OutOk (nd ns : Nat) (lat id pe : Int) (out : List Hp) (na : Nat) (msg : Int) (gr : Int → Int) (now : Int) : Prop where
 ev : ∀ h ∈ out, EvOk nd ns id pe na msg gr h.e
 t : ∀ h ∈ out, 0 ≤ h.t ∧ h.t < now
 srt : out.Pairwise fun a b => a.t < b.t
 fol : ∀ a ∈ out, ∀ b ∈ out, folB a.e b.e = true → a.t + folN lat a.e b.e ≤ b.t
theorem OutOk.mono {nd ns : Nat} {lat id pe : Int} {out : List Hp} {na na' : Nat} {msg msg' : Int} {gr gr' : Int → Int} {now now' : Int} (h : OutOk nd ns lat id pe out na msg gr now) (hna : na ≤ na') (hm : msg ≤ msg') (hg : ∀ r, 0 ≤ r → r < 3 → gr r ≤ gr' r) (hn : now ≤ now') : OutOk nd ns lat id pe out na' msg' gr' now' :=
 ⟨fun x hx => (h.ev x hx).mono hna hm hg, fun x hx => by have := h.t x hx; omega, h.srt, h.fol⟩
def evA (s : Mk) (i : Nat) (e : Ev) : Ev := { e with tr := s.id, sp := i, ag := s.ags.getD i 0, bt := 10 + pick8 (7 * (s.out.length : Nat) + s.id) 90 }
theorem addM_out (s : Mk) (i : Nat) (e : Ev) : (addM s i e).out = s.out ++ [⟨evA s i e, s.now⟩] := rfl
theorem addM_now (s : Mk) (i : Nat) (e : Ev) : (addM s i e).now = s.now + 1 := rfl
structure AddAt (nd : Nat) (id : Int) (s : Mk) (i : Nat) : Prop where
 i9 : i ≤ 9
 ag : 0 ≤ s.ags.getD i 0 ∧ s.ags.getD i 0 < (nd : Int)
 id : s.id = id
 n0 : 0 ≤ s.now
theorem OutOk.add {nd ns : Nat} {lat id pe : Int} {s : Mk} {na na' : Nat} {msg msg' : Int} {gr gr' : Int → Int} (h : OutOk nd ns lat id pe s.out na msg gr s.now) (hna : na ≤ na') (hm : msg ≤ msg') (hg : ∀ r, 0 ≤ r → r < 3 → gr r ≤ gr' r) (i : Nat) (hi : AddAt nd id s i) (e : Ev)
 (hk : EvK ns pe na' msg' gr' (evA s i e)) (hA : ∀ a ∈ s.out, a.e.kd = 3 → e.kd = 4 → a.e.lk = e.lk → a.t + lat ≤ s.now)
 (hB : ∀ b ∈ s.out, folB (evA s i e) b.e = true → False) (hC : folB (evA s i e) (evA s i e) = true → False) : OutOk nd ns lat id pe (addM s i e).out na' msg' gr' (addM s i e).now := by
 have hx : EvOk nd ns id pe na' msg' gr' (evA s i e) := by
  refine ⟨hi.ag, hi.id, ⟨?_, ?_⟩, ⟨?_, ?_⟩, hk⟩
  · show (0 : Int) ≤ (i : Int); omega
  · have := hi.i9; show (i : Int) ≤ 9; omega
  · have := pick8_lo (c := 7 * (s.out.length : Nat) + s.id) (n := 90) (by decide)
    show 10 ≤ 10 + pick8 (7 * (s.out.length : Nat) + s.id) 90
    omega
  · have := pick8_hi (c := 7 * (s.out.length : Nat) + s.id) (n := 90) (by decide)
    show 10 + pick8 (7 * (s.out.length : Nat) + s.id) 90 ≤ 99
    omega
 rw [addM_out, addM_now]
 refine ⟨fun x hx' => ?_, fun x hx' => ?_, ?_, fun a ha b hb hf => ?_⟩
 · rcases List.mem_append.1 hx' with hx' | hx'
   · exact (h.ev x hx').mono hna hm hg
   · rw [List.mem_singleton.1 hx']; exact hx
 · rcases List.mem_append.1 hx' with hx' | hx'
   · have := h.t x hx'; omega
   · rw [List.mem_singleton.1 hx']
     have := hi.n0
     exact ⟨this, by show s.now < s.now + 1; omega⟩
 · rw [List.pairwise_append]
   refine ⟨h.srt, List.pairwise_singleton _ _, fun a ha b hb => ?_⟩
   rw [List.mem_singleton.1 hb]
   exact (h.t a ha).2
 · rcases List.mem_append.1 ha with ha | ha <;> rcases List.mem_append.1 hb with hb | hb
   · exact h.fol a ha b hb hf
   · rw [List.mem_singleton.1 hb]
     show a.t + folN lat a.e (evA s i e) ≤ s.now
     have := (h.t a ha).2
     rcases folN_le lat a.e (evA s i e) with e0 | ⟨e0, k1, k2, k3⟩
     · rw [e0]; omega
     · rw [e0]; exact hA a ha k1 k2 k3
   · rw [List.mem_singleton.1 ha] at hf
     exact (hB b hb hf).elim
   · rw [List.mem_singleton.1 ha, List.mem_singleton.1 hb] at hf
     exact (hC hf).elim
theorem OutOk.addEnd {nd ns : Nat} {lat id pe : Int} {s : Mk} {na : Nat} {msg : Int} {gr : Int → Int} (h : OutOk nd ns lat id pe s.out na msg gr s.now) (i : Nat) (hi : AddAt nd id s i) : OutOk nd ns lat id pe (addM s i (evS 2 0 0)).out na msg gr (addM s i (evS 2 0 0)).now := by
 refine h.add (Nat.le_refl _) (Int.le_refl _) (fun _ _ _ => Int.le_refl _) i hi _ (.inr ⟨⟨rfl, rfl, rfl⟩, .inl ⟨rfl, rfl, rfl⟩⟩) (fun a _ _ h4 _ => ?_) (fun b _ hf => ?_) (fun hf => ?_)
 · exact absurd h4 (show ¬ (2 : Int) = 4 by decide)
 · rw [folB_iff] at hf
   dsimp only [evA, evS] at hf
   omega
 · rw [folB_iff] at hf
   dsimp only [evA, evS] at hf
   omega
theorem OutOk.addSend {nd ns : Nat} {lat id pe : Int} {s : Mk} {na : Nat} {msg : Int} {gr : Int → Int} (h : OutOk nd ns lat id pe s.out na msg gr s.now) (i : Nat) (hi : AddAt nd id s i) (h0 : 0 ≤ msg) : OutOk nd ns lat id pe (addM s i (evS 3 msg 0)).out na (msg + 1) gr (addM s i (evS 3 msg 0)).now := by
 refine h.add (Nat.le_refl _) (by omega) (fun _ _ _ => Int.le_refl _) i hi _ (.inr ⟨⟨rfl, rfl, rfl⟩, .inr (.inl ⟨.inl rfl, ⟨h0, ?_⟩, rfl⟩)⟩) (fun a _ _ h4 _ => ?_) (fun b hb hf => ?_) (fun hf => ?_)
 · show msg < msg + 1; omega
 · exact absurd h4 (show ¬ (3 : Int) = 4 by decide)
 · rw [folB_iff] at hf
   dsimp only [evA, evS] at hf
   rcases (h.ev b hb).kd with k | ⟨k0, k | k | k | k⟩ <;> omega
 · rw [folB_iff] at hf
   dsimp only [evA, evS] at hf
   omega
theorem OutOk.addRecv {nd ns : Nat} {lat id pe : Int} {s : Mk} {na : Nat} {msg m : Int} {gr : Int → Int} (h : OutOk nd ns lat id pe s.out na msg gr s.now) (i : Nat) (hi : AddAt nd id s i) (h0 : 0 ≤ m) (h1 : m < msg) (hA : ∀ a ∈ s.out, a.e.kd = 3 → a.e.lk = m → a.t + lat ≤ s.now) : OutOk nd ns lat id pe (addM s i (evS 4 m 0)).out na msg gr (addM s i (evS 4 m 0)).now := by
 refine h.add (Nat.le_refl _) (Int.le_refl _) (fun _ _ _ => Int.le_refl _) i hi _ (.inr ⟨⟨rfl, rfl, rfl⟩, .inr (.inl ⟨.inr rfl, ⟨h0, h1⟩, rfl⟩)⟩) (fun a ha h3 _ h5 => hA a ha h3 h5) (fun b hb hf => ?_) (fun hf => ?_)
 · rw [folB_iff] at hf
   dsimp only [evA, evS] at hf
   omega
 · rw [folB_iff] at hf
   dsimp only [evA, evS] at hf
   omega
theorem OutOk.addAcq {nd ns : Nat} {lat id pe : Int} {s : Mk} {na : Nat} {msg r : Int} {gr : Int → Int} (h : OutOk nd ns lat id pe s.out na msg gr s.now) (i : Nat) (hi : AddAt nd id s i) (h0 : 0 ≤ r) (h1 : r < 3) (hg0 : 0 ≤ gr r) : OutOk nd ns lat id pe (addM s i (evS 5 r (gr r))).out na msg gr (addM s i (evS 5 r (gr r))).now := by
 refine h.add (Nat.le_refl _) (Int.le_refl _) (fun _ _ _ => Int.le_refl _) i hi _ (.inr ⟨⟨rfl, rfl, rfl⟩, .inr (.inr (.inl ⟨rfl, ⟨h0, h1⟩, hg0, Int.le_refl _⟩))⟩) (fun a _ _ h4 _ => ?_) (fun b hb hf => ?_) (fun hf => ?_)
 · exact absurd h4 (show ¬ (5 : Int) = 4 by decide)
 · rw [folB_iff] at hf
   dsimp only [evA, evS] at hf
   rcases (h.ev b hb).kd with k | ⟨k0, k | k | k | k⟩
   · omega
   · omega
   · omega
   · omega
   · rcases hf with hf | hf | hf | hf
     · omega
     · have := k.2.2.2
       rw [← hf.2.2.1] at this
       omega
     · omega
     · omega
 · rw [folB_iff] at hf
   dsimp only [evA, evS] at hf
   omega
theorem OutOk.addRel {nd ns : Nat} {lat id pe : Int} {s : Mk} {na : Nat} {msg r : Int} {gr gr' : Int → Int} (h : OutOk nd ns lat id pe s.out na msg gr s.now) (i : Nat) (hi : AddAt nd id s i) (h0 : 0 ≤ r) (h1 : r < 3) (hg0 : 0 ≤ gr r) (hg : ∀ q, 0 ≤ q → q < 3 → gr q ≤ gr' q) (hr : gr r < gr' r) : OutOk nd ns lat id pe (addM s i (evS 6 r (gr r))).out na msg gr' (addM s i (evS 6 r (gr r))).now := by
 refine h.add (Nat.le_refl _) (Int.le_refl _) hg i hi _ (.inr ⟨⟨rfl, rfl, rfl⟩, .inr (.inr (.inr ⟨rfl, ⟨h0, h1⟩, hg0, hr⟩))⟩) (fun a _ _ h4 _ => ?_) (fun b hb hf => ?_) (fun hf => ?_)
 · exact absurd h4 (show ¬ (6 : Int) = 4 by decide)
 · rw [folB_iff] at hf
   dsimp only [evA, evS] at hf
   rcases (h.ev b hb).kd with k | ⟨k0, k | k | k | k⟩
   · omega
   · omega
   · omega
   · rcases hf with hf | hf | hf | hf
     · omega
     · omega
     · have := k.2.2.2
       rw [← hf.2.2.1] at this
       omega
     · omega
   · omega
 · rw [folB_iff] at hf
   dsimp only [evA, evS] at hf
   omega
theorem OutOk.addBeg {nd ns : Nat} {lat id pe : Int} {s : Mk} {na : Nat} {msg p n : Int} {gr : Int → Int} (h : OutOk nd ns lat id pe s.out na msg gr s.now) (hi : AddAt nd id s na) (h0 : -1 ≤ p) (h1 : p < (na : Int)) (hns : 1 ≤ ns) : OutOk nd ns lat id pe (addM s na ⟨0, 0, 0, 1, 0, 0, p, 0, pick8 n ns, pick8 (n.tdiv 7) 3, pe, 0⟩).out (na + 1) msg gr (addM s na ⟨0, 0, 0, 1, 0, 0, p, 0, pick8 n ns, pick8 (n.tdiv 7) 3, pe, 0⟩).now := by
 refine h.add (Nat.le_succ _) (Int.le_refl _) (fun _ _ _ => Int.le_refl _) na hi _ (.inl ⟨rfl, ⟨h0, h1, ?_⟩, rfl, ⟨pick8_lo (by omega), pick8_hi (by omega)⟩, ⟨pick8_lo (by decide), pick8_hi (by decide)⟩, rfl⟩) (fun a _ _ h4 _ => ?_) (fun b hb hf => ?_) (fun hf => ?_)
 · show (na : Int) < ((na + 1 : Nat) : Int); omega
 · exact absurd h4 (show ¬ (1 : Int) = 4 by decide)
 · rw [folB_iff] at hf
   dsimp only [evA] at hf
   rcases (h.ev b hb).kd with k | ⟨k0, k | k | k | k⟩ <;> omega
 · rw [folB_iff] at hf
   dsimp only [evA] at hf
   omega
end Go.Proofs.YtamefmojocegkaaDoor

namespace Go.Proofs.YtamefmojocegkaaDoor
open Go Go.Proofs Go.RowKit Go.Lib
def heldN (s : Mk) : Nat := s.hol.countP fun x => decide (0 ≤ x)
def openN (s : Mk) : Nat := s.opn.countP fun x => x
def potN (s : Mk) : Nat := s.out.length + 3 * openN s + heldN s
theorem countP_set8 {α : Type} (p : α → Bool) : ∀ (l : List α) (i : Nat) (h : i < l.length) (x : α), (l.set i x).countP p + (if p l[i] = true then 1 else 0) = l.countP p + (if p x = true then 1 else 0)
 | [], i, h, _ => absurd h (Nat.not_lt_zero _)
 | a :: l, 0, h, x => by
  simp only [List.set_cons_zero, List.getElem_cons_zero, List.countP_cons]
  omega
 | a :: l, i + 1, h, x => by
  have := countP_set8 p l i (by simpa using h) x
  simp only [List.set_cons_succ, List.getElem_cons_succ, List.countP_cons]
  omega
theorem getD_of8 {α : Type} {l : List α} {i : Nat} {d : α} (h : i < l.length) : l.getD i d = l[i] := by rw [List.getD_eq_getElem?_getD, List.getElem?_eq_getElem h]; rfl
structure InvM (nd ns : Nat) (lat id pe : Int) (s : Mk) : Prop where
 out : OutOk nd ns lat id pe s.out s.ags.length s.msg s.gr s.now
 ag : ∀ i, i < s.ags.length → 0 ≤ s.ags.getD i 0 ∧ s.ags.getD i 0 < (nd : Int)
 id : s.id = id
 n0 : 0 ≤ s.now
 m : 0 ≤ s.msg ∧ s.msg ≤ (s.out.length : Int)
 g : ∀ r, 0 ≤ r → r < 3 → 0 ≤ s.gr r ∧ s.gr r ≤ (s.out.length : Int)
 cnt : 3 * s.ags.length + heldN s ≤ s.out.length + 2
 wf : Wf s
theorem InvM.at_ {nd ns : Nat} {lat id pe : Int} {s : Mk} (h : InvM nd ns lat id pe s) {i : Nat} (hi : i < s.ags.length) : AddAt nd id s i := ⟨by have := h.wf.l4; omega, h.ag i hi, h.id, h.n0⟩
theorem InvM.later {nd ns : Nat} {lat id pe : Int} {s : Mk} (h : InvM nd ns lat id pe s) (x : Int) (hx : 0 ≤ x) : InvM nd ns lat id pe { s with now := s.now + x } :=
 ⟨h.out.mono (Nat.le_refl _) (Int.le_refl _) (fun _ _ _ => Int.le_refl _) (by show s.now ≤ s.now + x; omega), h.ag, h.id, by have := h.n0; show 0 ≤ s.now + x; omega, h.m, h.g, h.cnt, h.wf.later _⟩
theorem gr_cases {r : Int} (h0 : 0 ≤ r) (h1 : r < 3) : r = 0 ∨ r = 1 ∨ r = 2 := by omega
theorem held_lt {s : Mk} {i : Nat} (h : ¬ s.hol.getD i 0 < 0) (hi : i < s.hol.length) : ({ s with hol := s.hol.set i (-1) } : Mk).hol.countP (fun x => decide (0 ≤ x)) + 1 = heldN s := by
 have := countP_set8 (fun x : Int => decide (0 ≤ x)) s.hol i hi (-1)
 rw [getD_of8 hi] at h
 rw [if_pos (by rw [decide_eq_true_eq]; omega), if_neg (by decide)] at this
 show List.countP _ (s.hol.set i (-1)) + 1 = _
 unfold heldN
 omega
theorem bump_eq (s : Mk) (r : Int) : (s.bump r).id = s.id ∧ (s.bump r).now = s.now ∧ (s.bump r).out = s.out ∧ (s.bump r).ags = s.ags ∧ (s.bump r).msg = s.msg ∧ (s.bump r).opn = s.opn := by
 unfold Mk.bump
 split
 · exact ⟨rfl, rfl, rfl, rfl, rfl, rfl⟩
 · split <;> exact ⟨rfl, rfl, rfl, rfl, rfl, rfl⟩
theorem bump_gr (s : Mk) {r q : Int} (h0 : 0 ≤ r) (h1 : r < 3) (h2 : 0 ≤ q) (h3 : q < 3) : (s.bump r).gr q = s.gr q + (if q = r then 1 else 0) := by
 rcases gr_cases h0 h1 with rfl | rfl | rfl <;> rcases gr_cases h2 h3 with rfl | rfl | rfl <;> simp [Mk.bump, Mk.gr]
theorem relM_pos {s : Mk} {i : Nat} (h : ¬ s.hol.getD i 0 < 0) : relM s i = { ((addM s i (evS 6 (s.hol.getD i 0) (s.gr (s.hol.getD i 0)))).bump (s.hol.getD i 0)) with hol := s.hol.set i (-1) } := by
 unfold relM
 rw [if_neg h]
 rfl
theorem relM_neg {s : Mk} {i : Nat} (h : s.hol.getD i 0 < 0) : relM s i = s := by
 unfold relM
 rw [if_pos h]
theorem InvM.rel {nd ns : Nat} {lat id pe : Int} {s : Mk} (h : InvM nd ns lat id pe s) {i : Nat} (hi : i < s.ags.length) : InvM nd ns lat id pe (relM s i) ∧ potN (relM s i) ≤ potN s ∧ (relM s i).opn = s.opn ∧ (relM s i).ags = s.ags ∧ (relM s i).pars = s.pars := by
 obtain ⟨q1, q2, q3, q4⟩ := relM_rows s i
 by_cases hn : s.hol.getD i 0 < 0
 · rw [relM_neg hn]
   exact ⟨h, Nat.le_refl _, rfl, rfl, rfl⟩
 · have hw := h.wf.rel i
   have hl : i < s.hol.length := by rw [h.wf.h]; exact hi
   have hr := h.wf.hh i
   have e := relM_pos hn
   have hc := held_lt hn hl
   generalize s.hol.getD i 0 = r at *
   have h0 : 0 ≤ r := by omega
   obtain ⟨b1, b2, b3, b4, b5, b6⟩ := bump_eq (addM s i (evS 6 r (s.gr r))) r
   have hg := h.g r h0 hr
   have e1 : (relM s i).out = s.out ++ [⟨evA s i (evS 6 r (s.gr r)), s.now⟩] := by rw [e]; exact b3
   have e2 : (relM s i).now = s.now + 1 := by rw [e]; exact b2
   have e3 : (relM s i).msg = s.msg := by rw [e]; exact b5
   have e4 : (relM s i).id = s.id := by rw [e]; exact b1
   have e5 : ∀ q, 0 ≤ q → q < 3 → (relM s i).gr q = s.gr q + (if q = r then 1 else 0) := fun q z0 z1 => by rw [e]; exact bump_gr (addM s i (evS 6 r (s.gr r))) h0 hr z0 z1
   have e6 : heldN (relM s i) + 1 = heldN s := by rw [e]; exact hc
   have e7 : (relM s i).out.length = s.out.length + 1 := by rw [e1]; simp
   have ho := h.out.addRel (gr' := (relM s i).gr) i (h.at_ hi) h0 hr hg.1 (fun q z0 z1 => by rw [e5 q z0 z1]; split <;> omega) (by rw [e5 r h0 hr, if_pos rfl]; omega)
   refine ⟨⟨?_, ?_, ?_, ?_, ?_, ?_, ?_, hw⟩, ?_, q3, q1, q2⟩
   · rw [e1, e2, e3, q1]; exact ho
   · rw [q1]; exact h.ag
   · rw [e4]; exact h.id
   · rw [e2]; have := h.n0; omega
   · rw [e3, e7]; have := h.m; omega
   · intro q z0 z1
     rw [e5 q z0 z1, e7]
     have := h.g q z0 z1
     split <;> omega
   · rw [q1, e7]; have := h.cnt; omega
   · unfold potN openN
     rw [q3, e7]
     omega
theorem InvM.of {nd ns : Nat} {lat id pe : Int} {s s' : Mk} (h : InvM nd ns lat id pe s) (hw : Wf s') (h1 : s'.out = s.out) (h2 : s'.ags = s.ags) (h3 : s'.id = s.id) (h4 : s'.now = s.now) (h5 : s'.msg = s.msg) (h6 : s'.gr = s.gr) (h7 : s'.hol = s.hol) : InvM nd ns lat id pe s' :=
 ⟨by rw [h1, h2, h4, h5, h6]; exact h.out, by rw [h2]; exact h.ag, by rw [h3]; exact h.id, by rw [h4]; exact h.n0, by rw [h5, h1]; exact h.m, by rw [h6, h1]; exact h.g, by unfold heldN; rw [h2, h1, h7]; exact h.cnt, hw⟩
theorem InvM.shut {nd ns : Nat} {lat id pe : Int} {s : Mk} (h : InvM nd ns lat id pe s) {i : Nat} (hi : i < s.ags.length) (ho : s.opn.getD i false = true) : InvM nd ns lat id pe (shutM s i) ∧ potN (shutM s i) + 3 ≤ potN s ∧ (shutM s i).ags = s.ags ∧ (shutM s i).pars = s.pars := by
 obtain ⟨r1, r2, r3, r4, r5⟩ := h.rel hi
 have hl : i < (relM s i).opn.length := by rw [r3, h.wf.o]; exact hi
 have hc := countP_set8 (fun x : Bool => x) (relM s i).opn i hl false
 have ht : (relM s i).opn[i] = true := by rw [← getD_of8 (d := false) hl, r3]; exact ho
 rw [if_pos ht, if_neg (by decide)] at hc
 refine ⟨r1.of (h.wf.shut i) rfl rfl rfl rfl rfl rfl rfl, ?_, r4, r5⟩
 unfold potN openN heldN at r2 ⊢
 show (relM s i).out.length + 3 * List.countP _ ((relM s i).opn.set i false) + List.countP _ (relM s i).hol + 3 ≤ _
 omega
theorem InvM.addEnd {nd ns : Nat} {lat id pe : Int} {s : Mk} (h : InvM nd ns lat id pe s) {i : Nat} (hi : i < s.ags.length) : InvM nd ns lat id pe (addM s i (evS 2 0 0)) := by
 have e7 : (addM s i (evS 2 0 0)).out.length = s.out.length + 1 := by rw [addM_out]; simp
 refine ⟨h.out.addEnd i (h.at_ hi), h.ag, h.id, ?_, ?_, ?_, ?_, h.wf.add _ _⟩
 · have := h.n0; show 0 ≤ s.now + 1; omega
 · have := h.m; rw [e7]; show 0 ≤ s.msg ∧ s.msg ≤ _; omega
 · intro q z0 z1; have := h.g q z0 z1; rw [e7]; show 0 ≤ s.gr q ∧ s.gr q ≤ _; omega
 · have := h.cnt; rw [e7]; show 3 * s.ags.length + heldN s ≤ _; omega
theorem InvM.reply {nd ns : Nat} {lat id pe : Int} {s : Mk} (h : InvM nd ns lat id pe s) (l0 : 0 ≤ lat) {i up : Nat} (hi : i < s.ags.length) (hu : up < s.ags.length) : InvM nd ns lat id pe (replyM lat s i up) := by
 have o1 := h.out.addSend i (h.at_ hi) h.m.1
 have a1 : AddAt nd id (addM s i (evS 3 s.msg 0)) i := ⟨(h.at_ hi).i9, h.ag i hi, h.id, by have := h.n0; show 0 ≤ s.now + 1; omega⟩
 have o2 := o1.addEnd i a1
 generalize hs1 : addM s i (evS 3 s.msg 0) = s1 at *
 have o3 : OutOk nd ns lat id pe ({ addM s1 i (evS 2 0 0) with now := (addM s1 i (evS 2 0 0)).now + lat } : Mk).out s.ags.length (s.msg + 1) s.gr ({ addM s1 i (evS 2 0 0) with now := (addM s1 i (evS 2 0 0)).now + lat } : Mk).now := o2.mono (Nat.le_refl _) (Int.le_refl _) (fun _ _ _ => Int.le_refl _) (by show _ ≤ (addM s1 i (evS 2 0 0)).now + lat; omega)
 have n1 : s1.now = s.now + 1 := by rw [← hs1]; rfl
 have u1 : s1.out = s.out ++ [⟨evA s i (evS 3 s.msg 0), s.now⟩] := by rw [← hs1]; rfl
 have g1 : s1.ags = s.ags := by rw [← hs1]; rfl
 have d1 : s1.id = s.id := by rw [← hs1]; rfl
 have a3 : AddAt nd id ({ addM s1 i (evS 2 0 0) with now := (addM s1 i (evS 2 0 0)).now + lat } : Mk) up := ⟨by have := h.wf.l4; omega, by show 0 ≤ s1.ags.getD up 0 ∧ s1.ags.getD up 0 < _; rw [g1]; exact h.ag up hu, by show s1.id = id; rw [d1]; exact h.id, by have := h.n0; show 0 ≤ s1.now + 1 + lat; omega⟩
 have o4 := o3.addRecv (m := s.msg) up a3 h.m.1 (by omega) (fun a ha k1 k2 => by
  show a.t + lat ≤ s1.now + 1 + lat
  have ha : a ∈ (s1.out ++ [⟨evA s1 i (evS 2 0 0), s1.now⟩]) := ha
  rw [u1, List.append_assoc] at ha
  rcases List.mem_append.1 ha with ha | ha
  · have := (h.out.t a ha).2; omega
  · rcases List.mem_append.1 ha with ha | ha
    · rw [List.mem_singleton.1 ha]; show s.now + lat ≤ _; omega
    · rw [List.mem_singleton.1 ha] at k1; exact absurd k1 (by show ¬ (2 : Int) = 3; decide))
 have em : s1.msg = s.msg := by rw [← hs1]; rfl
 have eg : s1.gr = s.gr := by rw [← hs1]; rfl
 have eh : s1.hol = s.hol := by rw [← hs1]; rfl
 have hrep : replyM lat s i up = { addM ({ addM s1 i (evS 2 0 0) with now := (addM s1 i (evS 2 0 0)).now + lat } : Mk) up (evS 4 s.msg 0) with msg := s.msg + 1 } := by
  rw [← hs1]; rfl
 have hwf : Wf (replyM lat s i up) := h.wf.of (by rw [hrep]; exact g1) (by rw [hrep, ← hs1]; rfl) (by rw [hrep, ← hs1]; rfl) (by rw [hrep]; exact eh)
 have e7 : (replyM lat s i up).out.length = s.out.length + 3 := by
  rw [hrep]
  show ((s1.out ++ [_]) ++ [_]).length = _
  rw [u1]; simp
 refine ⟨?_, ?_, ?_, ?_, ?_, ?_, ?_, hwf⟩
 · rw [show (replyM lat s i up).ags = s.ags by rw [hrep]; exact g1, show (replyM lat s i up).gr = s.gr by rw [hrep]; exact eg, show (replyM lat s i up).msg = s.msg + 1 by rw [hrep]]
   rw [hrep]
   exact o4
 · rw [show (replyM lat s i up).ags = s.ags by rw [hrep]; exact g1]; exact h.ag
 · rw [hrep]; show s1.id = id; rw [d1]; exact h.id
 · rw [hrep]; have := h.n0; show 0 ≤ s1.now + 1 + lat + 1; omega
 · rw [e7, show (replyM lat s i up).msg = s.msg + 1 by rw [hrep]]; have := h.m; omega
 · intro q z0 z1
   rw [e7, show (replyM lat s i up).gr = s.gr by rw [hrep]; exact eg]
   have := h.g q z0 z1; omega
 · rw [e7, show (replyM lat s i up).ags = s.ags by rw [hrep]; exact g1, show heldN (replyM lat s i up) = heldN s by unfold heldN; rw [show (replyM lat s i up).hol = s.hol by rw [hrep]; exact eh]]
   have := h.cnt; omega
theorem reply_pot (lat : Int) (s : Mk) (i up : Nat) : potN (replyM lat s i up) = potN s + 3 := by
 have e7 : (replyM lat s i up).out.length = s.out.length + 3 := by
  show (((s.out ++ [_]) ++ [_]) ++ [_]).length = _
  simp
 have e8 : openN (replyM lat s i up) = openN s := rfl
 have e9 : heldN (replyM lat s i up) = heldN s := rfl
 unfold potN
 omega
theorem InvM.end_ {nd ns : Nat} {lat id pe : Int} {s : Mk} (h : InvM nd ns lat id pe s) (l0 : 0 ≤ lat) {i : Nat} (hi : i < s.ags.length) (ho : s.opn.getD i false = true) (b : Bool) : InvM nd ns lat id pe (endM lat s i b) ∧ potN (endM lat s i b) ≤ potN s := by
 obtain ⟨h1, h2, h3, h4⟩ := h.shut hi ho
 have hi' : i < (shutM s i).ags.length := by rw [h3]; exact hi
 unfold endM
 split
 · refine ⟨h1.addEnd hi', ?_⟩
   have e7 : (addM (shutM s i) i (evS 2 0 0)).out.length = (shutM s i).out.length + 1 := by rw [addM_out]; simp
   have e8 : potN (addM (shutM s i) i (evS 2 0 0)) = potN (shutM s i) + 1 := by
    have a1 : openN (addM (shutM s i) i (evS 2 0 0)) = openN (shutM s i) := rfl
    have a2 : heldN (addM (shutM s i) i (evS 2 0 0)) = heldN (shutM s i) := rfl
    unfold potN
    omega
   show potN (addM (shutM s i) i (evS 2 0 0)) ≤ _
   omega
 · rename_i hc
   have hup := h1.wf.hp i
   have hge : ¬ (shutM s i).pars.getD i 0 < 0 := fun e => hc (.inl e)
   refine ⟨h1.reply l0 hi' (by omega), ?_⟩
   rw [reply_pot]
   omega
theorem InvM.acq {nd ns : Nat} {lat id pe : Int} {s : Mk} (h : InvM nd ns lat id pe s) {p : Nat} (hp : p < s.ags.length) (d : D4) : InvM nd ns lat id pe (acqM s p d) ∧ potN (acqM s p d) ≤ potN s + 2 := by
 have hw := h.wf.acq p d
 by_cases hc : s.tk (pick8 d.c 3) = false ∧ s.hol.getD p 0 < 0
 · have e : acqM s p d = { ((addM s p (evS 5 (pick8 d.c 3) (s.gr (pick8 d.c 3)))).take_ (pick8 d.c 3)) with hol := s.hol.set p (pick8 d.c 3) } := by unfold acqM; rw [if_pos hc]
   have r0 := pick8_lo (c := d.c) (n := 3) (by decide)
   have r1 := pick8_hi (c := d.c) (n := 3) (by decide)
   generalize pick8 d.c 3 = r at *
   obtain ⟨b1, b2, b3, b4, b5, b6, b7, b8, b9, b10⟩ := take_eq (addM s p (evS 5 r (s.gr r))) r
   have hg := h.g r r0 r1
   have o1 := h.out.addAcq p (h.at_ hp) r0 r1 hg.1
   have e1 : (acqM s p d).out = s.out ++ [⟨evA s p (evS 5 r (s.gr r)), s.now⟩] := by rw [e]; exact b3
   have e2 : (acqM s p d).now = s.now + 1 := by rw [e]; exact b2
   have e3 : (acqM s p d).msg = s.msg := by rw [e]; exact b7
   have e4 : (acqM s p d).id = s.id := by rw [e]; exact b1
   have key : ∀ t : Mk, t.g0 = s.g0 → t.g1 = s.g1 → t.g2 = s.g2 → t.gr = s.gr := fun t x y z => by funext q; unfold Mk.gr; rw [x, y, z]
   have e5 : (acqM s p d).gr = s.gr := by rw [e]; exact key _ b8 b9 b10
   have eA : (acqM s p d).ags = s.ags := by rw [e]; exact b4
   have eO : (acqM s p d).opn = s.opn := by rw [e]; exact b6
   have hl : p < s.hol.length := by rw [h.wf.h]; exact hp
   have e6 : heldN (acqM s p d) = heldN s + 1 := by
    have hcp := countP_set8 (fun x : Int => decide (0 ≤ x)) s.hol p hl r
    have hneg := hc.2
    rw [getD_of8 hl] at hneg
    rw [if_neg (by rw [decide_eq_true_eq]; omega), if_pos (by rw [decide_eq_true_eq]; omega)] at hcp
    rw [e]
    unfold heldN
    show List.countP _ (s.hol.set p r) = _
    omega
   have e7 : (acqM s p d).out.length = s.out.length + 1 := by rw [e1]; simp
   refine ⟨⟨?_, ?_, ?_, ?_, ?_, ?_, ?_, hw⟩, ?_⟩
   · rw [e1, e2, e3, e5, eA]; exact o1
   · rw [eA]; exact h.ag
   · rw [e4]; exact h.id
   · rw [e2]; have := h.n0; omega
   · rw [e3, e7]; have := h.m; omega
   · intro q z0 z1; rw [e5, e7]; have := h.g q z0 z1; omega
   · rw [eA, e7, e6]; have := h.cnt; omega
   · unfold potN openN; rw [eO, e7, e6]; omega
 · have e : acqM s p d = s := by unfold acqM; rw [if_neg hc]
   rw [e]
   exact ⟨h, by omega⟩
theorem InvM.call {nd ns : Nat} {lat id pe : Int} {s : Mk} (h : InvM nd ns lat id pe s) (l0 : 0 ≤ lat) (hns : 1 ≤ ns) (hnd : 1 ≤ nd) {p : Nat} (hp : p < s.ags.length) (h4 : s.ags.length < 4) (d : D4) : InvM nd ns lat id pe (callM lat nd ns pe s p d) ∧ potN (callM lat nd ns pe s p d) = potN s + 6 := by
 have hw := h.wf.call h4 lat nd ns pe p hp d
 have o1 := h.out.addSend p (h.at_ hp) h.m.1
 have p0 := pick8_lo (c := d.d.tdiv 5) (n := 700000) (by decide)
 have a0 := pick8_lo (c := d.c) (n := (nd : Int)) (by omega)
 have a1 := pick8_hi (c := d.c) (n := (nd : Int)) (by omega)
 have c3n : (call3 lat nd s p d).now = s.now + 1 + lat + pick8 (d.d.tdiv 5) 700000 := rfl
 have c3o : (call3 lat nd s p d).out = s.out ++ [⟨evA s p (evS 3 s.msg 0), s.now⟩] := rfl
 have c3a : (call3 lat nd s p d).ags = s.ags ++ [pick8 d.c nd] := rfl
 have hag : (s.ags ++ [pick8 d.c (nd : Int)]).getD s.ags.length 0 = pick8 d.c (nd : Int) := by rw [getD_push8, if_neg (by omega), if_pos rfl]
 have o2 : OutOk nd ns lat id pe (call3 lat nd s p d).out s.ags.length (s.msg + 1) s.gr (call3 lat nd s p d).now := o1.mono (Nat.le_refl _) (Int.le_refl _) (fun _ _ _ => Int.le_refl _) (by rw [c3n]; show s.now + 1 ≤ _; omega)
 have at2 : AddAt nd id (call3 lat nd s p d) s.ags.length := ⟨by omega, by rw [c3a, hag]; exact ⟨a0, a1⟩, h.id, by rw [c3n]; have := h.n0; omega⟩
 have o3 := o2.addRecv (m := s.msg) s.ags.length at2 h.m.1 (by omega) (fun a ha k1 k2 => by
  rw [c3n]
  rw [c3o] at ha
  rcases List.mem_append.1 ha with ha | ha
  · have := (h.out.t a ha).2; omega
  · rw [List.mem_singleton.1 ha]; show s.now + lat ≤ _; omega)
 have c5n : (call5 lat nd s p d).now = (call3 lat nd s p d).now + 1 := rfl
 have at4 : AddAt nd id (rowsM (call5 lat nd s p d) p (pick8 d.c nd)) s.ags.length := ⟨by omega, by show 0 ≤ (s.ags ++ [pick8 d.c (nd : Int)]).getD s.ags.length 0 ∧ (s.ags ++ [pick8 d.c (nd : Int)]).getD s.ags.length 0 < _; rw [hag]; exact ⟨a0, a1⟩, h.id, by show 0 ≤ (call5 lat nd s p d).now; rw [c5n, c3n]; have := h.n0; omega⟩
 have o4 := OutOk.addBeg (s := rowsM (call5 lat nd s p d) p (pick8 d.c nd)) (p := (p : Int)) (n := d.c) o3 at4 (by omega) (by omega) hns
 have e7 : (callM lat nd ns pe s p d).out.length = s.out.length + 3 := by
  show (((s.out ++ [_]) ++ [_]) ++ [_]).length = _
  simp
 have eh : heldN (callM lat nd ns pe s p d) = heldN s := by
  unfold heldN
  show List.countP _ (s.hol ++ [-1]) = _
  rw [List.countP_append]; rfl
 have eo : openN (callM lat nd ns pe s p d) = openN s + 1 := by
  unfold openN
  show List.countP _ (s.opn ++ [true]) = _
  rw [List.countP_append]; rfl
 have ea : (callM lat nd ns pe s p d).ags = s.ags ++ [pick8 d.c nd] := rfl
 have el : (callM lat nd ns pe s p d).ags.length = s.ags.length + 1 := by rw [ea]; simp
 refine ⟨⟨?_, ?_, ?_, ?_, ?_, ?_, ?_, hw⟩, ?_⟩
 · rw [el]; exact o4
 · intro i hi
   rw [el] at hi
   rw [ea, getD_push8]
   split
   · rename_i hlt; exact h.ag i hlt
   · rw [if_pos (by omega)]; exact ⟨a0, a1⟩
 · exact h.id
 · show 0 ≤ (call5 lat nd s p d).now + 1; rw [c5n, c3n]; have := h.n0; omega
 · rw [e7]; have := h.m; show 0 ≤ s.msg + 1 ∧ s.msg + 1 ≤ _; omega
 · intro q z0 z1; rw [e7]; have := h.g q z0 z1; show 0 ≤ s.gr q ∧ s.gr q ≤ _; omega
 · rw [el, e7, eh]; have := h.cnt; omega
 · unfold potN; rw [e7, eo, eh]; omega
theorem InvM.step {nd ns : Nat} {lat id pe : Int} {s : Mk} (h : InvM nd ns lat id pe s) (l0 : 0 ≤ lat) (hns : 1 ≤ ns) (hnd : 1 ≤ nd) (d : D4) (h9 : s.out.length < 9) : InvM nd ns lat id pe (stepM lat nd ns pe s d) ∧ potN (stepM lat nd ns pe s d) ≤ 24 := by
 have hp := spanM_lt h.wf d
 have p0 := pick8_lo (c := d.d) (n := 4000000) (by decide)
 have hl : InvM nd ns lat id pe (laterM s d) := h.later _ p0
 have hp' : spanM s d < (laterM s d).ags.length := hp
 have ho := List.countP_le_length (p := fun x : Bool => x) (l := s.opn)
 have hpot : potN (laterM s d) ≤ 18 := by
  have e : potN (laterM s d) = potN s := rfl
  rw [e]
  have h1 := h.cnt
  have h2 := h.wf.o
  unfold potN
  have e3 : openN s = List.countP (fun x : Bool => x) s.opn := rfl
  omega
 unfold stepM doM
 split
 · exact ⟨hl, by omega⟩
 · rename_i hop
   have hop' : (laterM s d).opn.getD (spanM s d) false = true := by
    cases hh : (laterM s d).opn.getD (spanM s d) false with
    | true => rfl
    | false => exact absurd hh hop
   split
   · split
     · exact ⟨hl, by omega⟩
     · obtain ⟨x1, x2⟩ := hl.call l0 hns hnd hp' (by omega) d
       exact ⟨x1, by omega⟩
   · split
     · obtain ⟨x1, x2⟩ := hl.acq hp' d
       exact ⟨x1, by omega⟩
     · split
       · obtain ⟨x1, x2, _⟩ := hl.rel hp'
         exact ⟨x1, by omega⟩
       · split
         · obtain ⟨x1, x2⟩ := hl.end_ l0 hp' hop' (decide (d.c.tmod 2 = 0))
           exact ⟨x1, by omega⟩
         · exact ⟨hl, by omega⟩
theorem InvM.loop {nd ns : Nat} {lat id pe : Int} (l0 : 0 ≤ lat) (hns : 1 ≤ ns) (hnd : 1 ≤ nd) : ∀ (l : List D4) (s : Mk) (n : Nat), InvM nd ns lat id pe s → potN s ≤ 24 → InvM nd ns lat id pe (loopM lat nd ns pe s l n) ∧ potN (loopM lat nd ns pe s l n) ≤ 24
 | [], s, n, h, hp => ⟨h, hp⟩
 | d :: l, s, n, h, hp => by
  unfold loopM
  split
  · rename_i hc
    obtain ⟨x1, x2⟩ := h.step l0 hns hnd d hc.2
    exact InvM.loop l0 hns hnd l _ _ x1 x2
  · exact ⟨h, hp⟩
theorem end_rows (lat : Int) (s : Mk) (i : Nat) (b : Bool) : (endM lat s i b).ags = s.ags := by
 have h : (shutM s i).ags = s.ags := (relM_rows s i).1
 unfold endM
 split
 · exact h
 · exact h
theorem InvM.last {nd ns : Nat} {lat id pe : Int} (l0 : 0 ≤ lat) (id' : Int) : ∀ (j : Nat) (s : Mk), InvM nd ns lat id pe s → potN s ≤ 24 → j ≤ s.ags.length → InvM nd ns lat id pe (lastM lat id' j s) ∧ potN (lastM lat id' j s) ≤ 24
 | 0, s, h, hp, _ => ⟨h, hp⟩
 | j + 1, s, h, hp, hj => by
  unfold lastM
  split
  · rename_i ho
    have p0 := pick8_lo (c := id' + (j : Nat)) (n := 1000) (by decide)
    have hl := h.later (1000 * pick8 (id' + (j : Nat)) 1000) (by omega)
    obtain ⟨x1, x2⟩ := hl.end_ l0 (i := j) hj ho (decide (0 < (id' + (j : Nat)).tmod 3))
    exact InvM.last l0 id' j _ x1 (Nat.le_trans x2 hp) (by rw [end_rows]; show j ≤ s.ags.length; omega)
  · exact InvM.last l0 id' j s h hp (by omega)
theorem inv_start (nd ns : Nat) (lat id at_ person n : Int) (hns : 1 ≤ ns) (h0 : 0 ≤ at_) (ag : Int) (ha : 0 ≤ ag ∧ ag < (nd : Int)) : InvM nd ns lat (pick8 id 1000) person (begM ns (startM id at_) (-1) ag n person) ∧ potN (begM ns (startM id at_) (-1) ag n person) = 4 := by
 have hw := wf_start ns id at_ ag n person
 have o0 : OutOk nd ns lat (pick8 id 1000) person ([] : List Hp) 0 0 (startM id at_).gr at_ := ⟨(fun x hx => nomatch hx), (fun x hx => nomatch hx), List.Pairwise.nil, (fun x hx => nomatch hx)⟩
 have o1 := OutOk.addBeg (s := rowsM (startM id at_) (-1) ag) (p := -1) (n := n) o0 ⟨by decide, ha, rfl, h0⟩ (by decide) (by decide) hns
 refine ⟨⟨o1, ?_, rfl, ?_, ⟨Int.le_refl _, by show (0 : Int) ≤ 1; decide⟩, ?_, by show 3 * 1 + 0 ≤ 1 + 2; decide, hw⟩, rfl⟩
 · intro i hi
   have hi : i < 1 := hi
   obtain rfl : i = 0 := by omega
   exact ha
 · show 0 ≤ at_ + 1; omega
 · intro q z0 z1
   rcases gr_cases z0 z1 with rfl | rfl | rfl <;> exact ⟨Int.le_refl _, by show (0 : Int) ≤ 1; decide⟩
/-! ### what is not too great, at the end -/
theorem bd_loop {lat : Int} (l0 : 0 ≤ lat) (l1 : lat ≤ 1000000) (nd ns : Nat) (pe : Int) : ∀ (l : List D4) (s : Mk) (n k : Nat), s.bd k → n ≤ 60 → (loopM lat nd ns pe s l n).bd (k + 8 * (60 - n))
 | [], s, n, k, h, _ => h.mono (by omega)
 | d :: l, s, n, k, h, hn => by
  unfold loopM
  split
  · rename_i hc
    exact (bd_loop l0 l1 nd ns pe l _ _ _ (h.step lat l0 l1 nd ns pe d) (by omega)).mono (by omega)
  · exact h.mono (by omega)
theorem bd_last {lat : Int} (l0 : 0 ≤ lat) (l1 : lat ≤ 1000000) (id' : Int) : ∀ (j : Nat) (s : Mk) (k : Nat), s.bd k → (lastM lat id' j s).bd (k + 8 * j)
 | 0, s, k, h => h
 | j + 1, s, k, h => by
  unfold lastM
  have p0 := pick8_lo (c := id' + (j : Nat)) (n := 1000) (by decide)
  have p1 := pick8_hi (c := id' + (j : Nat)) (n := 1000) (by decide)
  split
  · exact (bd_last l0 l1 id' j _ _ ((h.later (1000 * pick8 (id' + (j : Nat)) 1000) (by omega) (by omega)).end_ lat l0 l1 j _)).mono (by omega)
  · exact (bd_last l0 l1 id' j _ _ h).mono (by omega)
theorem made_ok {lat : Int} (l0 : 0 ≤ lat) (l1 : lat ≤ 1000000) (nd ns : Nat) (hnd : 1 ≤ nd) (hns : 1 ≤ ns) (id at_ person : Int) (h0 : 0 ≤ at_) (h1 : at_ ≤ 10000000) (l : List D4) :
 ∃ s : Mk, madeN lat nd ns id at_ person l = s.out ∧ InvM nd ns lat (pick8 id 1000) person s ∧ s.out.length ≤ 24 ∧ s.now ≤ 160000000000 := by
 have a0 := pick8_lo (c := id) (n := (nd : Int)) (by omega)
 have a1 := pick8_hi (c := id) (n := (nd : Int)) (by omega)
 obtain ⟨s1, s2⟩ := inv_start nd ns lat id at_ person id hns h0 (pick8 id (nd : Int)) ⟨a0, a1⟩
 have b1 := bd_start ns id at_ (pick8 id (nd : Int)) id person h0 h1
 obtain ⟨r1, r2⟩ := InvM.loop l0 hns hnd l _ 0 s1 (by omega)
 have b2 := bd_loop l0 l1 nd ns person l _ 0 1 b1 (by decide)
 have hr : loopM lat nd ns person (begM ns (startM id at_) (-1) (pick8 id (nd : Int)) id person) l 0 = runM lat nd ns id at_ person l := rfl
 rw [hr] at r1 r2 b2
 obtain ⟨t1, t2⟩ := InvM.last l0 id (runM lat nd ns id at_ person l).ags.length _ r1 r2 (Nat.le_refl _)
 have b3 := bd_last l0 l1 id (runM lat nd ns id at_ person l).ags.length _ _ b2
 have hl4 := r1.wf.l4
 have hn := b3.2.1
 refine ⟨_, rfl, t1, ?_, ?_⟩
 · unfold potN at t2; omega
 · omega
end Go.Proofs.YtamefmojocegkaaDoor

namespace Go.Proofs.YtamefmojocegkaaDoor
open Go Go.Proofs Go.RowKit Go.Lib
structure Sv where
 ad : Option Addr
 n : Nat
 c : Nat
def KS : RowK Sv where
 n := 1
 bytes := 24
 et := 74
 st := 72
 zero := .slice none 0 0
 cs := fun x => [.slice x.ad x.n x.c]
 len := fun _ => rfl
 one := fun x u hu => by
  simp at hu
  subst hu
  rfl
 pos := by decide
 bb := by decide
 und := by kernel_rfl
 elem := by kernel_rfl
 info := by kernel_rfl
 zs := rfl
def StAt (W : World) (ad : Option Addr) (ls : List (List Hp)) : Prop := ∃ vs : List Sv, RL KS W ad vs ∧ vs.length = ls.length ∧ ∀ i (h : i < vs.length), vs[i].n = (ls.getD i []).length ∧ RL KH W vs[i].ad (ls.getD i [])
def ofL (ls : List (List Hp)) (id : Int) : List Hp := ls.flatten.filter fun h => h.e.tr == id
def ofP (ls : List (List Hp)) (id : Int) (k q : Nat) : List Hp := ofL (ls.take k) id ++ ((ls.getD k []).take q).filter fun h => h.e.tr == id
theorem ofP_zero (ls : List (List Hp)) (id : Int) (k : Nat) : ofP ls id k 0 = ofL (ls.take k) id := by unfold ofP; simp
theorem ofP_step (ls : List (List Hp)) (id : Int) (k q : Nat) (hq : q < (ls.getD k []).length) : ofP ls id k (q + 1) = ofP ls id k q ++ (if (ls.getD k [])[q].e.tr == id then [(ls.getD k [])[q]] else []) := by
 unfold ofP
 rw [List.take_succ_eq_append_getElem hq, List.filter_append, ← List.append_assoc]
 congr 1
 simp only [List.filter_cons, List.filter_nil]
theorem ofP_end (ls : List (List Hp)) (id : Int) (k : Nat) (hk : k < ls.length) : ofP ls id k (ls.getD k []).length = ofP ls id (k + 1) 0 := by
 rw [ofP_zero]
 unfold ofP ofL
 rw [List.take_length, List.take_succ_eq_append_getElem hk, List.flatten_append, List.filter_append]
 congr 1
 rw [List.getD_eq_getElem?_getD, List.getElem?_eq_getElem hk]
 simp
theorem ofP_le (ls : List (List Hp)) (id : Int) (k q : Nat) : (ofP ls id k q).length ≤ (ofL ls id).length := by
 unfold ofP ofL
 by_cases hk : k < ls.length
 · have e : ls = ls.take k ++ ls[k] :: ls.drop (k + 1) := by rw [← List.drop_eq_getElem_cons hk, List.take_append_drop]
   have e2 : (ls.flatten.filter fun h => h.e.tr == id) = ((ls.take k).flatten.filter fun h => h.e.tr == id) ++ ((ls[k].filter fun h => h.e.tr == id) ++ ((ls.drop (k + 1)).flatten.filter fun h => h.e.tr == id)) := by
    conv => lhs; rw [e]
    rw [List.flatten_append, List.filter_append, List.flatten_cons, List.filter_append]
   rw [e2, List.length_append, List.length_append, List.length_append]
   have h3 : ((ls.getD k []).take q).filter (fun h => h.e.tr == id) = (ls[k].take q).filter fun h => h.e.tr == id := by rw [List.getD_eq_getElem?_getD, List.getElem?_eq_getElem hk]; rfl
   rw [h3]
   have := (List.Sublist.filter (fun h : Hp => h.e.tr == id) (List.take_sublist q ls[k])).length_le
   omega
 · rw [List.getD_eq_getElem?_getD, List.getElem?_eq_none (by omega), List.take_of_length_le (by omega)]
   simp
theorem RL.hp {W : World} {ad : Option Addr} {l : List Hp} (h : RL KH W ad l) (k : Nat) (hk : k < l.length) : ∃ b o, ad = some ⟨b, o, none⟩ ∧ b < W.heap.size ∧ ∀ W', Below W.heap.size W W' → EvCells W' b (o + 13 * k) l[k].e ∧ W'.cell? ⟨b, o + 13 * k + 12, none⟩ = some (.int .i64 l[k].t) := by
 obtain ⟨b, o, h1, h2, h3⟩ := h.at_ k hk
 refine ⟨b, o, h1, h2, fun W' hb => ?_⟩
 have := h3 W' hb
 exact ⟨⟨this 0 (by decide), this 1 (by decide), this 2 (by decide), this 3 (by decide), this 4 (by decide), this 5 (by decide), this 6 (by decide), this 7 (by decide), this 8 (by decide), this 9 (by decide), this 10 (by decide), this 11 (by decide)⟩, this 12 (by decide)⟩
theorem at_hp8 (g o n c k : Nat) (hk : k < n) (w : World) : (Instr.indexAt 74 (.slice (some ⟨g, o, none⟩) n c) (.int .i64 (k : Int))).run Tryd.prog w = .ok (.pointer (some ⟨g, o + 13 * k, none⟩)) w := KH.at_ g o n c k hk w
theorem at_st8 (g o n c k : Nat) (hk : k < n) (w : World) : (Instr.indexAt 72 (.slice (some ⟨g, o, none⟩) n c) (.int .i64 (k : Int))).run Tryd.prog w = .ok (.pointer (some ⟨g, o + k, none⟩)) w := by
 have := KS.at_ g o n c k hk w
 rw [show o + KS.n * k = o + k by show o + 1 * k = _; omega] at this
 exact this
def OfPost (w : World) (l : List Hp) (e : Ending) (w' : World) : Prop := ∃ a1 c1 a2 c2, e = .returned (.tuple #[.slice a1 l.length c1, .slice a2 l.length c2]) ∧ (a1 = none → c1 = 0) ∧ (a2 = none → c2 = 0) ∧ RN KE w' w.heap.size a1 (l.map (·.e)) ∧ RN KI w' w.heap.size a2 (l.map (·.t)) ∧ Below w.heap.size w w'
theorem Own.rn0 {T : Type} {K : RowK T} {W : World} {base : Nat} {v : Value} {l : List T} (h : Own K W base v l) : ∃ ad c, v = .slice ad l.length c ∧ (ad = none → c = 0) ∧ RN K W base ad l := by
 obtain ⟨ad, c, e, _, hr⟩ := h.rn
 refine ⟨ad, c, e, fun hn => ?_, hr⟩
 subst hn
 rcases h.2 with ⟨hv, _⟩ | ⟨g, cap, cur, hv, _⟩
 · rw [e] at hv; injection hv
 · rw [e] at hv; injection hv with e1; cases e1
def Two8 (W : World) (base : Nat) (u v : Value) (l : List Hp) : Prop := Own KE W base u (l.map (·.e)) ∧ Own KI W base v (l.map (·.t)) ∧ ∀ j, u.ownBlock = some j → v.ownBlock ≠ some j
theorem Two8.up {n base : Nat} {W W' : World} {u v : Value} {l : List Hp} (h : Two8 W base u v l) (b : Below n W W') (hn : W.heap.size ≤ n) : Two8 W' base u v l := ⟨h.1.below b hn, h.2.1.below b hn, h.2.2⟩
theorem ofR_any (ad : Option Addr) (c : Nat) (ls : List (List Hp)) (id : Int) (hl : ls.length ≤ 1000) (hl2 : ∀ i, (ls.getD i []).length ≤ 10000) (hlo : (ofL ls id).length ≤ 10000000) (w : World) (hs : StAt w ad ls) :
 Calls Tryd.prog 39 #[.slice ad ls.length c, .int .i64 id] w (OfPost w (ofL ls id)) := by
 obtain ⟨vs, hr, hvl, hvs⟩ := hs
 have HVS := Lib.hid hvs
 have HRS := Lib.hid hr
 have HVL := Lib.hid hvl
 have HL2 := Lib.hid hl2
 have HLE := Lib.hid (show ∀ k q, k ≤ ls.length → (ofP ls id k q).length ≤ (ofL ls id).length from fun k q hk => ofP_le ls id k q)
 have HSTEP := Lib.hid (fun k q hq => ofP_step ls id k q hq); have HSE := Lib.hid (fun k hk => ofP_end ls id k hk)
 have HFIN := Lib.hid (show ofP ls id ls.length 0 = ofL ls id by rw [ofP_zero, List.take_length])
 have HZ0 := Lib.hid (show ofP ls id 0 0 = [] by rw [ofP_zero]; rfl)
 have HLO := Lib.hid hlo
 clear hr hvl hvs hl2 hlo
 go_enter Tryd.func39, Tryd.ntmps39
 go_wp2_with fail
 go_loopw [6, 7, 8] (fun u v i wr => ∃ k : Nat, k ≤ ls.length ∧ i = .int .i64 k ∧ Hid (Two8 wr w.heap.size u v (ofP ls id k 0)) ∧ Hid (Below w.heap.size w wr)) (fun _ _ i _ => ls.length - (RowKit.intOf i).toNat)
 case atStart => exact ⟨0, Nat.zero_le _, rfl, Lib.hid ⟨by rw [HZ0.out]; exact Own.nil _ _ _, by rw [HZ0.out]; exact Own.nil _ _ _, fun j h => by cases h⟩, Lib.hid (Below.refl _ _)⟩
 case round =>
  obtain ⟨k, hk, rfl, HO, HB⟩ := hrel
  generalize wr = w2 at *
  by_cases hlt : k < ls.length
  · have hki : (k : Int) < (ls.length : Int) := by omega
    have hkv : k < vs.length := by rw [HVL.out]; exact hlt
    obtain ⟨sb, so, rfl, hsb, hsc⟩ := HRS.out.at_ k hkv
    obtain ⟨hn, hrl⟩ := HVS.out k hkv
    have HSC := Lib.hid (show ∀ W, Below w.heap.size w W → W.cell? ⟨sb, so + k, none⟩ = some (.slice (vs[k]'hkv).ad (ls.getD k []).length (vs[k]'hkv).c) from fun W b => by
     have := hsc W b 0 (by decide)
     rw [show so + KS.n * k + 0 = so + k by show so + 1 * k + 0 = _; omega] at this
     rw [this, ← hn]; rfl)
    have is := fun W => at_st8 sb so ls.length c k hlt W
    have HRL := Lib.hid hrl
    have HLT := Lib.hid hlt
    have HNX := Lib.hid (HSE.out k hlt)
    have hln := HL2.out k
    have HST := Lib.hid (HSTEP.out k)
    have HLEK := Lib.hid (fun q => Nat.le_trans (HLE.out k q hk) HLO.out)
    generalize (vs[k]'hkv).ad = ha at *
    generalize (vs[k]'hkv).c = hcp at *
    generalize ls.getD k [] = hs at *
    clear hsc hn hrl hlt hkv hsb
    go_wp2_with fail
    go_loopw [6, 7, 9] (fun u v i wr => ∃ q : Nat, q ≤ hs.length ∧ i = .int .i64 q ∧ Hid (Two8 wr w.heap.size u v (ofP ls id k q)) ∧ Hid (Below w.heap.size w wr)) (fun _ _ i _ => hs.length - (RowKit.intOf i).toNat)
    case atStart => exact ⟨0, Nat.zero_le _, rfl, HO, HB⟩
    case round =>
     clear HO HB
     obtain ⟨q, hq, rfl, HO, HB⟩ := hrel
     generalize wr = w3 at *
     have s0 := HSC.out w3 HB.out
     by_cases hqt : q < hs.length
     · have hqi : (q : Int) < (hs.length : Int) := by omega
       obtain ⟨hb, ho, rfl, hhb, hhc⟩ := HRL.out.hp q hqt
       have ih := fun W => at_hp8 hb ho hs.length hcp q hqt W
       have HSQ := Lib.hid (HST.out q hqt)
       have HQT := Lib.hid hqt
       have HHC := Lib.hid hhc
       have HLQ := Lib.hid (show (ofP ls id k q).length + 1 ≤ 100000000 by have := HLEK.out q; omega)
       obtain ⟨⟨e0, e1, e2, e3, e4, e5, e6, e7, e8, e9, e10, e11⟩, e12⟩ := hhc w3 HB.out
       generalize hs[q]'hqt = h at *
       generalize ofP ls id k q = L at *
       clear hhc hqt hhb
       cases ht : (h.e.tr == id) with
       | false =>
        have HS2 := Lib.hid (show ofP ls id k (q + 1) = L by rw [HSQ.out, ht]; simp)
        go_wp2_with fail
        go_roundw
        case rel => exact ⟨q + 1, HQT.out, by go_num, Lib.hid (by rw [HS2.out]; exact HO.out), HB⟩
        case measure => have h9 := HQT.out; simp [RowKit.intOf]; omega
       | true =>
        have HS2 := Lib.hid (show ofP ls id k (q + 1) = L ++ [h] by rw [HSQ.out, ht]; rfl)
        obtain ⟨o1, o2, o3⟩ := HO.out
        have HO1 := Lib.hid o1; have HO2 := Lib.hid o2; have HO3 := Lib.hid o3
        clear o1 o2 o3 HSQ
        have hwz : w.heap.size ≤ w3.heap.size := HB.out.size
        obtain ⟨w4, V4, Z4, K4, B4⟩ := lay8 w3 [.int .i64 h.e.ag, .int .i64 h.e.sq, .int .i64 h.e.tm, .int .i64 h.e.kd, .int .i64 h.e.tr, .int .i64 h.e.sp, .int .i64 h.e.lk, .int .i64 h.e.gn, .int .i64 h.e.op, .int .i64 h.e.vr, .int .i64 h.e.pe, .int .i64 h.e.bt] 46
        have K4 := Lib.hid (show CellsAt w4 w3.heap.size (KE.cs h.e) from K4)
        have B4 := Lib.hid B4
        go_upto_region 11 with (first | (at_builtin; refine walk_push8 KE (w0 := w4) rfl _ _ rfl w.heap.size u6 (L.map (·.e)) h.e rfl (HO1.out.below B4.out (Nat.le_refl _)) (Below.refl _ _) (by omega) w3.heap.size 1 rfl K4.out (by rw [List.length_map]; exact HLQ.out) ?_; intro y6 w6 ho6 hb6 hg6 hk6))
        have HB6 := Lib.hid (show Below w.heap.size w w6 from (HB.out.trans (B4.out.mono hwz)).trans hb6)
        have HO6 := Lib.hid ho6
        have HV6 := Lib.hid (own_grown8 (HO2.out.below B4.out (Nat.le_refl _)) hg6 (fun j e e2 => HO3.out j e2 e))
        have HN6 := Lib.hid (show ∀ j, y6.ownBlock = some j → u7.ownBlock ≠ some j from fun j e e2 => by
         rcases hk6 with hk | hk
         · exact HO3.out j (by rw [← hk]; exact e) e2
         · rw [hk] at e; injection e with e; have := (HO2.out.ge j e2).2; omega)
        have hwz6 : w.heap.size ≤ w6.heap.size := HB6.out.size
        clear e0 e1 e2 e3 e4 e5 e6 e7 e8 e9 e10 e11 e12 s0 ho6 hb6 hg6 hk6 V4
        obtain ⟨_, e12⟩ := HHC.out w6 HB6.out
        have s0 := HSC.out w6 HB6.out
        obtain ⟨w7, V7, Z7, K7, B7⟩ := lay8 w6 [.int .i64 h.t] 3
        have K7 := Lib.hid (show CellsAt w7 w6.heap.size (KI.cs h.t) from K7)
        have B7 := Lib.hid B7
        go_wp2_with (first | (at_builtin; refine walk_push8 KI (w0 := w7) rfl _ _ rfl w.heap.size u7 (L.map (·.t)) h.t rfl (HV6.out.below B7.out (Nat.le_refl _)) (Below.refl _ _) (by omega) w6.heap.size 1 rfl K7.out (by rw [List.length_map]; exact HLQ.out) ?_; intro y8 w8 ho8 hb8 hg8 hk8))
        have HB8 := Lib.hid (show Below w.heap.size w w8 from (HB6.out.trans (B7.out.mono hwz6)).trans hb8)
        have HO8 := Lib.hid (show Two8 w8 w.heap.size y6 y8 (L ++ [h]) from ⟨by rw [List.map_append]; exact own_grown8 (HO6.out.below B7.out (Nat.le_refl _)) hg8 (fun j e e2 => HN6.out j e e2), by rw [List.map_append]; exact ho8, fun j e e2 => by
         rcases hk8 with hk | hk
         · exact HN6.out j e (by rw [← hk]; exact e2)
         · rw [hk] at e2; injection e2 with e2; have := (HO6.out.ge j e).2; omega⟩)
        clear ho8 hb8 hg8 hk8 e12 s0 V7
        go_roundw
        case rel => exact ⟨q + 1, HQT.out, by go_num, Lib.hid (by rw [HS2.out]; exact HO8.out), HB8⟩
        case measure => have h9 := HQT.out; simp [RowKit.intOf]; omega
     · have hqe : q = hs.length := by omega
       have HQE := Lib.hid hqe
       have hqi : ¬ (q : Int) < (hs.length : Int) := by omega
       clear hqe hqt
       go_wp2_with fail
       go_roundw
       case rel => exact ⟨k + 1, HLT.out, by go_num, Lib.hid (by rw [← HNX.out, ← HQE.out]; exact HO.out), HB⟩
       case measure => have h9 := HLT.out; simp [RowKit.intOf]; omega
  · have hke : k = ls.length := by omega
    have HKE := Lib.hid hke
    have hki : ¬ (k : Int) < (ls.length : Int) := by omega
    obtain ⟨o1, o2, _⟩ := HO.out
    obtain ⟨a5, c5, e5, hn5, hr5⟩ := o1.rn0
    obtain ⟨a6, c6, e6, hn6, hr6⟩ := o2.rn0
    rw [List.length_map] at e5 e6
    subst e5 e6
    have HP := Lib.hid (show OfPost w (ofL ls id) (.returned (.tuple #[.slice a5 (ofP ls id k 0).length c5, .slice a6 (ofP ls id k 0).length c6])) w2 from by
     rw [HKE.out, HFIN.out] at hr5 hr6 ⊢
     exact ⟨a5, c5, a6, c6, rfl, hn5, hn6, hr5, hr6, HB.out⟩)
    clear o1 o2 hn5 hr5 hn6 hr6 hke hlt
    go_wp2_with fail
    go_ret2
    exact HP.out
end Go.Proofs.YtamefmojocegkaaDoor

namespace Go.Proofs.YtamefmojocegkaaDoor
open Go Go.Proofs Go.RowKit Go.Lib
theorem RL.cells8 {T : Type} {K : RowK T} {W : World} {b o : Nat} {l : List T} (h3 : ∀ i (h : i < l.length) j, j < K.n → W.cell? ⟨b, o + K.n * i + j, none⟩ = (K.cs l[i])[j]?) : ∀ j u, (K.vs l)[j]? = some u → W.cell? ((⟨b, o, none⟩ : Addr).add j) = some u := by
 intro j u hj
 have hlt : j < (K.vs l).length := by
  rcases Nat.lt_or_ge j (K.vs l).length with h | h
  · exact h
  · rw [List.getElem?_eq_none h] at hj; cases hj
 rw [K.vs_length] at hlt
 have hp := K.pos
 have hq : j / K.n < l.length := by rw [Nat.div_lt_iff_lt_mul hp]; exact hlt
 have hm : j % K.n < K.n := Nat.mod_lt _ hp
 have e : K.n * (j / K.n) + j % K.n = j := Nat.div_add_mod j K.n
 have := h3 _ hq _ hm
 rw [← K.vs_get l _ _ hq hm, e, hj] at this
 rw [add_at8, ← this]
 congr 2
 omega
theorem run_append_arg8 {T : Type} (K : RowK T) (w : World) (n : Nat) (ty : TypeId) (l : List T) (hn : n ≤ w.heap.size) (ad : Option Addr) (c : Nat) (hr : RL K w ad l) (hnone : ad = none → c = 0) (hl : l.length ≤ 100000000) (v : Value) (hown : Own K w n v []) :
 ∃ v' w', (Builtin.append_ #[K.st, K.st] ty #[v, .slice ad l.length c]).run Tryd.prog w = .ok v' w' ∧ Own K w' n v' l ∧ w.grownBy w' v.ownBlock := by
 obtain ⟨i0, hi, hz0, hz1, hz2⟩ := info_parts K.info
 rcases hr with hr | ⟨b, o, had, hb, h3⟩
 · subst hr
   cases ad with
   | none =>
    obtain rfl := hnone rfl
    refine ⟨v, w, ?_, hown, World.grownBy.refl _ _⟩
    exact run_append_owned_none (P := Tryd.prog) w n K.st ty K.et i0 K.n K.und hi v 0 _ hown
   | some a =>
    obtain ⟨v', w', h1, h2, h4, _⟩ := K.push w n ty v [] [] hown hn a 0 c rfl (fun j u hj => by simp [RowK.vs] at hj) (by simp)
    exact ⟨v', w', h1, h2, h4⟩
 · subst had
   obtain ⟨v', w', h1, h2, h4, _⟩ := K.push w n ty v [] l hown hn ⟨b, o, none⟩ l.length c rfl (RL.cells8 h3) (by simpa using hl)
   exact ⟨v', w', h1, by simpa using h2, h4⟩
theorem walk_arg8 {T : Type} (K : RowK T) {ops : Array Oper} {o : Oper} {rest : List Oper} {a : Act} {w : World} {Q : Exit → Act → World → Prop}
 (hgd : o.guard = none) (s x : Operand) (hop : o.op = Op.call { callee := Callee.builtin Builtin.append, args := #[s, x], argTypes := #[K.st, K.st] })
 (n : Nat) (v : Value) (l : List T) (hs : a.eval s = v) (hown : Own K w n v []) (hn : n ≤ w.heap.size) (ad : Option Addr) (c : Nat) (hx : a.eval x = .slice ad l.length c) (hr : RL K w ad l) (hnone : ad = none → c = 0) (hl : l.length ≤ 100000000)
 (hK : ∀ v' w', Own K w' n v' l → Below n w w' → wpList Tryd.prog ops Q rest (a.put o.dst v') w') : wpList Tryd.prog ops Q (o :: rest) a w := by
 refine wpList_plain hgd fun KK hK' => ?_
 obtain ⟨v', w', hrun, r1, r2⟩ := run_append_arg8 K w n o.type l hn ad c hr hnone hl v hown
 unfold Oper.wp
 simp [execOp, hop, resolve, invoke, builtin, hs, hx, hrun, Result.andThen]
 exact hK' _ _ (hK v' w' r1 ((Below.refl _ _).grown r2 hn (fun k hk => (hown.ge k hk).1)))
end Go.Proofs.YtamefmojocegkaaDoor

namespace Go.Proofs.YtamefmojocegkaaDoor
open Go Go.Proofs Go.RowKit Go.Lib
def zC : Cl := ⟨0, []⟩
def inSt (cs : List Cl) (ls : List (List Hp)) (x : Hp) : Prop := (0 ≤ x.e.ag ∧ x.e.ag < (ls.length : Int) ∧ (ls.getD x.e.ag.toNat []).length ≤ 999) ∧ readE (cs.getD x.e.ag.toNat zC) x.t = 0 ∧ 0 ≤ readV (cs.getD x.e.ag.toNat zC) x.t ∧ readV (cs.getD x.e.ag.toNat zC) x.t ≤ 1000000
noncomputable def hpSt (cs : List Cl) (ls : List (List Hp)) (x : Hp) : Hp := ⟨{ x.e with tm := readV (cs.getD x.e.ag.toNat zC) x.t, sq := ((ls.getD x.e.ag.toNat []).length : Nat) }, x.t⟩
noncomputable def str1 (cs : List Cl) (ls : List (List Hp)) (x : Hp) : List (List Hp) := @ite _ (inSt cs ls x) (Classical.propDecidable _) (ls.set x.e.ag.toNat (ls.getD x.e.ag.toNat [] ++ [hpSt cs ls x])) ls
theorem str1_yes {cs : List Cl} {ls : List (List Hp)} {x : Hp} (h : inSt cs ls x) : str1 cs ls x = ls.set x.e.ag.toNat (ls.getD x.e.ag.toNat [] ++ [hpSt cs ls x]) := by unfold str1; rw [if_pos h]
theorem str1_no {cs : List Cl} {ls : List (List Hp)} {x : Hp} (h : ¬ inSt cs ls x) : str1 cs ls x = ls := by unfold str1; rw [if_neg h]
noncomputable def strN (cs : List Cl) : List (List Hp) → List Hp → List (List Hp)
 | ls, [] => ls
 | ls, x :: l => strN cs (str1 cs ls x) l
theorem str1_len (cs : List Cl) (ls : List (List Hp)) (x : Hp) : (str1 cs ls x).length = ls.length := by
 by_cases h : inSt cs ls x
 · rw [str1_yes h]; simp
 · rw [str1_no h]
theorem strN_len (cs : List Cl) : ∀ (l : List Hp) (ls : List (List Hp)), (strN cs ls l).length = ls.length
 | [], _ => rfl
 | x :: l, ls => (strN_len cs l _).trans (str1_len cs ls x)
theorem lgetD_set8 {α : Type} {l : List (List α)} {i j : Nat} {x : List α} : (l.set i x).getD j [] = if i = j ∧ i < l.length then x else l.getD j [] := by
 rw [List.getD_eq_getElem?_getD, List.getD_eq_getElem?_getD, List.getElem?_set]
 by_cases h : i = j
 · subst h
   by_cases h2 : i < l.length
   · simp [h2]
   · rw [if_pos rfl, if_neg h2, if_neg (by omega), List.getElem?_eq_none (by omega)]
 · rw [if_neg h, if_neg (by omega)]
structure HpIn (cs : List Cl) (l : List Hp) (a : Nat) (h : Hp) : Prop where
 ag : h.e.ag = (a : Int)
 src : ∃ x ∈ l, h.e = { x.e with tm := h.e.tm, sq := h.e.sq } ∧ h.t = x.t
 rd : readE (cs.getD a zC) h.t = 0
 tm : h.e.tm = readV (cs.getD a zC) h.t
 t0 : 0 ≤ h.e.tm
 t1 : h.e.tm ≤ 1000000
 s0 : 0 ≤ h.e.sq
 s1 : h.e.sq ≤ 999
theorem HpIn.mono {cs : List Cl} {l l' : List Hp} {a : Nat} {h : Hp} (hh : HpIn cs l a h) (hs : ∀ x ∈ l, x ∈ l') : HpIn cs l' a h :=
 ⟨hh.ag, (by obtain ⟨x, h1, h2⟩ := hh.src; exact ⟨x, hs x h1, h2⟩), hh.rd, hh.tm, hh.t0, hh.t1, hh.s0, hh.s1⟩
structure StrOk (cs : List Cl) (l : List Hp) (ls : List (List Hp)) : Prop where
 el : ∀ a, ∀ h ∈ ls.getD a [], HpIn cs l a h
 srt : ∀ a, (ls.getD a []).Pairwise fun x y => x.e.sq < y.e.sq ∧ x.t ≤ y.t
 sq : ∀ a, ∀ h ∈ ls.getD a [], h.e.sq < ((ls.getD a []).length : Int)
 sum : (ls.map List.length).sum ≤ l.length
theorem sum_set8 {α : Type} : ∀ (ls : List (List α)) (i : Nat) (y : List α), i < ls.length → ((ls.set i y).map List.length).sum + (ls.getD i []).length = (ls.map List.length).sum + y.length
 | [], i, _, h => absurd h (Nat.not_lt_zero _)
 | x :: ls, 0, y, _ => by
  show y.length + (ls.map List.length).sum + x.length = x.length + (ls.map List.length).sum + y.length
  omega
 | x :: ls, i + 1, y, h => by
  have := sum_set8 ls i y (by simpa using h)
  show x.length + ((ls.set i y).map List.length).sum + (ls.getD i []).length = x.length + (ls.map List.length).sum + y.length
  omega
theorem StrOk.step {cs : List Cl} {l : List Hp} {ls : List (List Hp)} (h : StrOk cs l ls) (x : Hp) (hx : ∀ y ∈ l, y.t ≤ x.t) : StrOk cs (l ++ [x]) (str1 cs ls x) := by
 have hmem : ∀ y ∈ l, y ∈ l ++ [x] := fun y hy => List.mem_append_left _ hy
 by_cases hin : inSt cs ls x
 · rw [str1_yes hin]
   obtain ⟨⟨g0, g1, g2⟩, g3, g4, g5⟩ := hin
   obtain ⟨a, ha⟩ := Int.eq_ofNat_of_zero_le g0
   have hta : x.e.ag.toNat = a := by omega
   have hal : a < ls.length := by omega
   rw [hta] at g2 g3 g4 g5 ⊢
   obtain ⟨n, hn⟩ : ∃ n, n = hpSt cs ls x := ⟨_, rfl⟩
   have hN : HpIn cs (l ++ [x]) a n := by
    rw [hn]
    refine ⟨ha, ⟨x, List.mem_append_right _ (List.mem_singleton.2 rfl), rfl, rfl⟩, g3, ?_, ?_, ?_, ?_, ?_⟩
    · show readV (cs.getD x.e.ag.toNat zC) x.t = _; rw [hta]; rfl
    · show 0 ≤ readV (cs.getD x.e.ag.toNat zC) x.t; rw [hta]; exact g4
    · show readV (cs.getD x.e.ag.toNat zC) x.t ≤ _; rw [hta]; exact g5
    · show (0 : Int) ≤ ((ls.getD x.e.ag.toNat []).length : Nat); omega
    · show ((ls.getD x.e.ag.toNat []).length : Int) ≤ 999; rw [hta]; omega
   have hsq : n.e.sq = ((ls.getD a []).length : Int) := by rw [hn]; show ((ls.getD x.e.ag.toNat []).length : Int) = _; rw [hta]
   have hnt : n.t = x.t := by rw [hn]; rfl
   rw [← hn]
   have hget : ∀ b, (ls.set a (ls.getD a [] ++ [n])).getD b [] = if a = b then ls.getD a [] ++ [n] else ls.getD b [] := by
    intro b
    have := lgetD_set8 (l := ls) (i := a) (j := b) (x := ls.getD a [] ++ [n])
    rw [this]
    by_cases hab : a = b
    · rw [if_pos ⟨hab, hal⟩, if_pos hab]
    · rw [if_neg (fun e => hab e.1), if_neg hab]
   refine ⟨fun b y hy => ?_, fun b => ?_, fun b y hy => ?_, ?_⟩
   · rw [hget b] at hy
     split at hy
     · rename_i hab
       subst hab
       rcases List.mem_append.1 hy with hy | hy
       · exact (h.el a y hy).mono hmem
       · rw [List.mem_singleton.1 hy]; exact hN
     · exact (h.el b y hy).mono hmem
   · rw [hget b]
     split
     · rw [List.pairwise_append]
       refine ⟨h.srt a, List.pairwise_singleton _ _, fun y hy z hz => ?_⟩
       rw [List.mem_singleton.1 hz, hsq, hnt]
       obtain ⟨x', hx', _, ht⟩ := (h.el a y hy).src
       exact ⟨h.sq a y hy, by rw [ht]; exact hx x' hx'⟩
     · exact h.srt b
   · rw [hget b] at hy ⊢
     split at hy
     · rename_i hab
       rw [if_pos hab, List.length_append]
       rcases List.mem_append.1 hy with hy | hy
       · have := h.sq a y hy; rw [List.length_singleton]; omega
       · rw [List.mem_singleton.1 hy, hsq, List.length_singleton]; omega
     · rename_i hab
       rw [if_neg hab]
       exact h.sq b y hy
   · have := sum_set8 ls a (ls.getD a [] ++ [n]) hal
     have h2 := h.sum
     rw [List.length_append] at this ⊢
     simp at this ⊢
     omega
 · rw [str1_no hin]
   exact ⟨fun b y hy => (h.el b y hy).mono hmem, h.srt, h.sq, by have := h.sum; rw [List.length_append]; omega⟩
theorem StrOk.all {cs : List Cl} : ∀ (m l : List Hp) (ls : List (List Hp)), StrOk cs l ls → (l ++ m).Pairwise (fun x y => x.t ≤ y.t) → StrOk cs (l ++ m) (strN cs ls m)
 | [], l, ls, h, _ => by rw [List.append_nil]; exact h
 | x :: m, l, ls, h, hp => by
  have e : l ++ x :: m = (l ++ [x]) ++ m := by simp
  have h1 := h.step x (fun y hy => (List.pairwise_append.1 hp).2.2 y hy x (List.mem_cons_self ..))
  rw [e] at hp ⊢
  exact StrOk.all m (l ++ [x]) (str1 cs ls x) h1 hp
theorem getD_rep8 {α : Type} (n a : Nat) : (List.replicate n ([] : List α)).getD a [] = [] := by
 rw [List.getD_eq_getElem?_getD, List.getElem?_replicate]
 split <;> rfl
theorem strOk0 (cs : List Cl) (n : Nat) : StrOk cs [] (List.replicate n []) := by
 refine ⟨fun a y hy => ?_, fun a => ?_, fun a y hy => ?_, ?_⟩
 · rw [getD_rep8] at hy; cases hy
 · rw [getD_rep8]; exact List.Pairwise.nil
 · rw [getD_rep8] at hy; cases hy
 · simp
/-! ### as they lie in memory -/
def Sv.val (v : Sv) : Value := .slice v.ad v.n v.c
structure StP (W : World) (base O : Nat) (sv : Value) (l : List Hp) (vs : List Sv) (ls : List (List Hp)) : Prop where
 cells : CellsAt W O (vs.map Sv.val)
 lt : O < W.heap.size
 len : vs.length = ls.length
 hb : base ≤ O
 own : ∀ i (h : i < vs.length), Own KH W base vs[i].val (ls.getD i [])
 row : Own KH W base sv l
 ap : Apart (some O :: sv.ownBlock :: vs.map fun v => v.val.ownBlock)
theorem ap_at {O : Nat} {sv : Value} {vs : List Sv} (i : Nat) (h : i < vs.length) : (some O :: sv.ownBlock :: vs.map fun v => v.val.ownBlock)[i + 2]? = some vs[i].val.ownBlock := by
 simp [h]
theorem CellsAt.up9 {n : Nat} {W W' : World} {B : Nat} {vs : List Value} (h : CellsAt W B vs) (b : Below n W W') (hn : B < n) : CellsAt W' B vs := fun i hi => by
 rw [b.cell (p := ⟨B, i, none⟩) hn, b.frozen (p := ⟨B, i, none⟩) hn]
 exact h i hi
theorem StP.up {n : Nat} {W W' : World} {base O : Nat} {sv : Value} {l : List Hp} {vs : List Sv} {ls : List (List Hp)} (h : StP W base O sv l vs ls) (b : Below n W W') (hn : W.heap.size ≤ n) : StP W' base O sv l vs ls :=
 ⟨h.cells.up9 b (Nat.lt_of_lt_of_le h.lt hn), Nat.lt_of_lt_of_le h.lt b.size, h.len, h.hb, fun i hi => (h.own i hi).below b hn, h.row.below b hn, h.ap⟩
theorem StP.all_lt {W : World} {base O : Nat} {sv : Value} {l : List Hp} {vs : List Sv} {ls : List (List Hp)} (h : StP W base O sv l vs ls) : ∀ (j y : Nat), (some O :: sv.ownBlock :: vs.map fun v => v.val.ownBlock)[j]? = some (some y) → base ≤ y ∧ y < W.heap.size := by
 intro j y hj
 match j with
 | 0 => injection hj with e; injection e with e; subst e; exact ⟨h.hb, h.lt⟩
 | 1 => injection hj with e; exact h.row.ge y e
 | i + 2 =>
  rcases Nat.lt_or_ge i vs.length with hi | hi
  · rw [ap_at i hi] at hj; injection hj with e; exact (h.own i hi).ge y e
  · simp [hi] at hj
theorem StP.far {W : World} {base O X i : Nat} {u sv : Value} {l : List Hp} {vs : List Sv} {ls : List (List Hp)} (h : StP W base O sv l vs ls) (hX : ∀ j : Nat, (some O :: sv.ownBlock :: vs.map fun v => v.val.ownBlock)[j]? ≠ some (some X)) : StP (W.setCell ⟨X, i, none⟩ u) base O sv l vs ls :=
 ⟨h.cells.far (fun e => hX 0 (by rw [e]; rfl)), by have := h.lt; simpa using this, h.len, h.hb, fun j hj => (h.own j hj).far (fun e => hX (j + 2) (by rw [ap_at j hj, e])), h.row.far (fun e => hX 1 (by show some _ = _; rw [e])), h.ap⟩
theorem StP.push {W W' : World} {base O : Nat} {sv v' : Value} {l : List Hp} {vs : List Sv} {ls : List (List Hp)} (h : StP W base O sv l vs ls) (a : Nat) (ha : a < vs.length) (x : Hp) (ho : Own KH W' base v' (ls.getD a [] ++ [x])) (hg : W.grownBy W' (vs[a]'ha).val.ownBlock) (hk : v'.ownBlock = (vs[a]'ha).val.ownBlock ∨ v'.ownBlock = some W.heap.size) :
 ∃ s : Sv, v' = s.val ∧ StP (W'.setCell ⟨O, a, none⟩ v') base O sv l (vs.set a s) (ls.set a (ls.getD a [] ++ [x])) := by
 obtain ⟨ad, c, e, _⟩ := ho.form
 refine ⟨⟨ad, (ls.getD a [] ++ [x]).length, c⟩, e, ?_⟩
 have hv : v' = (⟨ad, (ls.getD a [] ++ [x]).length, c⟩ : Sv).val := e
 generalize hs : (⟨ad, (ls.getD a [] ++ [x]).length, c⟩ : Sv) = s at *
 subst hv
 have hmap : (some O :: sv.ownBlock :: (vs.set a s).map fun v => v.val.ownBlock) = (some O :: sv.ownBlock :: vs.map fun v => v.val.ownBlock).set (a + 2) s.val.ownBlock := by
  simp only [List.set_cons_succ, List.map_set]
 have ap' : Apart (some O :: sv.ownBlock :: (vs.set a s).map fun v => v.val.ownBlock) := by
  rw [hmap]
  refine h.ap.set (a + 2) s.val.ownBlock ?_
  rcases hk with hk | hk
  · left; rw [hk]; exact ap_at a ha
  · right; exact ⟨_, hk, fun j y hj => (h.all_lt j y hj).2⟩
 have hO : ∀ j, j ≠ 0 → ∀ o, (some O :: sv.ownBlock :: (vs.set a s).map fun v => v.val.ownBlock)[j]? = some o → o ≠ some O := fun j hj o ho => ap'.ne 0 j O rfl (Ne.symm hj) ho
 have hR : ∀ j, j ≠ a + 2 → ∀ y, (some O :: sv.ownBlock :: vs.map fun v => v.val.ownBlock)[j]? = some (some y) → (vs[a]'ha).val.ownBlock ≠ some y := fun j hj y hy e => by
  have h1 := h.ap j (a + 2) y hy (by rw [ap_at a ha, e])
  exact hj h1
 refine ⟨?_, ?_, ?_, h.hb, fun i hi => ?_, ?_, ap'⟩
 · rw [List.map_set]
   have hc : CellsAt W' O (vs.map Sv.val) := by
    intro i hi
    have hne := hR 0 (by omega) O rfl
    have hb := hg.block O h.lt (fun e => hne e.symm)
    obtain ⟨c1, c2⟩ := h.cells i hi
    refine ⟨?_, ?_⟩
    · exact (World.cell?_of_block (a := ⟨O, i, none⟩) hb).trans c1
    · exact (World.frozen?_of_block (a := ⟨O, i, none⟩) hb).trans c2
   exact hc.put a _
 · have h1 := h.lt; have h2 := hg.size; simp; omega
 · simp [h.len]
 · rw [List.length_set] at hi
   have hil := lgetD_set8 (l := ls) (i := a) (j := i) (x := ls.getD a [] ++ [x])
   by_cases hia : a = i
   · subst hia
     rw [hil, if_pos ⟨rfl, by have := h.len; omega⟩, List.getElem_set_self]
     exact ho.far (hO (a + 2) (by omega) _ (by rw [ap_at a (by rw [List.length_set]; exact ha), List.getElem_set_self]))
   · rw [hil, if_neg (fun e => hia e.1), List.getElem_set_ne hia]
     refine (own_grown8 (h.own i hi) hg (fun j e => hR (i + 2) (by omega) j (by rw [ap_at i hi, e]))).far ?_
     exact hO (i + 2) (by omega) _ (by rw [ap_at i (by rw [List.length_set]; exact hi), List.getElem_set_ne hia])
 · refine (own_grown8 h.row hg (fun j e => hR 1 (by omega) j (by show some _ = _; rw [e]))).far ?_
   exact hO 1 (by omega) _ rfl
theorem StP.st {W : World} {base O : Nat} {sv : Value} {l : List Hp} {vs : List Sv} {ls : List (List Hp)} (h : StP W base O sv l vs ls) : StAt W (some ⟨O, 0, none⟩) ls := by
 refine ⟨vs, ?_, h.len, fun i hi => ?_⟩
 · refine .inr ⟨O, 0, rfl, h.lt, fun i hi j hj => ?_⟩
   have hj0 : j = 0 := by have : KS.n = 1 := rfl; omega
   subst hj0
   have := (h.cells i (by simpa using hi)).1
   rw [show 0 + KS.n * i + 0 = i by show 0 + 1 * i + 0 = i; omega, this]
   simp
   rfl
 · obtain ⟨ad, c, e, _, hr⟩ := (h.own i hi).rn
   injection e with e1 e2 e3
   exact ⟨e2, by rw [e1]; exact hr.rl⟩
end Go.Proofs.YtamefmojocegkaaDoor

namespace Go.Proofs.YtamefmojocegkaaDoor
open Go Go.Proofs Go.RowKit Go.Lib Go.Sort
theorem made_st8 (n : Nat) : madeCells (Value.slice none 0 0).cells (n * 1) = (List.replicate n (Value.slice none 0 0)).toArray := by
 apply Array.ext
 · rw [size_madeCells]; simp
 · intro i h1 h2
   simp [madeCells, Value.cells, Nat.mod_one]
theorem make_st8 (n : Nat) (hn : n ≤ 1000) (W : World) :
 (Instr.makeSlice 72 (.int .i64 (n : Int)) (.int .i64 (n : Int))).run Tryd.prog W = .ok (.slice (some ⟨W.heap.size, 0, none⟩) n n) (W.alloc (.cells (List.replicate n (Value.slice none 0 0)).toArray 74)) := by
 obtain ⟨i0, hi, hz0, hz1, hz2⟩ := info_parts KS.info
 have h := run_make (P := Tryd.prog) W 72 74 i0 (.slice none 0 0) KS.und hi hz0 .i64 .i64 (n : Int) (n : Int) (by omega) (by omega) (by rw [hz2]; show ((24 : Nat) : Int) * (n : Int) ≤ 281474976710656; omega) (by omega)
 rw [hz1, Int.toNat_natCast] at h
 rw [show KS.n = 1 from rfl, made_st8] at h
 exact h
theorem at_ckR (g o n c k : Nat) (hk : k < n) (w : World) : (Instr.indexAt 51 (.slice (some ⟨g, o, none⟩) n c) (.int .i64 (k : Int))).run Tryd.prog w = .ok (.pointer (some ⟨g, o + 2 * k, none⟩)) w := KK.at_ g o n c k hk w
def NewR (w w' : World) : Prop := Below w.heap.size w w'
theorem NewR.below {w w' : World} (h : NewR w w') : Below w.heap.size w w' := h
theorem NewR.alloc {w w' : World} (h : NewR w w') (o : Obj) : NewR w (w'.alloc o) := Below.alloc (show Below w.heap.size w w' from h) (Below.size h) o
theorem newR0 (w : World) : NewR w { w with drawn := w.drawn + 1 } := Grew.below (grew0 w)
def CksOk (W : World) (adc : Option Addr) (lv : List Cv) (cs : List Cl) : Prop := lv.length = cs.length ∧ RL KK W adc lv ∧ ∀ i (h : i < lv.length), lv[i].dr = (cs.getD i zC).dr ∧ lv[i].n = (cs.getD i zC).an.length ∧ RL KA W lv[i].ad (cs.getD i zC).an ∧ (cs.getD i zC).an.length ≤ maxLen
theorem CksOk.below {W W' : World} {adc : Option Addr} {lv : List Cv} {cs : List Cl} (h : CksOk W adc lv cs) (b : Below W.heap.size W W') : CksOk W' adc lv cs := ⟨h.1, h.2.1.below b, fun i hi => by
 obtain ⟨h1, h2, h3, h4⟩ := h.2.2 i hi
 exact ⟨h1, h2, h3.below b, h4⟩⟩
theorem StP.grown_cell {W W' : World} {base O : Nat} {sv : Value} {l : List Hp} {vs : List Sv} {ls : List (List Hp)} (h : StP W base O sv l vs ls) (a : Nat) (ha : a < vs.length) (hg : W.grownBy W' (vs[a]'ha).val.ownBlock) : W'.cell? ⟨O, a, none⟩ = some (vs[a]'ha).val ∧ W'.frozen? ⟨O, a, none⟩ = false := by
 have hne : (vs[a]'ha).val.ownBlock ≠ some O := fun e => by
  have := h.ap 0 (a + 2) O rfl (by rw [ap_at a ha, e])
  omega
 have hb := hg.block O h.lt (fun e => hne e.symm)
 obtain ⟨c1, c2⟩ := h.cells a (by simpa using ha)
 exact ⟨(World.cell?_of_block (a := ⟨O, a, none⟩) hb).trans (by rw [c1]; simp), (World.frozen?_of_block (a := ⟨O, a, none⟩) hb).trans c2⟩
def StPost (w : World) (ls : List (List Hp)) (e : Ending) (w' : World) : Prop := ∃ O, e = .returned (.slice (some ⟨O, 0, none⟩) ls.length ls.length) ∧ StAt w' (some ⟨O, 0, none⟩) ls ∧ Below w.heap.size w w'
theorem apart_nones (O n : Nat) (o : Option Nat) (h : o ≠ some O) : Apart (some O :: o :: (List.replicate n (⟨none, 0, 0⟩ : Sv)).map fun v => v.val.ownBlock) := by
 have hn : ∀ (i y : Nat), ((List.replicate n (⟨none, 0, 0⟩ : Sv)).map fun v => v.val.ownBlock)[i]? = some (some y) → False := by
  intro i y hi
  rw [List.map_replicate, List.getElem?_replicate] at hi
  split at hi
  · cases hi
  · cases hi
 intro i j y hi hj
 match i, j with
 | 0, 0 => rfl
 | 0, 1 => injection hi with hi; injection hi with hi; injection hj with hj; exact absurd (by rw [hj, hi]) h
 | 1, 0 => injection hj with hj; injection hj with hj; injection hi with hi; exact absurd (by rw [hi, hj]) h
 | 1, 1 => rfl
 | 0, j + 2 => exact (hn j y hj).elim
 | 1, j + 2 => exact (hn j y hj).elim
 | i + 2, j => exact (hn i y hi).elim
theorem streamsR_any (x1 x2 x3 adc ad : Option Addr) (N c1 n2 c2 n3 c3 cc c : Nat) (lat lia : Int) (lv : List Cv) (cs : List Cl) (l : List Hp) (hN : N ≤ 1000) (hcs : cs.length = N) (hl : l.length ≤ 1000) (hn : ad = none → c = 0) (hso : l.Pairwise fun x y => x.t ≤ y.t) (w : World) (hC : CksOk w adc lv cs) (hI : RL KH w ad l) :
 Calls Tryd.prog 36 #[.agg #[.slice x1 N c1, .int .i64 lat, .int .i64 lia, .slice x2 n2 c2, .slice x3 n3 c3], .slice adc lv.length cc, .slice ad l.length c] w (StPost w (strN cs (List.replicate N []) l)) := by
 have HC := Lib.hid hC
 have HN := Lib.hid (And.intro hN (And.intro hcs hl))
 have HSO := Lib.hid hso
 have hmk := fun W => make_st8 N hN W
 obtain ⟨w1, V1, Z1, K1, B1⟩ := lay8 w [.slice x1 N c1, .int .i64 lat, .int .i64 lia, .slice x2 n2 c2, .slice x3 n3 c3] 24
 obtain ⟨w2, V2, Z2, K2, B2⟩ := lay8 w1 (List.replicate N (Value.slice none 0 0)) 74
 obtain ⟨w3, V3, Z3, K3, B3⟩ := lay8 w2 [] 99
 have hI3 := Lib.hid (((hI.below B1).below B2).below B3)
 have V2 := (show w1.alloc (.cells (Array.replicate N (Value.slice none 0 0)) 74) = w2 from by rw [← V2]; simp)
 have r0 := (show w1.cell? ⟨w.heap.size, 0, none⟩ = some (.slice x1 N c1) from (K1 0 (by simp)).1)
 have HO3 := Lib.hid (show Own KH w3 (w.heap.size + 2) (.slice (some ⟨w.heap.size + 2, 0, none⟩) 0 0) [] by rw [show w.heap.size + 2 = w2.heap.size from by omega, ← V3]; exact KH.new w2 w2.heap.size [] (Nat.le_refl _) (by simp) [] rfl 99 rfl 0 rfl)
 have HZ := Lib.hid (show w1.heap.size = w.heap.size + 1 ∧ w2.heap.size = w.heap.size + 2 ∧ w3.heap.size = w.heap.size + 3 from by omega)
 have HB3 := Lib.hid (show Below w.heap.size w w3 from B1.trans ((B2.mono (by omega)).trans (B3.mono (by omega))))
 have HK2 := Lib.hid (show CellsAt w3 (w.heap.size + 1) (List.replicate N (Value.slice none 0 0)) from by rw [← Z1]; exact CellsAt.up9 K2 B3 (by omega))
 clear hC hI hso K1 K2 K3 B1 B2 B3 hN
 go_enter Tryd.func36, Tryd.ntmps36
 go_upto_region 2 with fail
 go_upto_region 3 with (at_builtin; refine walk_arg8 KH rfl _ _ rfl (w.heap.size + 2) (.slice (some ⟨w.heap.size + 2, 0, none⟩) 0 0) l rfl HO3.out (by have := HZ.out; omega) ad c rfl hI3.out hn (by have := HN.out; omega) ?_; intro v4 w4 ho4 hb4)
 clear r0 V1 V2 V3 hI3 HO3 hmk
 obtain ⟨ad4, cp4, ev4, _⟩ := ho4.form
 subst ev4
 have hge := ho4.ge
 obtain ⟨O, hO⟩ : ∃ O, O = w.heap.size + 1 := ⟨_, rfl⟩
 have hz4 := hb4.size
 have HS0 := Lib.hid (show StP w4 O O (.slice ad4 l.length cp4) l (List.replicate N ⟨none, 0, 0⟩) (List.replicate N []) from by
  refine ⟨?_, by have := HZ.out; omega, by simp, Nat.le_refl _, fun i hi => ?_, ho4.base (by omega), apart_nones O N _ (fun e => by have := hge _ e; omega)⟩
  · rw [List.map_replicate, hO]
    exact CellsAt.up9 HK2.out hb4 (by omega)
  · rw [List.getElem_replicate, getD_rep8]
    exact Own.nil _ _ _)
 have HB4 := Lib.hid (show Below w.heap.size w w4 from HB3.out.trans (hb4.mono (by omega)))
 have HOO := Lib.hid (show w.heap.size < O from by omega)
 rw [← hO]
 clear ho4 hb4 hge HB3 HK2 Z1 Z2 Z3 hO hz4 HZ
 generalize hls0 : strN cs (List.replicate N []) l = R at *
 have HLS0 := Lib.hid hls0
 clear hls0
 go_wp2_with fail
 go_loopw [9] (fun i wr => ∃ k : Nat, i = .int .i64 k ∧ 1 ≤ k ∧ Hid (StP wr O O (.slice ad4 l.length cp4) l (List.replicate N ⟨none, 0, 0⟩) (List.replicate N [])) ∧ Hid (Below w.heap.size w wr)) (fun i _ => l.length - (RowKit.intOf i).toNat)
 case atStart => exact ⟨1, rfl, Nat.le_refl _, HS0, HB4⟩
 case round =>
  clear HS0 HB4
  obtain ⟨k, rfl, hk1, HS, HB⟩ := hrel
  by_cases hlt : k < l.length
  · have hki : (k : Int) < (l.length : Int) := by omega
    have HLT := Lib.hid hlt
    go_wp2_with fail
    go_loopw [10] (fun i wr => i = .int .i64 k ∧ Hid (StP wr O O (.slice ad4 l.length cp4) l (List.replicate N ⟨none, 0, 0⟩) (List.replicate N [])) ∧ Hid (Below w.heap.size w wr)) (fun _ _ => 0)
    case atStart => exact ⟨rfl, HS, HB⟩
    case round =>
     clear HS HB
     obtain ⟨rfl, HS, HB⟩ := hrel
     obtain ⟨gs, cgs, egs, _, _⟩ := HS.out.row.block (show 0 < l.length by omega)
     injection egs with e1 e2 e3
     subst e1 e3
     clear e2
     have HR := Lib.hid (HS.out.row.rn0)
     obtain ⟨m, hm1⟩ : ∃ m, m + 1 = k := ⟨k - 1, by omega⟩
     have hm : m < l.length := by omega
     obtain ⟨ad5, cp5, e5, _, hr5⟩ := HR.out
     injection e5 with e1 e2 e3
     subst e1 e3
     obtain ⟨b1, o1, eb1, hb1, hc1⟩ := hr5.rl.hp m hm
     obtain ⟨b2, o2, eb2, hb2, hc2⟩ := hr5.rl.hp k hlt
     injection eb1 with eb1
     injection eb1 with e3 e4
     subst e3 e4
     injection eb2 with eb2
     injection eb2 with e3 e4
     subst e3 e4
     have HC1 := Lib.hid (fun W b => (hc1 W b).2)
     have HC2 := Lib.hid (fun W b => (hc2 W b).2)
     have ix1 := fun W => at_hp8 gs 0 l.length cp4 m hm W
     have ix2 := fun W => at_hp8 gs 0 l.length cp4 k hlt W
     simp only [Nat.zero_add] at ix1 ix2
     have hwk : IntKind.i64.wrap ((k : Int) - 1) = (m : Int) := by rw [wrapq8 (by have := HN.out.2.2; omega)]; omega
     have hk0 : decide (0 < k) = true := decide_eq_true (by omega)
     have htt : decide ((l[k]'hlt).t < (l[m]'hm).t) = false := decide_eq_false (by have := List.pairwise_iff_getElem.1 HSO.out m k hm hlt (by omega); omega)
     generalize (l[m]'hm).t = t1 at *
     generalize (l[k]'hlt).t = t2 at *
     clear hr5 hc1 hc2 hb1 hb2 HR e2
     go_upto_region 7 with fail
     go_cut [46] from 31 to 45 (fun s46 wx => s46 = .bool false ∧ Hid (Below wr.heap.size wr wx))
     case first =>
      skip
      have y1 := fun d os => (show (grow (redrawn wr d) os).cell? ⟨gs, 13 * m + 12, none⟩ = some (.int .i64 t1) from by have := HC1.out _ (below_regrown wr d os); rwa [Nat.zero_add] at this)
      have y2 := fun d os => (show (grow (redrawn wr d) os).cell? ⟨gs, 13 * k + 12, none⟩ = some (.int .i64 t2) from by have := HC2.out _ (below_regrown wr d os); rwa [Nat.zero_add] at this)
      refine wp_region_quiet_below (by kernel_rfl) (by kernel_rfl) ?_
      repeat (first | go_big_quiet_step (fail) | quiet_step (fail))
      refine wpQuiet_nil ?_
      intro _ hw'
      obtain ⟨⟨dq, osq⟩, hw''⟩ := hw'
      subst hw''
      go_wp2_with fail
      go_meet
      exact ⟨rfl, Lib.hid (below_regrown _ _ _)⟩
     case rest =>
      obtain ⟨rfl, HBx⟩ := hcut
      generalize wc = w6 at *
      have HS6 := Lib.hid (HS.out.up HBx.out (Nat.le_refl _))
      have HB6 := Lib.hid (below_up8 HB.out HBx.out)
      clear HS HB HBx HC1 HC2
      go_wp2_with fail
      go_roundw
      case rel => exact ⟨k + 1, by go_num, by omega, HS6, HB6⟩
      case measure => have h9 := HLT.out; simp [RowKit.intOf]; omega
  · have hki : ¬ (k : Int) < (l.length : Int) := by omega
    clear hk1 hlt
    go_wp2_with fail
    go_loopw [12] (fun i wr => ∃ (k : Nat) (vs : List Sv) (ls : List (List Hp)), k ≤ l.length ∧ i = .int .i64 k ∧ Hid (StP wr O O (.slice ad4 l.length cp4) l vs ls) ∧ Hid (strN cs ls (l.drop k) = R ∧ ls.length = N) ∧ Hid (Below w.heap.size w wr)) (fun i _ => l.length - (RowKit.intOf i).toNat)
    case atStart => exact ⟨0, _, _, Nat.zero_le _, rfl, HS, Lib.hid ⟨HLS0.out, by simp⟩, HB⟩
    case round =>
     clear HS HB hki
     obtain ⟨k, vs, ls, hk, rfl, HS, HR, HB⟩ := hrel
     by_cases hlt : k < l.length
     · have hki : (k : Int) < (l.length : Int) := by omega
       have HLT := Lib.hid (show k + 1 ≤ l.length from hlt)
       obtain ⟨ad5, cp5, e5, _, hr5⟩ := HS.out.row.rn0
       injection e5 with e1 e2 e3
       subst e1 e3
       obtain ⟨gs, gso, rfl, hgs, hgc⟩ := hr5.rl.hp k hlt
       have ixk := fun W => at_hp8 gs gso l.length cp4 k hlt W
       obtain ⟨⟨q0, q1, q2, q3, q4, q5, q6, q7, q8, q9, q10, q11⟩, q12⟩ := hgc wr (Below.refl _ _)
       have HLP := Lib.hid (show strN cs (str1 cs ls (l[k]'hlt)) (l.drop (k + 1)) = R from by rw [← HR.out.1, List.drop_eq_getElem_cons hlt]; rfl)
       generalize (l[k]'hlt) = x at *
       clear hr5 hgc hgs hlt e2
       obtain ⟨wX, VX, ZX, KX, BX⟩ := lay8 wr (KH.cs x) 99
       have VX := (show wr.alloc (.cells #[.int .i64 x.e.ag, .int .i64 x.e.sq, .int .i64 x.e.tm, .int .i64 x.e.kd, .int .i64 x.e.tr, .int .i64 x.e.sp, .int .i64 x.e.lk, .int .i64 x.e.gn, .int .i64 x.e.op, .int .i64 x.e.vr, .int .i64 x.e.pe, .int .i64 x.e.bt, .int .i64 x.t] 99) = wX from VX)
       have KX := (show CellsAt wX wr.heap.size [.int .i64 x.e.ag, .int .i64 x.e.sq, .int .i64 x.e.tm, .int .i64 x.e.kd, .int .i64 x.e.tr, .int .i64 x.e.sp, .int .i64 x.e.lk, .int .i64 x.e.gn, .int .i64 x.e.op, .int .i64 x.e.vr, .int .i64 x.e.pe, .int .i64 x.e.bt, .int .i64 x.t] from KX)
       have HKX := Lib.hid KX
       have HSX := Lib.hid (HS.out.up BX (Nat.le_refl _))
       have HFR := Lib.hid (show ∀ j : Nat, (some O :: (Value.slice (some ⟨gs, gso, none⟩) l.length cp4).ownBlock :: vs.map fun v => v.val.ownBlock)[j]? ≠ some (some wr.heap.size) from fun j e => by have := (HS.out.all_lt j _ e).2; omega)
       have HBX := Lib.hid (show Below w.heap.size w wX from HB.out.trans (BX.mono HB.out.size))
       have HBZ := Lib.hid HB.out.size
       have z0 := (show wX.cell? ⟨wr.heap.size, 0, none⟩ = some (.int .i64 x.e.ag) from (KX 0 (by simp)).1)
       have hln : ls.length = N := HR.out.2
       have hvl : vs.length = N := HS.out.len.trans hln
       have hN := HN.out.1
       go_upto_region 17 with fail
       clear VX KX BX HB HS q0 q1 q2 q3 q4 q5 q6 q7 q8 q9 q10 q11 q12 ixk
       generalize wr.heap.size = X at *
       by_cases g0 : x.e.ag < 0
       · have g0' : decide (x.e.ag < 0) = true := decide_eq_true g0
         have HR1 := Lib.hid (show str1 cs ls x = ls from str1_no (fun h => by have := h.1.1; omega))
         go_wp2_with fail
         go_roundw
         case rel => exact ⟨k + 1, vs, ls, HLT.out, by go_num, HSX, Lib.hid ⟨by rw [← HR1.out]; exact HLP.out, hln⟩, HBX⟩
         case measure => have h9 := HLT.out; simp [RowKit.intOf]; omega
       · have g0' : decide (x.e.ag < 0) = false := decide_eq_false g0
         obtain ⟨a, ha⟩ := Int.eq_ofNat_of_zero_le (show 0 ≤ x.e.ag by omega)
         have hta : x.e.ag.toNat = a := by omega
         rw [ha] at g0' z0 ⊢
         clear ha
         by_cases g1 : N ≤ a
         · have g1' : decide ((a : Int) ≥ (N : Int)) = true := decide_eq_true (by omega)
           have HR1 := Lib.hid (show str1 cs ls x = ls from str1_no (fun h => by have := h.1.2.1; omega))
           go_wp2_with fail
           go_roundw
           case rel => exact ⟨k + 1, vs, ls, HLT.out, by go_num, HSX, Lib.hid ⟨by rw [← HR1.out]; exact HLP.out, hln⟩, HBX⟩
           case measure => have h9 := HLT.out; simp [RowKit.intOf]; omega
         · have g1' : decide ((a : Int) ≥ (N : Int)) = false := decide_eq_false (by omega)
           have hav : a < vs.length := by omega
           have hal : a < ls.length := by omega
           obtain ⟨adv, cv, ev, _⟩ := (HSX.out.own a hav).form
           obtain ⟨M, hM⟩ : ∃ M, M = (ls.getD a []).length := ⟨_, rfl⟩
           rw [← hM] at ev
           have HMM := Lib.hid hM
           clear hM
           have ixa := (show ∀ W, (Instr.indexAt 72 (.slice (some ⟨O, 0, none⟩) N N) (.int .i64 (a : Int))).run Tryd.prog W = .ok (.pointer (some ⟨O, a, none⟩)) W from fun W => by have := at_st8 O 0 N N a (by omega) W; rwa [Nat.zero_add] at this)
           have HCA := Lib.hid (show ∀ W, Below wX.heap.size wX W → W.cell? ⟨O, a, none⟩ = some (.slice adv M cv) from fun W b => by
            rw [b.cell (p := ⟨O, a, none⟩) HSX.out.lt, ← ev, (HSX.out.cells a (by simpa using hav)).1]
            simp)
           have ca := HCA.out wX (Below.refl _ _)
           by_cases g2 : 999 < M
           · have g2' : decide ((M : Int) > 999) = true := decide_eq_true (by omega)
             have HR1 := Lib.hid (show str1 cs ls x = ls from str1_no (fun h => by have := h.1.2.2; rw [hta, ← HMM.out] at this; omega))
             go_wp2_with fail
             go_roundw
             case rel => exact ⟨k + 1, vs, ls, HLT.out, by go_num, HSX, Lib.hid ⟨by rw [← HR1.out]; exact HLP.out, hln⟩, HBX⟩
             case measure => have h9 := HLT.out; simp [RowKit.intOf]; omega
           · have g2' : decide ((M : Int) > 999) = false := decide_eq_false (by omega)
             have hcl : cs.length = N := HN.out.2.1
             have hlv : a < lv.length := by rw [HC.out.1]; omega
             have HCX := Lib.hid (HC.out.below HBX.out)
             obtain ⟨bc, bo, rfl, hbc, hbk⟩ := HCX.out.2.1.at_ a hlv
             obtain ⟨f1, f2, f3, f4⟩ := HCX.out.2.2 a hlv
             have ixc := fun W => at_ckR bc bo lv.length cc a hlv W
             obtain ⟨C, hC⟩ : ∃ C : Cl, C = cs.getD a zC := ⟨_, rfl⟩
             rw [← hC] at f1 f2 f3 f4
             have HCC := Lib.hid hC
             clear hC
             have HKC := Lib.hid (show ∀ W, Below wX.heap.size wX W → W.cell? ⟨bc, bo + 2 * a, none⟩ = some (.int .i64 C.dr) ∧ W.cell? ⟨bc, bo + 2 * a + 1, none⟩ = some (.slice (lv[a]'hlv).ad C.an.length (lv[a]'hlv).c) from fun W b => ⟨by rw [← f1]; exact hbk W b 0 (by decide), by rw [← f2]; exact hbk W b 1 (by decide)⟩)
             generalize (lv[a]'hlv).ad = cad at *
             generalize (lv[a]'hlv).c = ccp at *
             have HRD := Lib.hid (fun W (b : Below wX.heap.size wX W) => readingR_any (.agg #[.int .i64 C.dr, .slice cad C.an.length ccp]) C x.t W ⟨cad, ccp, rfl, f3.below b⟩ f4)
             have HGD := Lib.hid (And.intro (show ¬ 999 < M from g2) (And.intro hal (And.intro hav hta)))
             have HIN := Lib.hid (show inSt cs ls x ↔ readE C x.t = 0 ∧ 0 ≤ readV C x.t ∧ readV C x.t ≤ 1000000 from by
              unfold inSt
              rw [hta, ← HCC.out, ← HMM.out]
              exact ⟨fun h => h.2, fun h => ⟨⟨by omega, by omega, by omega⟩, h⟩⟩)
             clear HCX hbk hbc f1 f2 f3 f4 HC hlv hcl
             go_upto_region 18 with fail
             clear ca z0
             go_cut [15, 16] from 95 to 104 (fun s15 s16 wx => s15 = .int .i64 (readV C x.t) ∧ s16 = .int .i64 (readE C x.t) ∧ Hid (Below wX.heap.size wX wx))
             case first =>
              skip
              refine wp_region_noPanic ?_
              refine wp_region_Kx (C := NewR wX) [11] 11 #[false, false, false, false, false, false, false, false, false, false, false, false] (by kernel_rfl) (by kernel_rfl) (by kernel_rfl) (newR0 _) ?_
              intro wx hwx
              refine wpAnyK_ex (i := 0) rfl (by kernel_rfl) (listed' := #[true, false, false, false, false, false, false, false, false, false, false, false]) rfl (fun _ _ _ _ _ h => h) hwx ?_
              apply Exists.intro
              refine ⟨⟨by kernel_rfl, fun wy hw => ?_⟩, ?_⟩
              · (have bw := hw.below; go_simp; try (first | (with_reducible rfl) | (with_reducible exact ⟨rfl, rfl⟩)))
              try simp only [Act.put, List.getElem_toArray, List.getElem_cons_zero, List.setIfInBounds_toArray, List.set_cons_succ, List.set_cons_zero]
              refine wpAnyK_ex (i := 1) rfl (by kernel_rfl) (listed' := #[true, true, false, false, false, false, false, false, false, false, false, false]) rfl (fun _ _ _ _ _ h => h) hwx ?_
              apply Exists.intro
              refine ⟨⟨by kernel_rfl, fun wy hw => ?_⟩, ?_⟩
              · (have bw := hw.below; go_simp; try (first | (with_reducible rfl) | (with_reducible exact ⟨rfl, rfl⟩)))
              try simp only [Act.put, List.getElem_toArray, List.getElem_cons_succ, List.getElem_cons_zero, List.setIfInBounds_toArray, List.set_cons_succ, List.set_cons_zero]
              refine wpAnyK_ex (i := 2) rfl (by kernel_rfl) (listed' := #[true, true, true, false, false, false, false, false, false, false, false, false]) rfl (fun _ _ _ _ _ h => h) hwx ?_
              apply Exists.intro
              refine ⟨⟨by kernel_rfl, fun wy hw => ?_⟩, ?_⟩
              · (have bw := hw.below; go_simp; try (first | (with_reducible rfl) | (with_reducible exact ⟨rfl, rfl⟩)))
              try simp only [Act.put, List.getElem_toArray, List.getElem_cons_succ, List.getElem_cons_zero, List.setIfInBounds_toArray, List.set_cons_succ, List.set_cons_zero]
              refine wpAnyK_ex (i := 3) rfl (by kernel_rfl) (listed' := #[true, true, true, true, false, false, false, false, false, false, false, false]) rfl (fun _ _ _ _ _ h => h) hwx ?_
              apply Exists.intro
              refine ⟨⟨by kernel_rfl, fun wy hw => ?_⟩, ?_⟩
              · (have bw := hw.below; obtain ⟨f0, f1⟩ := HKC.out _ bw; go_simp; try (first | (with_reducible rfl) | (with_reducible exact ⟨rfl, rfl⟩)))
              try simp only [Act.put, List.getElem_toArray, List.getElem_cons_succ, List.getElem_cons_zero, List.setIfInBounds_toArray, List.set_cons_succ, List.set_cons_zero]
              refine wpAnyK_ex (i := 4) rfl (by kernel_rfl) (listed' := #[true, true, true, true, true, false, false, false, false, false, false, false]) rfl (fun _ _ _ _ _ h => h) hwx ?_
              apply Exists.intro
              refine ⟨⟨by kernel_rfl, fun wy hw => ?_⟩, ?_⟩
              · (have bw := hw.below; go_simp; try (first | (with_reducible rfl) | (with_reducible exact ⟨rfl, rfl⟩)))
              try simp only [Act.put, List.getElem_toArray, List.getElem_cons_succ, List.getElem_cons_zero, List.setIfInBounds_toArray, List.set_cons_succ, List.set_cons_zero]
              refine wpAnyK_ex (i := 5) rfl (by kernel_rfl) (listed' := #[true, true, true, true, true, true, false, false, false, false, false, false]) rfl (fun _ _ _ _ _ h => h) hwx ?_
              apply Exists.intro
              refine ⟨⟨by kernel_rfl, fun wy hw => ?_⟩, ?_⟩
              · (have bw := hw.below; have f12 := (show wy.cell? ⟨X, 12, none⟩ = some (.int .i64 x.t) from (HKX.out.below bw 12 (by simp)).1); go_simp; try (first | (with_reducible rfl) | (with_reducible exact ⟨rfl, rfl⟩)))
              try simp only [Act.put, List.getElem_toArray, List.getElem_cons_succ, List.getElem_cons_zero, List.setIfInBounds_toArray, List.set_cons_succ, List.set_cons_zero]
              refine wpAnyK_fork1 6 (by kernel_rfl) ?_
              refine wpOpK_step rfl (by kernel_rfl) (listed' := #[true, true, true, true, true, true, true, false, false, false, false, false]) rfl (by kernel_rfl) (fun K hK => ?_)
              go_simp
              refine (HRD.out _ hwx.below).mono ?_
              rintro e w9 ⟨rfl, hb9⟩
              have H9 := Lib.hid (below_up8 hwx.below hb9)
              refine hK _ _ H9.out ?_
              clear hK K hb9
              try simp only [Act.put, List.getElem_toArray, List.getElem_cons_succ, List.getElem_cons_zero, List.setIfInBounds_toArray, List.set_cons_succ, List.set_cons_zero]
              refine wpAnyK_ex (i := 7) rfl (by kernel_rfl) (listed' := #[true, true, true, true, true, true, true, true, false, false, false, false]) rfl (fun _ _ _ _ _ h => h) H9.out ?_
              apply Exists.intro
              refine ⟨⟨by kernel_rfl, fun wy hw => ?_⟩, ?_⟩
              · (have bw := hw.below; go_simp; try (first | (with_reducible rfl) | (with_reducible exact ⟨rfl, rfl⟩)))
              try simp only [Act.put, List.getElem_toArray, List.getElem_cons_succ, List.getElem_cons_zero, List.setIfInBounds_toArray, List.set_cons_succ, List.set_cons_zero]
              refine wpAnyK_ex (i := 8) rfl (by kernel_rfl) (listed' := #[true, true, true, true, true, true, true, true, true, false, false, false]) rfl (fun _ _ _ _ _ h => h) H9.out ?_
              apply Exists.intro
              refine ⟨⟨by kernel_rfl, fun wy hw => ?_⟩, ?_⟩
              · (have bw := hw.below; go_simp; try (first | (with_reducible rfl) | (with_reducible exact ⟨rfl, rfl⟩)))
              try simp only [Act.put, List.getElem_toArray, List.getElem_cons_succ, List.getElem_cons_zero, List.setIfInBounds_toArray, List.set_cons_succ, List.set_cons_zero]
              refine wpAnyK_ex (i := 9) rfl (by kernel_rfl) (listed' := #[true, true, true, true, true, true, true, true, true, true, false, false]) rfl (fun _ _ _ _ _ h => h) H9.out ?_
              apply Exists.intro
              refine ⟨⟨by kernel_rfl, fun wy hw => ?_⟩, ?_⟩
              · (have bw := hw.below; go_simp; try (first | (with_reducible rfl) | (with_reducible exact ⟨rfl, rfl⟩)))
              try simp only [Act.put, List.getElem_toArray, List.getElem_cons_succ, List.getElem_cons_zero, List.setIfInBounds_toArray, List.set_cons_succ, List.set_cons_zero]
              refine wpAnyK_ex (i := 10) rfl (by kernel_rfl) (listed' := #[true, true, true, true, true, true, true, true, true, true, true, false]) rfl (fun _ _ _ _ _ h => h) H9.out ?_
              apply Exists.intro
              refine ⟨⟨by kernel_rfl, fun wy hw => ?_⟩, ?_⟩
              · (have bw := hw.below; go_simp; try (first | (with_reducible rfl) | (with_reducible exact ⟨rfl, rfl⟩)))
              try simp only [Act.put, List.getElem_toArray, List.getElem_cons_succ, List.getElem_cons_zero, List.setIfInBounds_toArray, List.set_cons_succ, List.set_cons_zero]
              refine wpAnyK_end (by kernel_rfl) ?_
              try simp only [pickOps, List.filterMap_cons, List.filterMap_nil, List.getElem?_toArray, List.getElem?_cons_succ, List.getElem?_cons_zero]
              go_wp2_with fail
              refine NoPanic.normal ?_
              go_wp2_with fail
              go_meet
              exact ⟨rfl, rfl, H9⟩
             case rest =>
              obtain ⟨rfl, rfl, HBx⟩ := hcut
              generalize wc = wd at *
              have HSd := Lib.hid (HSX.out.up HBx.out (Nat.le_refl _))
              have HKd := Lib.hid (HKX.out.below HBx.out)
              have HBd := Lib.hid (below_up8 HBX.out HBx.out)
              have hcd := HCA.out wd HBx.out
              have HXZ := Lib.hid (show X < wX.heap.size from World.block_lt_of_cell? wX ⟨X, 0, none⟩ (HKX.out 0 (by simp)).1)
              clear HKC HRD HKX HSX HBX HCA
              by_cases e0 : readE C x.t = 0
              · have e0' : (readE C x.t == 0) = true := by rw [beq_iff_eq]; exact e0
                by_cases e1 : readV C x.t < 0
                · have e1' : decide (readV C x.t < 0) = true := decide_eq_true e1
                  have HR1 := Lib.hid (show str1 cs ls x = ls from str1_no (fun h => by have := HIN.out.1 h; omega))
                  go_wp2_with fail
                  go_roundw
                  case rel => exact ⟨k + 1, vs, ls, HLT.out, by go_num, HSd, Lib.hid ⟨by rw [← HR1.out]; exact HLP.out, hln⟩, HBd⟩
                  case measure => have h9 := HLT.out; simp [RowKit.intOf]; omega
                · have e1' : decide (readV C x.t < 0) = false := decide_eq_false e1
                  by_cases e2 : 1000000 < readV C x.t
                  · have e2' : decide (readV C x.t > 1000000) = true := decide_eq_true e2
                    have HR1 := Lib.hid (show str1 cs ls x = ls from str1_no (fun h => by have := HIN.out.1 h; omega))
                    go_wp2_with fail
                    go_roundw
                    case rel => exact ⟨k + 1, vs, ls, HLT.out, by go_num, HSd, Lib.hid ⟨by rw [← HR1.out]; exact HLP.out, hln⟩, HBd⟩
                    case measure => have h9 := HLT.out; simp [RowKit.intOf]; omega
                  · have e2' : decide (readV C x.t > 1000000) = false := decide_eq_false e2
                    have HYES := Lib.hid (show str1 cs ls x = ls.set a (ls.getD a [] ++ [(⟨{ x.e with tm := readV C x.t, sq := (M : Nat) }, x.t⟩ : Hp)]) from by
                     rw [str1_yes (HIN.out.2 ⟨e0, by omega, by omega⟩)]
                     unfold hpSt
                     rw [HGD.out.2.2.2, ← HCC.out, ← HMM.out])
                    clear HIN g0 g1 g2
                    generalize readV C x.t = rv at *
                    generalize readE C x.t = re at *
                    have kc2 := (show wd.cell? ⟨X, 2, none⟩ = some (.int .i64 x.e.tm) from (HKd.out 2 (by simp)).1)
                    have kc1 := (show wd.cell? ⟨X, 1, none⟩ = some (.int .i64 x.e.sq) from (HKd.out 1 (by simp)).1)
                    have k2 := (HKd.out 2 (by simp)).2
                    have k1 := (HKd.out 1 (by simp)).2
                    have hXO : ¬ X = O := fun e => HFR.out 0 (by rw [e]; rfl)
                    have hOX : ¬ O = X := fun e => hXO e.symm
                    go_upto_region 22 with fail
                    obtain ⟨wE, hwE⟩ : ∃ wE, wE = (wd.setCell ⟨X, 2, none⟩ (.int .i64 rv)).setCell ⟨X, 1, none⟩ (.int .i64 (M : Nat)) := ⟨_, rfl⟩
                    rw [← hwE]
                    have HSE := Lib.hid (show StP wE O O _ l vs ls from by rw [hwE]; exact (HSd.out.far HFR.out).far HFR.out)
                    have HKE := Lib.hid (show CellsAt wE X (KH.cs (⟨{ x.e with tm := rv, sq := (M : Nat) }, x.t⟩ : Hp)) from by rw [hwE]; exact (HKd.out.put 2 _).put 1 _)
                    have HBE := Lib.hid (show Below w.heap.size w wE from by rw [hwE]; exact (HBd.out.setCell HBZ.out _).setCell HBZ.out _)
                    have hav : a < vs.length := HGD.out.2.2.1
                    have HCE := Lib.hid (show ∀ W, Below wE.heap.size wE W → W.cell? ⟨O, a, none⟩ = some (.slice adv M cv) from fun W b => by
                     rw [b.cell (p := ⟨O, a, none⟩) HSE.out.lt, ← ev, (HSE.out.cells a (by simpa using hav)).1]
                     simp)
                    have HZX := Lib.hid (show w.heap.size ≤ wE.heap.size ∧ O ≤ wE.heap.size from ⟨HBE.out.size, Nat.le_of_lt HSE.out.lt⟩)
                    obtain ⟨y, hy⟩ : ∃ y : Hp, y = ⟨{ x.e with tm := rv, sq := (M : Nat) }, x.t⟩ := ⟨_, rfl⟩
                    have HLE := Lib.hid (show (ls.getD a []).length + 1 ≤ 100000000 from by have := HGD.out.1; rw [← HMM.out]; omega)
                    have HQC := Lib.hid (show CellsAt wE X [.int .i64 x.e.ag, .int .i64 (M : Nat), .int .i64 rv, .int .i64 x.e.kd, .int .i64 x.e.tr, .int .i64 x.e.sp, .int .i64 x.e.lk, .int .i64 x.e.gn, .int .i64 x.e.op, .int .i64 x.e.vr, .int .i64 x.e.pe, .int .i64 x.e.bt, .int .i64 x.t] from HKE.out)
                    clear hwE HSd HKd HBd hcd k1 k2 kc1 kc2 hXO hOX HBx
                    refine wp_region_noPanic ?_
                    refine wp_region_Kp (C := Grew wE) [0, 1] [8, 9, 10] 6 #[true, true, false, false, false, false, false, false, false, false, false] (by kernel_rfl) (by kernel_rfl) (by kernel_rfl) (by kernel_rfl) (grew0 _) (fun _ _ _ _ _ h => h) ?_
                    simp only [pickOps, List.filterMap_cons, List.filterMap_nil, List.getElem?_toArray, List.getElem?_cons_succ, List.getElem?_cons_zero]
                    refine wpPure_step (fun K hK => ?_)
                    apply Exists.intro
                    refine ⟨⟨by rfl, fun wx => ?_⟩, hK _ ?_⟩
                    · (go_simp; try (first | (with_reducible rfl) | (with_reducible exact ⟨rfl, rfl⟩)))
                    clear hK K
                    try simp only [Act.put, List.setIfInBounds_toArray, List.set_cons_succ, List.set_cons_zero]
                    refine wpPure_step (fun K hK => ?_)
                    apply Exists.intro
                    refine ⟨⟨by rfl, fun wx => ?_⟩, hK _ ?_⟩
                    · (go_simp; try (first | (with_reducible rfl) | (with_reducible exact ⟨rfl, rfl⟩)))
                    clear hK K
                    try simp only [Act.put, List.setIfInBounds_toArray, List.set_cons_succ, List.set_cons_zero]
                    refine wpPure_nil ?_
                    intro wx hwx
                    obtain ⟨w8, V8, Z8, K8, B8⟩ := lay8 wx [.int .i64 x.e.ag, .int .i64 (M : Nat), .int .i64 rv, .int .i64 x.e.kd, .int .i64 x.e.tr, .int .i64 x.e.sp, .int .i64 x.e.lk, .int .i64 x.e.gn, .int .i64 x.e.op, .int .i64 x.e.vr, .int .i64 x.e.pe, .int .i64 x.e.bt, .int .i64 x.t] 99
                    have V8 := (show wx.alloc (.cells #[.int .i64 x.e.ag, .int .i64 (M : Nat), .int .i64 rv, .int .i64 x.e.kd, .int .i64 x.e.tr, .int .i64 x.e.sp, .int .i64 x.e.lk, .int .i64 x.e.gn, .int .i64 x.e.op, .int .i64 x.e.vr, .int .i64 x.e.pe, .int .i64 x.e.bt, .int .i64 x.t] 99) = w8 from V8)
                    have g8 : Grew wE w8 := by rw [← V8]; exact hwx.alloc _
                    have H8 := Lib.hid g8.below
                    have K8 := Lib.hid (show CellsAt w8 wx.heap.size (KH.cs y) from by rw [hy]; exact K8)
                    have hs := hwx.below.size
                    refine wpAnyK_ex (i := 2) rfl (by kernel_rfl) (listed' := #[true, true, true, false, false, false, false, false, false, false, false]) rfl (fun _ _ _ _ _ h => h) hwx ?_
                    apply Exists.intro
                    refine ⟨⟨by kernel_rfl, fun wy hw => ?_⟩, ?_⟩
                    · (have bw := hw.below; go_simp; try (first | (with_reducible rfl) | (with_reducible exact ⟨rfl, rfl⟩)))
                    try simp only [Act.put, List.getElem_toArray, List.getElem_cons_succ, List.getElem_cons_zero, List.setIfInBounds_toArray, List.set_cons_succ, List.set_cons_zero]
                    refine wpAnyK_ex (i := 3) rfl (by kernel_rfl) (listed' := #[true, true, true, true, false, false, false, false, false, false, false]) rfl (fun _ _ _ _ _ h => h) hwx ?_
                    apply Exists.intro
                    refine ⟨⟨by kernel_rfl, fun wy hw => ?_⟩, ?_⟩
                    · (have bw := hw.below; go_simp; try (first | (with_reducible rfl) | (with_reducible exact ⟨rfl, rfl⟩)))
                    try simp only [Act.put, List.getElem_toArray, List.getElem_cons_succ, List.getElem_cons_zero, List.setIfInBounds_toArray, List.set_cons_succ, List.set_cons_zero]
                    refine wpAnyK_ex (i := 4) rfl (by kernel_rfl) (listed' := #[true, true, true, true, true, false, false, false, false, false, false]) rfl (fun _ _ _ _ _ h => h) hwx ?_
                    apply Exists.intro
                    refine ⟨⟨by kernel_rfl, fun wy hw => ?_⟩, ?_⟩
                    · (have bw := hw.below; go_simp; try (first | (with_reducible rfl) | (with_reducible exact ⟨rfl, rfl⟩)))
                    try simp only [Act.put, List.getElem_toArray, List.getElem_cons_succ, List.getElem_cons_zero, List.setIfInBounds_toArray, List.set_cons_succ, List.set_cons_zero]
                    refine wpAnyK_ex (i := 5) rfl (by kernel_rfl) (listed' := #[true, true, true, true, true, true, false, false, false, false, false]) rfl (fun _ _ _ _ _ h => h) hwx ?_
                    apply Exists.intro
                    refine ⟨⟨by kernel_rfl, fun wy hw => ?_⟩, ?_⟩
                    · (have bw := hw.below; have fx := HCE.out _ bw; go_simp; try (first | (with_reducible rfl) | (with_reducible exact ⟨rfl, rfl⟩)))
                    try simp only [Act.put, List.getElem_toArray, List.getElem_cons_succ, List.getElem_cons_zero, List.setIfInBounds_toArray, List.set_cons_succ, List.set_cons_zero]
                    refine wpAnyK_ex (i := 6) rfl (by kernel_rfl) (listed' := #[true, true, true, true, true, true, true, false, false, false, false]) rfl (fun _ _ _ _ _ h => h) hwx ?_
                    apply Exists.intro
                    refine ⟨⟨by kernel_rfl, fun wy hw => ?_⟩, ?_⟩
                    · (have bw := hw.below; have q0 := (show wy.cell? ⟨X, 0, none⟩ = some (.int .i64 x.e.ag) from (HQC.out.below bw 0 (by simp)).1); have q1 := (show wy.cell? ⟨X, 1, none⟩ = some (.int .i64 (M : Nat)) from (HQC.out.below bw 1 (by simp)).1); have q2 := (show wy.cell? ⟨X, 2, none⟩ = some (.int .i64 rv) from (HQC.out.below bw 2 (by simp)).1); have q3 := (show wy.cell? ⟨X, 3, none⟩ = some (.int .i64 x.e.kd) from (HQC.out.below bw 3 (by simp)).1); have q4 := (show wy.cell? ⟨X, 4, none⟩ = some (.int .i64 x.e.tr) from (HQC.out.below bw 4 (by simp)).1); have q5 := (show wy.cell? ⟨X, 5, none⟩ = some (.int .i64 x.e.sp) from (HQC.out.below bw 5 (by simp)).1); have q6 := (show wy.cell? ⟨X, 6, none⟩ = some (.int .i64 x.e.lk) from (HQC.out.below bw 6 (by simp)).1); have q7 := (show wy.cell? ⟨X, 7, none⟩ = some (.int .i64 x.e.gn) from (HQC.out.below bw 7 (by simp)).1); have q8 := (show wy.cell? ⟨X, 8, none⟩ = some (.int .i64 x.e.op) from (HQC.out.below bw 8 (by simp)).1); have q9 := (show wy.cell? ⟨X, 9, none⟩ = some (.int .i64 x.e.vr) from (HQC.out.below bw 9 (by simp)).1); have q10 := (show wy.cell? ⟨X, 10, none⟩ = some (.int .i64 x.e.pe) from (HQC.out.below bw 10 (by simp)).1); have q11 := (show wy.cell? ⟨X, 11, none⟩ = some (.int .i64 x.e.bt) from (HQC.out.below bw 11 (by simp)).1); have q12 := (show wy.cell? ⟨X, 12, none⟩ = some (.int .i64 x.t) from (HQC.out.below bw 12 (by simp)).1); go_simp; try (first | (with_reducible rfl) | (with_reducible exact ⟨rfl, rfl⟩)))
                    try simp only [Act.put, List.getElem_toArray, List.getElem_cons_succ, List.getElem_cons_zero, List.setIfInBounds_toArray, List.set_cons_succ, List.set_cons_zero]
                    refine wpAnyK_fork1 7 (by kernel_rfl) ?_
                    refine wpOpK_step rfl (by kernel_rfl) (listed' := #[true, true, true, true, true, true, true, true, false, false, false]) rfl (by kernel_rfl) (fun K hK => ?_)
                    go_simp
                    refine hK _ _ (g8) ?_
                    clear hK K
                    try simp only [Act.put, List.getElem_toArray, List.getElem_cons_succ, List.getElem_cons_zero, List.setIfInBounds_toArray, List.set_cons_succ, List.set_cons_zero]
                    refine wpAnyK_end (by kernel_rfl) ?_
                    try simp only [pickOps, List.filterMap_cons, List.filterMap_nil, List.getElem?_toArray, List.getElem?_cons_succ, List.getElem?_cons_zero]
                    clear V8
                    have HS8 := Lib.hid (HSE.out.up H8.out (Nat.le_refl _))
                    have HO8 := Lib.hid (show Own KH w8 O (.slice adv M cv) (ls.getD a []) from by rw [← ev]; exact HS8.out.own a hav)
                    refine walk_push8 KH (w0 := w8) rfl _ _ rfl O (.slice adv M cv) (ls.getD a []) y rfl HO8.out (Below.refl _ _) (by have := HS8.out.lt; omega) wx.heap.size 1 rfl K8.out HLE.out ?_
                    intro v9 w9 ho9 hb9 hg9 hk9
                    obtain ⟨ad9, cp9, e9, _⟩ := ho9.form
                    rw [show (ls.getD a [] ++ [y]).length = M + 1 from by rw [List.length_append, ← HMM.out]; rfl] at e9
                    subst e9
                    have hev : (vs[a]'hav).val.ownBlock = (Value.slice adv M cv).ownBlock := by rw [ev]
                    obtain ⟨sn, hsn, hst⟩ := HS8.out.push a hav y ho9 (by rw [hev]; exact hg9) (by rw [hev]; exact hk9)
                    have HST := Lib.hid hst
                    have HB9 := Lib.hid (show Below w.heap.size w (w9.setCell ⟨O, a, none⟩ (.slice ad9 (M + 1) cp9)) from (((HBE.out.trans (H8.out.mono HZX.out.1)).trans (hb9.mono (Nat.le_of_lt HOO.out))).setCell (Nat.le_of_lt HOO.out) _))
                    have HRR := Lib.hid (show strN cs (ls.set a (ls.getD a [] ++ [y])) (l.drop (k + 1)) = R from by rw [hy, ← HYES.out]; exact HLP.out)
                    obtain ⟨k1, k2⟩ := HS8.out.grown_cell a hav (by rw [hev]; exact hg9)
                    rw [ev] at k1
                    have ixa := (show ∀ W, (Instr.indexAt 72 (.slice (some ⟨O, 0, none⟩) N N) (.int .i64 (a : Int))).run Tryd.prog W = .ok (.pointer (some ⟨O, a, none⟩)) W from fun W => by have := at_st8 O 0 N N a (by have := HGD.out.2.1; omega) W; rwa [Nat.zero_add] at this)
                    clear ho9 hb9 hg9 hk9 hst hwx g8 hsn
                    go_wp2_with fail
                    refine NoPanic.normal ?_
                    go_wp2_with fail
                    go_roundw
                    case rel => exact ⟨k + 1, _, _, HLT.out, by go_num, HST, Lib.hid ⟨HRR.out, by simp [hln]⟩, HB9⟩
                    case measure => have h9 := HLT.out; simp [RowKit.intOf]; omega
              · have e0' : (readE C x.t == 0) = false := by rw [beq_eq_false_iff_ne]; exact e0
                have HR1 := Lib.hid (show str1 cs ls x = ls from str1_no (fun h => by have := HIN.out.1 h; omega))
                go_wp2_with fail
                go_roundw
                case rel => exact ⟨k + 1, vs, ls, HLT.out, by go_num, HSd, Lib.hid ⟨by rw [← HR1.out]; exact HLP.out, hln⟩, HBd⟩
                case measure => have h9 := HLT.out; simp [RowKit.intOf]; omega
     · have hke : k = l.length := by omega
       have hki : ¬ (k : Int) < (l.length : Int) := by omega
       have HP := Lib.hid (show StPost w R (.returned (.slice (some ⟨O, 0, none⟩) N N)) wr from by
        have h1 := HR.out.1
        rw [hke, List.drop_length] at h1
        have h2 : R = ls := h1.symm
        subst h2
        exact ⟨O, by rw [HR.out.2], HS.out.st, HB.out⟩)
       clear hke hlt hk
       go_wp2_with fail
       go_ret
       exact HP.out
end Go.Proofs.YtamefmojocegkaaDoor

namespace Go.Proofs.YtamefmojocegkaaDoor
open Go Go.Proofs Go.RowKit Go.Lib
theorem latT_bd (k : Int) : 0 ≤ latT k ∧ latT k ≤ 1000000 := by unfold latT; repeat' split <;> omega
theorem fleet_ok (n : Int) : flB (fleetN n) = true := by
 have ha := agN_bd n
 have h1 : inB ((fleetN n).dr.length : Nat) 1 6 = true := by rw [fleetN_len]; exact inB_yes (by omega) (by omega)
 have h2 : allB (fleetN n).dr 1000 = true := by
  unfold allB
  rw [List.all_eq_true]
  intro x hx
  obtain ⟨j, _, hj⟩ := List.mem_map.1 (show x ∈ driN n (agN n) from hx)
  have := driT_bd (pick8 (n.tdiv 12 + (j : Nat)) 4)
  exact inB_yes (by omega) (by omega)
 have h3 : inB (fleetN n).lat 0 1000000 = true := inB_yes (latT_bd _).1 (latT_bd _).2
 have hl : 0 ≤ (fleetN n).lia ∧ (fleetN n).lia ≤ 2 ∧ (fleetN n).lia < ((fleetN n).dr.length : Int) := by
  rw [fleetN_len]
  show 0 ≤ pick8 (n.tdiv 48) (if 3 ≤ agN n then 3 else 2) ∧ pick8 (n.tdiv 48) (if 3 ≤ agN n then 3 else 2) ≤ 2 ∧ pick8 (n.tdiv 48) (if 3 ≤ agN n then 3 else 2) < _
  split
  · have p0 := pick8_lo (c := n.tdiv 48) (n := 3) (by decide)
    have p1 := pick8_hi (c := n.tdiv 48) (n := 3) (by decide)
    omega
  · have p0 := pick8_lo (c := n.tdiv 48) (n := 2) (by decide)
    have p1 := pick8_hi (c := n.tdiv 48) (n := 2) (by decide)
    omega
 have h5 : decide ((fleetN n).lia < ((fleetN n).dr.length : Int)) = true := decide_eq_true hl.2.2
 unfold flB
 rw [h1, h2, h3, inB_yes hl.1 hl.2.1, h5]
 rfl
noncomputable def cksN (n : Int) : List Cl := (List.range (agN n)).map (clkN (fleetN n) n)
theorem cksN_len (n : Int) : (cksN n).length = agN n := by unfold cksN; simp
theorem cksN_get (n : Int) (i : Nat) (h : i < agN n) : (cksN n).getD i zC = clkN (fleetN n) n i := by
 unfold cksN
 rw [List.getD_eq_getElem?_getD, List.getElem?_map, List.getElem?_range h]
 rfl
noncomputable def hpsN (n : Int) (l : List D4) : List Hp := madeN (fleetN n).lat (agN n) 6 (pick8 n 100) (2000000 + pick8 n 1000000) (pick8 n 21 - 1) l
noncomputable def stN (n : Int) (l : List D4) : List (List Hp) := strN (cksN n) (List.replicate (agN n) []) (hpsN n l)
noncomputable def exN (n : Int) (l : List D4) : List Hp := ofL (stN n l) (pick8 n 100)
structure ExOk (n : Int) (h : Hp) : Prop where
 ag : 0 ≤ h.e.ag ∧ h.e.ag < (agN n : Int)
 tr : h.e.tr = pick8 n 100
 src : ∃ na, EvK 6 (pick8 n 21 - 1) na 100 (fun _ => 99) h.e
 sp : 0 ≤ h.e.sp ∧ h.e.sp ≤ 9
 bt : 10 ≤ h.e.bt ∧ h.e.bt ≤ 99
 sq : 0 ≤ h.e.sq ∧ h.e.sq ≤ 999
 t : 0 ≤ h.t ∧ h.t ≤ 160000000000
 tm : h.e.tm = readV (clkN (fleetN n) n h.e.ag.toNat) h.t
 t0 : 0 ≤ h.e.tm ∧ h.e.tm ≤ 300000
theorem read_low {c : Cl} (h : ckB c = true) {t r : Int} (hr : IsRead c t r) (h1 : t ≤ 160000000000) (a : An) (ha : a ∈ c.an) (a1 : a.a ≤ 1100) (a2 : 0 ≤ a.t) : r ≤ 300000 := by
 obtain ⟨_, ⟨d0, d1⟩, _, _⟩ := ckB_of h
 have h2 := begN_ge c.dr r c.an a ha
 have h3 := hr.1
 refine Classical.byContradiction fun hn => ?_
 have h4 : begA c.dr r a = a.t + (r - a.a) * (1000000 - c.dr) := by unfold begA; rw [if_neg (by omega)]
 have h5 : (r - a.a) * 999000 ≤ (r - a.a) * (1000000 - c.dr) := Int.mul_le_mul_of_nonneg_left (by omega) (by omega)
 omega
theorem ex_ok (n : Int) (l : List D4) : (exN n l).length ≤ 24 ∧ (∀ h ∈ exN n l, ExOk n h) ∧ (exN n l).Pairwise (fun a b => a.e.ag < b.e.ag ∨ (a.e.ag = b.e.ag ∧ a.e.sq < b.e.sq ∧ a.t ≤ b.t)) ∧ (∀ a ∈ exN n l, ∀ b ∈ exN n l, folB a.e b.e = true → a.t + folN (fleetN n).lat a.e b.e ≤ b.t) := by
 have p0 := pick8_lo (c := n) (n := 100) (by decide)
 have p1 := pick8_hi (c := n) (n := 100) (by decide)
 have q0 := pick8_lo (c := n) (n := 1000000) (by decide)
 have q1 := pick8_hi (c := n) (n := 1000000) (by decide)
 have hag := agN_bd n
 obtain ⟨s, hs, hi, hl24, hnow⟩ := made_ok (latT_bd (pick8 n 4)).1 (latT_bd (pick8 n 4)).2 (agN n) 6 (by omega) (by decide) (pick8 n 100) (2000000 + pick8 n 1000000) (pick8 n 21 - 1) (by omega) (by omega) l
 have hs' : hpsN n l = s.out := hs
 have hid : pick8 (pick8 n 100) 1000 = pick8 n 100 := by
  show (if pick8 n 100 < 0 then (-(pick8 n 100 + 1)) % 1000 else pick8 n 100 % 1000) = pick8 n 100
  rw [if_neg (by omega), Int.emod_eq_of_lt p0 (by omega)]
 have hso := StrOk.all (cs := cksN n) (hpsN n l) [] (List.replicate (agN n) []) (strOk0 (cksN n) (agN n)) (by
  rw [List.nil_append, hs']
  exact hi.out.srt.imp fun h => Int.le_of_lt h)
 rw [List.nil_append] at hso
 have hst : strN (cksN n) (List.replicate (agN n) []) (hpsN n l) = stN n l := rfl
 rw [hst] at hso
 have hlen : (stN n l).length = agN n := by unfold stN; rw [strN_len]; simp
 have hmem : ∀ h ∈ exN n l, ∃ a, a < agN n ∧ HpIn (cksN n) (hpsN n l) a h ∧ h.e.tr = pick8 n 100 := by
  intro h hh
  obtain ⟨h1, h2⟩ := List.mem_filter.1 hh
  obtain ⟨ls, h3, h4⟩ := List.mem_flatten.1 h1
  obtain ⟨a, ha, rfl⟩ := List.getElem_of_mem h3
  have hg : (stN n l).getD a [] = (stN n l)[a] := getD_of8 ha
  exact ⟨a, by omega, hso.el a h (by rw [hg]; exact h4), by simpa using h2⟩
 have hfol : ∀ a ∈ exN n l, ∀ b ∈ exN n l, folB a.e b.e = true → a.t + folN (fleetN n).lat a.e b.e ≤ b.t := by
  intro a ha b hb hf
  obtain ⟨_, _, ia, _⟩ := hmem a ha
  obtain ⟨_, _, ib, _⟩ := hmem b hb
  obtain ⟨x, hx, ex, tx⟩ := ia.src
  obtain ⟨y, hy, ey, ty⟩ := ib.src
  rw [hs'] at hx hy
  have e1 : folB a.e b.e = folB x.e y.e := by rw [ex, ey]; rfl
  have e2 : folN (fleetN n).lat a.e b.e = folN (fleetN n).lat x.e y.e := by rw [ex, ey]; rfl
  rw [e1] at hf
  rw [e2, tx, ty]
  exact hi.out.fol x hx y hy hf
 refine ⟨?_, ?_, ?_, hfol⟩
 · have h1 : (exN n l).length ≤ (stN n l).flatten.length := List.length_filter_le _ _
   have h2 := hso.sum
   rw [hs'] at h2
   rw [List.length_flatten] at h1
   omega
 · intro h hh
   obtain ⟨a, ha, ih, htr⟩ := hmem h hh
   obtain ⟨x, hx, ex, tx⟩ := ih.src
   rw [hs'] at hx
   have hev := hi.out.ev x hx
   have ht := hi.out.t x hx
   have hta : h.e.ag.toNat = a := by have := ih.ag; omega
   have hc : (cksN n).getD a zC = clkN (fleetN n) n a := cksN_get n a ha
   have hok := clkN_ok n a
   have hrd : readB (clkN (fleetN n) n a) h.t = true := readB_yes hok (by omega) (by omega)
   have htm : h.e.tm = readV (clkN (fleetN n) n a) h.t := by rw [ih.tm, hc]
   have hm := hi.m
   have hna := hi.wf.l4
   refine ⟨⟨by have := ih.ag; omega, by have := ih.ag; omega⟩, htr, ⟨s.ags.length, ?_⟩, ?_, ?_, ⟨ih.s0, ih.s1⟩, ⟨by omega, by omega⟩, by rw [hta]; exact htm, ih.t0, ?_⟩
   · have hk := (hev.mono (na' := s.ags.length) (msg' := 100) (gr' := fun _ => 99) (Nat.le_refl _) (by omega) (fun r r0 r1 => by have := hi.g r r0 r1; show s.gr r ≤ 99; omega)).kd
     rw [ex]
     exact hk
   · rw [ex]; exact hev.sp
   · rw [ex]; exact hev.bt
   · rw [htm]
     have hr := readV_is hrd
     have a1 := pick8_hi (c := n.tdiv (1 + (a : Nat))) (n := 500) (by decide)
     have b0 := pick8_lo (c := n.tdiv (3 + (a : Nat))) (n := 3000000) (by decide)
     refine read_low hok hr (by omega) (anA n a) ?_ (by show 500 + pick8 (n.tdiv (1 + (a : Nat))) 500 ≤ 1100; omega) b0
     unfold clkN
     dsimp only
     split <;> exact List.mem_cons_self ..
 · unfold exN ofL
   refine List.Pairwise.filter _ ?_
   rw [List.pairwise_flatten]
   refine ⟨fun ls hls => ?_, ?_⟩
   · obtain ⟨a, ha, rfl⟩ := List.getElem_of_mem hls
     have hg : (stN n l).getD a [] = (stN n l)[a] := getD_of8 ha
     have h1 := hso.srt a
     rw [hg] at h1
     refine List.Pairwise.imp_of_mem (fun {x y} hx hy h => .inr ⟨?_, h.1, h.2⟩) h1
     have i1 := (hso.el a x (by rw [hg]; exact hx)).ag
     have i2 := (hso.el a y (by rw [hg]; exact hy)).ag
     omega
   · rw [List.pairwise_iff_getElem]
     intro i j hi' hj hij x hx y hy
     have i1 := (hso.el i x (by rw [getD_of8 hi']; exact hx)).ag
     have i2 := (hso.el j y (by rw [getD_of8 hj]; exact hy)).ag
     left
     omega
/-! ### the events of a list that are valid, and stay so if one is bent -/
theorem ExOk.good {n : Int} {h : Hp} (x : ExOk n h) : evB h.e = true := by
 have ha := agN_bd n
 have p0 := pick8_lo (c := n) (n := 100) (by decide)
 have p1 := pick8_hi (c := n) (n := 100) (by decide)
 have q0 := pick8_lo (c := n) (n := 21) (by decide)
 have q1 := pick8_hi (c := n) (n := 21) (by decide)
 obtain ⟨na, hk⟩ := x.src
 obtain ⟨⟨a1, a2⟩, a3, _, ⟨a5, a6⟩, ⟨a7, a8⟩, ⟨a9, b1⟩, _, _, b2, b3⟩ := x
 obtain ⟨e, t⟩ := h
 obtain ⟨ag, sq, tm, kd, tr, sp, lk, gn, op, vr, pe, bt⟩ := e
 dsimp only at *
 unfold evB
 dsimp only
 rw [inB_yes a1 (show ag ≤ 5 by omega), inB_yes a9 b1, inB_yes b2 (show tm ≤ 1000000 by omega), inB_yes (show 0 ≤ tr by omega) (show tr ≤ 999 by omega), inB_yes a5 a6, inB_yes (show 0 ≤ bt by omega) (show bt ≤ 1000 by omega)]
 unfold EvK at hk
 dsimp only at hk
 rcases hk with ⟨k1, ⟨k2, k3, _⟩, k5, ⟨k6, k7⟩, ⟨k8, k9⟩, k10⟩ | ⟨⟨k1, k2, k3⟩, ⟨k4, k5, k6⟩ | ⟨k4, ⟨k5, k6⟩, k7⟩ | ⟨k4, ⟨k5, k6⟩, k7, k8⟩ | ⟨k4, ⟨k5, k6⟩, k7, k8⟩⟩
 · subst k1 k5
   rw [inB_yes k2 (show lk ≤ 9 by omega), inB_yes k6 (show op ≤ 11 by omega), inB_yes k8 (show vr ≤ 9 by omega), inB_yes (show -1 ≤ pe by omega) (show pe ≤ 19 by omega)]
   have : (lk != sp) = true := by rw [bne_iff_ne]; omega
   rw [this]
   rfl
 · subst k1 k2 k3 k4 k5 k6; rfl
 · subst k1 k2 k3 k7
   rw [inB_yes k5 (show lk ≤ 99 by omega)]
   rcases k4 with rfl | rfl <;> rfl
 · subst k1 k2 k3 k4
   rw [inB_yes k5 (show lk ≤ 99 by omega), inB_yes k7 (show gn ≤ 99 by omega)]
   rfl
 · subst k1 k2 k3 k4
   rw [inB_yes k5 (show lk ≤ 99 by omega), inB_yes k7 (show gn ≤ 99 by omega)]
   rfl
end Go.Proofs.YtamefmojocegkaaDoor

namespace Go.Proofs.YtamefmojocegkaaDoor
open Go Go.Proofs Go.RowKit Go.Lib
structure HsOk (n : Int) (hs : List Hp) : Prop where
 len : hs.length ≤ 24
 ev : ∀ h ∈ hs, evB h.e = true ∧ h.e.ag < (agN n : Int) ∧ h.e.tr = pick8 n 100 ∧ (h.e.kd = 1 → h.e.op < 6)
 t : ∀ h ∈ hs, 0 ≤ h.t ∧ h.t ≤ 160000000000
 srt : hs.Pairwise fun a b => a.e.ag < b.e.ag ∨ (a.e.ag = b.e.ag ∧ a.e.sq < b.e.sq ∧ a.t ≤ b.t)
 fol : ∀ a ∈ hs, ∀ b ∈ hs, folB a.e b.e = true → a.t + folN (fleetN n).lat a.e b.e ≤ b.t
theorem ex_hs (n : Int) (l : List D4) : HsOk n (exN n l) := by
 obtain ⟨h1, h2, h3, h4⟩ := ex_ok n l
 refine ⟨h1, fun h hh => ⟨(h2 h hh).good, (h2 h hh).ag.2, (h2 h hh).tr, fun hk => ?_⟩, fun h hh => (h2 h hh).t, h3, h4⟩
 obtain ⟨na, k | ⟨_, k | k | k | k⟩⟩ := (h2 h hh).src
 · exact k.2.2.2.1.2
 · omega
 · omega
 · omega
 · omega
theorem evD_map {hs : List Hp} {i : Nat} (h : i < hs.length) : evD (hs.map (·.e)) i = hs[i].e := by rw [evD_of (by simpa using h)]; simp
theorem xD_map {hs : List Hp} {i : Nat} (h : i < hs.length) : xD (hs.map (·.t)) i = hs[i].t := by rw [xD_of (by simpa using h)]; simp
theorem evs_of {n : Int} {hs : List Hp} (h : HsOk n hs) : EvsOk (fleetN n) (hs.map (·.e)) := by
 refine ⟨fleet_ok n, by rw [List.length_map]; exact h.len, fun i hi => ?_⟩
 rw [List.length_map] at hi
 have h0 : 0 < hs.length := by omega
 obtain ⟨e1, e2, e3, e4⟩ := h.ev hs[i] (List.getElem_mem hi)
 unfold StepOk
 rw [evD_map hi, evD_map h0, fleetN_len]
 refine ⟨e1, e2, ?_, ?_, fun hpos => ?_⟩
 · rw [e3, (h.ev hs[0] (List.getElem_mem h0)).2.2.1]
 · rintro ⟨k1, k2⟩
   have h6 : ((fleetN n).sv.length : Int) = 6 := rfl
   have := e4 k1
   omega
 · have hi1 : i - 1 < hs.length := by omega
   rw [evD_map hi1]
   have := List.pairwise_iff_getElem.1 h.srt (i - 1) i hi1 hi (by omega)
   omega
theorem times_of {n : Int} {hs : List Hp} (h : HsOk n hs) : timesB (hs.map (·.e)).length (hs.map (·.t)) = true := by
 unfold timesB
 rw [Bool.and_eq_true]
 refine ⟨?_, by simp⟩
 rw [List.all_eq_true]
 intro x hx
 obtain ⟨y, hy, rfl⟩ := List.mem_map.1 hx
 have := h.t y hy
 exact inB_yes (by omega) (by omega)
theorem agree_of {n : Int} {hs : List Hp} (h : HsOk n hs) (hE : ∀ (i j : Nat) (hi : i < hs.length) (hj : j < hs.length), i < j → hs[i].e.ag = hs[j].e.ag → shB ((fleetN n).drOf hs[i].e.ag) (hs[j].e.tm - hs[i].e.tm) hs[i].t hs[j].t = true) (m : Int) : agB (fleetN n) (hs.map (·.e)) (hs.map (·.t)) m = true := by
 refine agB_yes ⟨evsB_yes (evs_of h), times_of h, fun i j hi hj => ?_⟩
 rw [List.length_map] at hi hj
 unfold PairOk
 rw [evD_map hi, evD_map hj, xD_map hi, xD_map hj]
 refine .inr (.inr (.inr ⟨fun ha hij => hE i j hi hj hij ha, fun hf => ?_⟩))
 have := h.fol hs[i] (List.getElem_mem hi) hs[j] (List.getElem_mem hj) hf
 omega
theorem sh_read {c : Cl} (h : ckB c = true) {dr s t x y : Int} (hd : c.dr ≤ dr) (hx : IsRead c s x) (hy : IsRead c t y) (hst : s ≤ t) : shB dr (y - x) s t = true := by
 obtain ⟨_, ⟨d0, d1⟩, _, hne⟩ := ckB_of h
 have hxy := read_mono h hx hy hst
 obtain ⟨k, hk⟩ := Int.eq_ofNat_of_zero_le (show 0 ≤ y - x by omega)
 have ey : y = x + (k : Int) := by omega
 subst ey
 have hup : t - s < ((k : Int) + 1) * (1000000 + dr) := by
  have h1 := (begN_steps c.dr x c.an d0 hne (k + 1)).2
  have e : x + ((k + 1 : Nat) : Int) = x + (k : Int) + 1 := by omega
  rw [e] at h1
  have h2 := hy.2; have h3 := hx.1
  have h4 : ((k + 1 : Nat) : Int) * (1000000 + c.dr) ≤ ((k : Int) + 1) * (1000000 + dr) := by
   have e2 : ((k + 1 : Nat) : Int) = (k : Int) + 1 := by omega
   rw [e2]
   exact Int.mul_le_mul_of_nonneg_left (by omega) (by omega)
  omega
 have hlo : ¬ (1 ≤ (k : Int) ∧ t - s ≤ ((k : Int) - 1) * (1000000 - dr)) := by
  rintro ⟨k1, k2⟩
  obtain ⟨q, hq⟩ : ∃ q : Nat, k = q + 1 := ⟨k - 1, by omega⟩
  have h1 := (begN_steps c.dr (x + 1) c.an d0 hne q).1
  have e : x + 1 + (q : Int) = x + (k : Int) := by omega
  rw [e] at h1
  have h2 := hy.1; have h3 := hx.2
  have h4 : ((k : Int) - 1) * (1000000 - dr) ≤ (q : Int) * (1000000 - c.dr) := by
   have e2 : (k : Int) - 1 = (q : Int) := by omega
   rw [e2]
   exact Int.mul_le_mul_of_nonneg_left (by omega) (by omega)
  omega
 unfold shB
 have e1 : x + (k : Int) - x = (k : Int) := by omega
 rw [e1]
 have g1 : decide (t < s) = false := decide_eq_false (by omega)
 have g2 : (decide (1 ≤ (k : Int)) && decide (t - s ≤ ((k : Int) - 1) * (1000000 - dr))) = false := by
  rw [← Bool.decide_and]
  exact decide_eq_false hlo
 have g3 : decide (t - s < ((k : Int) + 1) * (1000000 + dr)) = true := decide_eq_true hup
 rw [g1, g2, g3]
 rfl
theorem drOf_fleet (n : Int) (a : Nat) : (fleetN n).drOf (a : Int) = (clkN (fleetN n) n a).dr := by
 unfold Fl.drOf clkN
 rw [Int.toNat_natCast]
theorem ex_agree (n : Int) (l : List D4) (m : Int) : agB (fleetN n) ((exN n l).map (·.e)) ((exN n l).map (·.t)) m = true := by
 obtain ⟨_, h2, h3, _⟩ := ex_ok n l
 refine agree_of (ex_hs n l) (fun i j hi hj hij ha => ?_) m
 have x1 := h2 (exN n l)[i] (List.getElem_mem hi)
 have x2 := h2 (exN n l)[j] (List.getElem_mem hj)
 have x3 := List.pairwise_iff_getElem.1 h3 i j hi hj hij
 obtain ⟨a, hag⟩ := Int.eq_ofNat_of_zero_le x1.ag.1
 have t1 := x1.tm
 have t2 := x2.tm
 rw [← ha] at t2
 rw [hag] at t1 t2 ⊢
 rw [Int.toNat_natCast] at t1 t2
 have hok := clkN_ok n a
 have b1 := x1.t; have b2 := x2.t
 rw [t1, t2]
 exact sh_read hok (by rw [drOf_fleet]; exact Int.le_refl _) (readV_is (readB_yes hok (by omega) (by omega))) (readV_is (readB_yes hok (by omega) (by omega))) (by omega)
/-! ### what real clocks show -/
def clL (n less : Int) (a : Nat) : Cl := { clkN (fleetN n) n a with dr := pick8 less ((clkN (fleetN n) n a).dr + 1) }
theorem clL_dr (n less : Int) (a : Nat) : 0 ≤ (clL n less a).dr ∧ (clL n less a).dr ≤ (clkN (fleetN n) n a).dr := by
 have h := (ckB_of (clkN_ok n a)).2.1
 have p0 := pick8_lo (c := less) (n := (clkN (fleetN n) n a).dr + 1) (by omega)
 have p1 := pick8_hi (c := less) (n := (clkN (fleetN n) n a).dr + 1) (by omega)
 show 0 ≤ pick8 less ((clkN (fleetN n) n a).dr + 1) ∧ pick8 less ((clkN (fleetN n) n a).dr + 1) ≤ _
 omega
theorem clL_ok (n less : Int) (a : Nat) : ckB (clL n less a) = true := by
 have h := clkN_ok n a
 have hd := clL_dr n less a
 have h2 := (ckB_of h).2.1
 unfold ckB at h ⊢
 rw [Bool.and_eq_true, Bool.and_eq_true] at h ⊢
 exact ⟨⟨h.1.1, inB_yes hd.1 (by omega)⟩, h.2⟩
noncomputable def rdL (n less : Int) (h : Hp) : Int := readV (clL n less h.e.ag.toNat) h.t
noncomputable def shH (n less : Int) (h : Hp) : Hp := ⟨{ h.e with tm := rdL n less h }, h.t⟩
noncomputable def shK (n less : Int) (hs : List Hp) (k : Nat) : List Ev := (hs.take k).map (fun h => (shH n less h).e) ++ (hs.drop k).map (·.e)
theorem shK_zero (n less : Int) (hs : List Hp) : shK n less hs 0 = hs.map (·.e) := by unfold shK; simp
theorem shK_all (n less : Int) (hs : List Hp) : shK n less hs hs.length = (hs.map (shH n less)).map (·.e) := by unfold shK; simp
theorem shK_len (n less : Int) (hs : List Hp) (k : Nat) (hk : k ≤ hs.length) : (shK n less hs k).length = hs.length := by unfold shK; simp; omega
theorem shK_get (n less : Int) (hs : List Hp) (k : Nat) (hk : k < hs.length) : (shK n less hs k)[k]'(by rw [shK_len n less hs k (by omega)]; exact hk) = hs[k].e := by
 unfold shK
 rw [List.getElem_append_right (by simp; omega)]
 simp [Nat.min_eq_left (Nat.le_of_lt hk)]
theorem shK_step (n less : Int) (hs : List Hp) (k : Nat) (hk : k < hs.length) : shK n less hs (k + 1) = (shK n less hs k).set k (shH n less hs[k]).e := by
 have hl : ((hs.take k).map (fun h => (shH n less h).e)).length = k := by simp; omega
 unfold shK
 rw [List.drop_eq_getElem_cons hk, List.map_cons, List.set_append_right _ _ (by rw [hl]; exact Nat.le_refl _), hl, Nat.sub_self, List.set_cons_zero, List.take_succ_eq_append_getElem hk, List.map_append, List.append_assoc]
 rfl
theorem sh_agree (n less : Int) (l : List D4) (hr : ∀ h ∈ exN n l, 0 ≤ rdL n less h ∧ rdL n less h ≤ 1000000) (m : Int) : agB (fleetN n) (((exN n l).map (shH n less)).map (·.e)) ((exN n l).map (·.t)) m = true := by
 obtain ⟨_, h2, h3, _⟩ := ex_ok n l
 have hh := ex_hs n l
 have hs : HsOk n ((exN n l).map (shH n less)) := by
  refine ⟨by rw [List.length_map]; exact hh.len, fun h hm => ?_, fun h hm => ?_, ?_, fun a ha b hb hf => ?_⟩
  · obtain ⟨y, hy, rfl⟩ := List.mem_map.1 hm
    have := hh.ev y hy
    refine ⟨?_, this.2⟩
    have h1 := this.1
    unfold evB at h1 ⊢
    rw [Bool.and_eq_true, Bool.and_eq_true, Bool.and_eq_true, Bool.and_eq_true, Bool.and_eq_true, Bool.and_eq_true] at h1 ⊢
    obtain ⟨⟨⟨⟨⟨⟨k1, k2⟩, k3⟩, k4⟩, k5⟩, k6⟩, k7⟩ := h1
    exact ⟨⟨⟨⟨⟨⟨k1, k2⟩, inB_yes (hr y hy).1 (hr y hy).2⟩, k4⟩, k5⟩, k6⟩, k7⟩
  · obtain ⟨y, hy, rfl⟩ := List.mem_map.1 hm
    exact hh.t y hy
  · rw [List.pairwise_map]
    exact hh.srt
  · obtain ⟨y, hy, rfl⟩ := List.mem_map.1 ha
    obtain ⟨z, hz, rfl⟩ := List.mem_map.1 hb
    exact hh.fol y hy z hz hf
 have e : (exN n l).map (·.t) = ((exN n l).map (shH n less)).map (·.t) := by rw [List.map_map]; rfl
 rw [e]
 refine agree_of hs (fun i j hi hj hij ha => ?_) m
 rw [List.length_map] at hi hj
 have x1 := h2 (exN n l)[i] (List.getElem_mem hi)
 have x2 := h2 (exN n l)[j] (List.getElem_mem hj)
 have x3 := List.pairwise_iff_getElem.1 h3 i j hi hj hij
 rw [List.getElem_map, List.getElem_map] at ha ⊢
 have ha : (exN n l)[i].e.ag = (exN n l)[j].e.ag := ha
 obtain ⟨a, hag⟩ := Int.eq_ofNat_of_zero_le x1.ag.1
 show shB ((fleetN n).drOf (exN n l)[i].e.ag) (rdL n less (exN n l)[j] - rdL n less (exN n l)[i]) (exN n l)[i].t (exN n l)[j].t = true
 unfold rdL
 rw [← ha, hag, Int.toNat_natCast]
 have hok := clL_ok n less a
 have b1 := x1.t; have b2 := x2.t
 exact sh_read hok (by rw [drOf_fleet]; exact (clL_dr n less a).2) (readV_is (readB_yes hok (by omega) (by omega))) (readV_is (readB_yes hok (by omega) (by omega))) (by omega)
end Go.Proofs.YtamefmojocegkaaDoor
