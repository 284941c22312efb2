/-
  Blocks of words and of bytes; the plain mathematics of digest.schedule. The contract of digest.schedule: the words w(0) to w(63) of a block. The contract of digest.compress: what the eight words become with a block. Plain mathematics of digest.blocks: where the blocks of the extended list come from.
-/
import Derived.Test.YtnpfhcnjkekhbaaGreatDoorProg
import Derived.Test.YtnpfhcnjkekhbaaGreatDoorK06
import Derived.Laws.Rows
import Derived.Laws.CopyOwn
import Derived.Below
import Derived.OwnWalk
import Derived.RegionTactic
import Derived.ChangeAlike
import Derived.BigQuiet
import Derived.Deep.RegionWith
import Derived.Deep.CutRange
import Derived.Deep.DeepCutAuto
import Derived.Deep.RegionHeld3
import Derived.IntWalk
import Derived.Deep.QuietTactic
import Derived.WalkKit
import Derived.WalkLawsBesides
import Derived.Outline
import Derived.Lib.Hide
import Derived.Lib.EndianBits
set_option maxRecDepth 100000
set_option maxHeartbeats 16000000
namespace Go.Proofs.YtnpfhcnjkekhbaaGreatDoor
open Go Go.Proofs Go.RowKit Go.Lib
def u32s (l : List Nat) : Array Value := (l.map fun n => Value.int .u32 ((n : Nat) : Int)).toArray
def u8s (l : List Nat) : Array Value := (l.map fun n => Value.int .u8 ((n : Nat) : Int)).toArray
@[simp] theorem u32s_size (l : List Nat) : (u32s l).size = l.length := by simp [u32s]
@[simp] theorem u8s_size (l : List Nat) : (u8s l).size = l.length := by simp [u8s]
theorem u32s_get (l : List Nat) (i : Nat) (h : i < l.length) : (u32s l)[i]? = some (.int .u32 ((l.getD i 0 : Nat) : Int)) := by
 simp [u32s, h]
theorem u8s_get (l : List Nat) (i : Nat) (h : i < l.length) : (u8s l)[i]? = some (.int .u8 ((l.getD i 0 : Nat) : Int)) := by
 simp [u8s, h]
theorem u32s_set (l : List Nat) (i v : Nat) : (u32s l).setIfInBounds i (.int .u32 (v : Nat)) = u32s (l.set i v) := by
 simp [u32s, List.map_set]
theorem u8s_set (l : List Nat) (i v : Nat) : (u8s l).setIfInBounds i (.int .u8 (v : Nat)) = u8s (l.set i v) := by
 simp [u8s, List.map_set]
def Is32 (W : World) (g : Nat) (t : TypeId) (l : List Nat) : Prop := W.heap[g]? = some (.cells (u32s l) t (0, 0))
def Is8 (W : World) (g : Nat) (t : TypeId) (l : List Nat) : Prop := W.heap[g]? = some (.cells (u8s l) t (0, 0))
theorem Is32.cell {W : World} {g : Nat} {t : TypeId} {l : List Nat} (h : Is32 W g t l) (i : Nat) (hi : i < l.length) : W.cell? ⟨g, i, none⟩ = some (.int .u32 ((l.getD i 0 : Nat) : Int)) := by
 rw [cell_of_row W g i _ t _ h, u32s_get l i hi]
theorem Is8.cell {W : World} {g : Nat} {t : TypeId} {l : List Nat} (h : Is8 W g t l) (i : Nat) (hi : i < l.length) : W.cell? ⟨g, i, none⟩ = some (.int .u8 ((l.getD i 0 : Nat) : Int)) := by
 rw [cell_of_row W g i _ t _ h, u8s_get l i hi]
theorem Is32.frozen {W : World} {g : Nat} {t : TypeId} {l : List Nat} (h : Is32 W g t l) (i : Nat) : W.frozen? ⟨g, i, none⟩ = false := frozen_of_row W g i _ t h
theorem Is8.frozen {W : World} {g : Nat} {t : TypeId} {l : List Nat} (h : Is8 W g t l) (i : Nat) : W.frozen? ⟨g, i, none⟩ = false := frozen_of_row W g i _ t h
theorem Is32.store {W : World} {g : Nat} {t : TypeId} {l : List Nat} (h : Is32 W g t l) (i v : Nat) : Is32 (W.setCell ⟨g, i, none⟩ (.int .u32 (v : Nat))) g t (l.set i v) := by
 unfold Is32; rw [← u32s_set]; exact heap_setCell_same W g i _ t _ h
theorem Is8.store {W : World} {g : Nat} {t : TypeId} {l : List Nat} (h : Is8 W g t l) (i v : Nat) : Is8 (W.setCell ⟨g, i, none⟩ (.int .u8 (v : Nat))) g t (l.set i v) := by
 unfold Is8; rw [← u8s_set]; exact heap_setCell_same W g i _ t _ h
theorem Is32.other {W : World} {g : Nat} {t : TypeId} {l : List Nat} (h : Is32 W g t l) {a : Addr} (v : Value) (ha : g ≠ a.block) : Is32 (W.setCell a v) g t l :=
 (Below.heap_setCell W a v g ha).trans h
theorem Is8.other {W : World} {g : Nat} {t : TypeId} {l : List Nat} (h : Is8 W g t l) {a : Addr} (v : Value) (ha : g ≠ a.block) : Is8 (W.setCell a v) g t l :=
 (Below.heap_setCell W a v g ha).trans h
theorem index_at {P : Program} (T E : TypeId) (xs : List Value) (v : Value) (n : Nat) (hT : P.underlying T = some (.array n E)) (ha : ∀ w, (isAgg E).run P w = .ok false w) (hs : ∀ w, (sizeOf E).run P w = .ok 1 w) (i : Nat) (hi : i < n)
 (hv : xs[i]? = some v) (w : World) : (Instr.index T (.agg xs.toArray) (.int .i64 (i : Nat))).run P w = .ok v w := by
 unfold Instr.index
 simp [hs, ha, asIntOf, part, run_underlying hT, hv, hi]
theorem index32 {P : Program} (T E : TypeId) (l : List Nat) (n : Nat) (hn : l.length = n) (hT : P.underlying T = some (.array n E)) (ha : ∀ w, (isAgg E).run P w = .ok false w) (hs : ∀ w, (sizeOf E).run P w = .ok 1 w) (i : Nat) (hi : i < n) (w : World) :
 (Instr.index T (.agg (u32s l)) (.int .i64 (i : Nat))).run P w = .ok (.int .u32 ((l.getD i 0 : Nat) : Int)) w :=
 index_at T E _ _ n hT ha hs i hi (by simp [hn, hi]) w
theorem index8 {P : Program} (T E : TypeId) (l : List Nat) (n : Nat) (hn : l.length = n) (hT : P.underlying T = some (.array n E)) (ha : ∀ w, (isAgg E).run P w = .ok false w) (hs : ∀ w, (sizeOf E).run P w = .ok 1 w) (i : Nat) (hi : i < n) (w : World) :
 (Instr.index T (.agg (u8s l)) (.int .i64 (i : Nat))).run P w = .ok (.int .u8 ((l.getD i 0 : Nat) : Int)) w :=
 index_at T E _ _ n hT ha hs i hi (by simp [hn, hi]) w
def fillW (b : List Nat) : Nat → List Nat
 | 0 => List.replicate 64 0
 | k + 1 => (fillW b k).set (k / 4) (((fillW b k).getD (k / 4) 0 * 256 % 4294967296) ||| b.getD k 0)
theorem fillW_length (b : List Nat) : ∀ k, (fillW b k).length = 64
 | 0 => by simp [fillW]
 | k + 1 => by simp [fillW, fillW_length b k]
theorem join8 {x y : Nat} (hx : x < 16777216) (hy : y < 256) : (x * 256 % 4294967296) ||| y = x * 256 + y := by
 rw [Nat.mod_eq_of_lt (by omega), show x * 256 = x <<< 8 by rw [Nat.shiftLeft_eq]]
 exact (Nat.shiftLeft_add_eq_or_of_lt (i := 8) (by omega) x).symm
theorem getD_byte {b : List Nat} (hB : ∀ x ∈ b, x < 256) (i : Nat) : b.getD i 0 < 256 := by
 rw [List.getD_eq_getElem?_getD]
 cases h : b[i]? with
 | none => simp
 | some x => exact hB x (List.mem_of_getElem? h)
theorem fillW_four (b : List Nat) (hB : ∀ x ∈ b, x < 256) (j : Nat) (hj : j < 64) (h0 : (fillW b (4 * j)).getD j 0 = 0) : fillW b (4 * j + 4) = (fillW b (4 * j)).set j (beW b j) := by
 have hl := fillW_length b (4 * j)
 have g : ∀ v, ((fillW b (4 * j)).set j v).getD j 0 = v := by intro v; simp [hl, hj]
 have b0 := getD_byte hB (4 * j)
 have b1 := getD_byte hB (4 * j + 1)
 have b2 := getD_byte hB (4 * j + 2)
 have b3 := getD_byte hB (4 * j + 3)
 have e1 : fillW b (4 * j + 1) = (fillW b (4 * j)).set j (b.getD (4 * j) 0) := by
  rw [fillW, show 4 * j / 4 = j by omega, h0, join8 (by decide) b0]; simp
 have e2 : fillW b (4 * j + 2) = (fillW b (4 * j)).set j (b.getD (4 * j) 0 * 256 + b.getD (4 * j + 1) 0) := by
  rw [fillW, show (4 * j + 1) / 4 = j by omega, e1, g, List.set_set, join8 (by omega) b1]
 have e3 : fillW b (4 * j + 3) = (fillW b (4 * j)).set j ((b.getD (4 * j) 0 * 256 + b.getD (4 * j + 1) 0) * 256 + b.getD (4 * j + 2) 0) := by
  rw [fillW, show (4 * j + 2) / 4 = j by omega, e2, g, List.set_set, join8 (by omega) b2]
 rw [fillW, show (4 * j + 3) / 4 = j by omega, e3, g, List.set_set, join8 (by omega) b3]
 rfl
theorem fillW_words (b : List Nat) (hB : ∀ x ∈ b, x < 256) : ∀ j, j ≤ 16 → fillW b (4 * j) = (List.range j).map (beW b) ++ List.replicate (64 - j) 0
 | 0, _ => by simp [fillW]
 | j + 1, h => by
  have ih := fillW_words b hB j (by omega)
  have e : 64 - j = (63 - j) + 1 := by omega
  rw [show 4 * (j + 1) = 4 * j + 4 by omega, fillW_four b hB j (by omega), ih, e, List.replicate_succ, List.set_append_right _ _ (by simp)]
  · simp [List.range_succ]
  · rw [ih, e, List.replicate_succ]; simp
theorem fillW_64 (b : List Nat) (hB : ∀ x ∈ b, x < 256) : fillW b 64 = sched b 0 ++ List.replicate 48 0 := fillW_words b hB 16 (by omega)
theorem fillW_lt (b : List Nat) (hB : ∀ x ∈ b, x < 256) : ∀ k, ∀ x ∈ fillW b k, x < 4294967296
 | 0, x, hx => by simp [fillW] at hx; omega
 | k + 1, x, hx => by
  rcases List.mem_or_eq_of_mem_set hx with h | rfl
  · exact fillW_lt b hB k x h
  · exact or_lt32 (Nat.mod_lt _ (by decide)) (by have := getD_byte hB k; omega)
theorem getD_word {b : List Nat} (hB : ∀ x ∈ b, x < 4294967296) (i : Nat) : b.getD i 0 < 4294967296 := by
 rw [List.getD_eq_getElem?_getD]
 cases h : b[i]? with
 | none => simp
 | some x => exact hB x (List.mem_of_getElem? h)
theorem beW_lt {b : List Nat} (hB : ∀ x ∈ b, x < 256) (i : Nat) : beW b i < 4294967296 := by
 have b0 := getD_byte hB (4 * i)
 have b1 := getD_byte hB (4 * i + 1)
 have b2 := getD_byte hB (4 * i + 2)
 have b3 := getD_byte hB (4 * i + 3)
 unfold beW; omega
theorem sched_lt {b : List Nat} (hB : ∀ x ∈ b, x < 256) : ∀ k, ∀ x ∈ sched b k, x < 4294967296
 | 0, x, hx => by
  simp only [sched, List.mem_map] at hx
  obtain ⟨i, _, rfl⟩ := hx
  exact beW_lt hB i
 | k + 1, x, hx => by
  simp only [sched, List.mem_append, List.mem_singleton] at hx
  rcases hx with h | rfl
  · exact sched_lt hB k x h
  · exact add32_lt _ _
theorem q_same {P : Program} {f : FuncId} {args : Array Value} {w : World} {n : Nat} {v : Value} (c : ∀ W, Calls P f args W fun e w' => e = .returned v ∧ W = w') :
 Calls P f args (w.drewN n) fun e w'' => e = .returned v ∧ ∃ m, w'' = w.drewN m := (c _).mono fun _ _ ⟨he, hm⟩ => ⟨he, n, hm.symm⟩
theorem q_add {P : Program} {f : FuncId} {args : Array Value} {w : World} {a n : Nat} {v : Value} (c : ∀ W, Calls P f args W fun e w' => e = .returned v ∧ W = w') :
 Calls P f args (w.drewN (a + n)) fun e w'' => e = .returned v ∧ ∃ m, w'' = w.drewN (a + m) := (c _).mono fun _ _ ⟨he, hm⟩ => ⟨he, n, hm.symm⟩
theorem Is32.drewN {W : World} {g : Nat} {t : TypeId} {l : List Nat} (h : Is32 W g t l) (n : Nat) : Is32 (W.drewN n) g t l := by
 unfold Is32; rw [World.heap_drewN]; exact h
theorem u32s_one (l : List Nat) : (u32s l).all (·.oneCell') = true := by
 rw [Array.all_eq_true_iff_forall_mem]
 intro v hv
 simp only [u32s, List.mem_toArray, List.mem_map] at hv
 obtain ⟨x, _, rfl⟩ := hv
 rfl
theorem u8s_one (l : List Nat) : (u8s l).all (·.oneCell') = true := by
 rw [Array.all_eq_true_iff_forall_mem]
 intro v hv
 simp only [u8s, List.mem_toArray, List.mem_map] at hv
 obtain ⟨x, _, rfl⟩ := hv
 rfl
theorem below_drewN {n : Nat} {w w' : World} (h : Below n w w') (k : Nat) : Below n w (w'.drewN k) := ⟨h.os, h.tape, h.output, h.size, h.block⟩
theorem Is32.below {n : Nat} {W W' : World} {g : Nat} {t : TypeId} {l : List Nat} (h : Is32 W g t l) (hb : Below n W W') (hg : g < n) : Is32 W' g t l := (hb.block g hg).trans h
theorem Is8.below {n : Nat} {W W' : World} {g : Nat} {t : TypeId} {l : List Nat} (h : Is8 W g t l) (hb : Below n W W') (hg : g < n) : Is8 W' g t l := (hb.block g hg).trans h
theorem right_lit (x n : Nat) (m : Int) (hm : m = (n : Nat)) (hx : x < 4294967296) (h1 : 1 ≤ n) (h2 : n ≤ 31) (w : World) :
 Calls Tryz.prog 109 #[.int .u32 (x : Nat), .int .i64 m] w fun e w' => e = .returned (.int .u32 ((rotr x n : Nat) : Int)) ∧ w = w' := by
 subst hm; exact right_any x n hx h1 h2 w
noncomputable def schW (w : World) (b : List Nat) : World :=
 ((w.alloc (.cells (u8s b) 132)).alloc (.cells (u32s (List.replicate 64 0)) 151)).alloc (.cells (u32s (List.replicate 64 0)) 151)
theorem schW_size (w : World) (b : List Nat) : (schW w b).heap.size = w.heap.size + 3 := by simp [schW]
theorem schW_0 (w : World) (b : List Nat) : Is8 (schW w b) w.heap.size 132 b := by
 unfold Is8 schW
 exact (Below.heap_alloc _ _ _ (by simp; omega)).trans ((Below.heap_alloc _ _ _ (by simp)).trans (heap_alloc_new w _))
theorem schW_1 (w : World) (b : List Nat) : Is32 (schW w b) (w.heap.size + 1) 151 (List.replicate 64 0) := by
 unfold Is32 schW
 refine (Below.heap_alloc _ _ _ (by simp)).trans ?_
 have := heap_alloc_new (w.alloc (.cells (u8s b) 132)) (.cells (u32s (List.replicate 64 0)) 151)
 rwa [World.size_alloc] at this
theorem schW_2 (w : World) (b : List Nat) : Is32 (schW w b) (w.heap.size + 1 + 1) 151 (List.replicate 64 0) := by
 unfold Is32 schW
 have := heap_alloc_new ((w.alloc (.cells (u8s b) 132)).alloc (.cells (u32s (List.replicate 64 0)) 151)) (.cells (u32s (List.replicate 64 0)) 151)
 rwa [World.size_alloc, World.size_alloc] at this
theorem schW_below (w : World) (b : List Nat) : Below w.heap.size w (schW w b) := by
 unfold schW
 exact (((Below.refl _ _).alloc (Nat.le_refl _) _).alloc (by simp) _).alloc (by simp; omega) _
end Go.Proofs.YtnpfhcnjkekhbaaGreatDoor

namespace Go.Proofs.YtnpfhcnjkekhbaaGreatDoor
open Go Go.Proofs Go.RowKit Go.Lib
theorem schedule_any (b : List Nat) (hb : b.length = 64) (hB : ∀ x ∈ b, x < 256) (w : World) :
 Calls Tryz.prog 108 #[.agg (u8s b)] w fun e w' => e = .returned (.agg (u32s (sched b 48))) ∧ Below w.heap.size w w' := by
 have hi64 : (Tryz.prog.info? 132).map (·.size) = some (u8s b).size := by rw [u8s_size, hb]; kernel_rfl
 go_enter Tryz.func108, Tryz.ntmps108
 go_upto_region 2 with fail
 change Code.wp _ _ _ _ (schW w b)
 have hs := schW_size w b
 have h0 := schW_0 w b
 have h1 := schW_1 w b
 have h2 := schW_2 w b
 have hbw := schW_below w b
 obtain ⟨W3, hW3⟩ : ∃ W, schW w b = W := ⟨_, rfl⟩
 rw [hW3] at hs h0 h1 h2 hbw ⊢
 obtain ⟨B, hBn⟩ : ∃ n, w.heap.size = n := ⟨_, rfl⟩
 rw [hBn] at hs h0 h1 h2 hbw ⊢
 have HS := Lib.hid hs; have H0 := Lib.hid h0; have H1 := Lib.hid h1; have H2 := Lib.hid h2; have HBW := Lib.hid hbw; have HI := Lib.hid hi64; have HN := Lib.hid hb; have HBn := Lib.hid hBn
 clear hW3 hs h0 h1 h2 hbw hi64 hb hBn
 go_wp2_with (refine wpList_load_row rfl 132 (.tmp 1) rfl B rfl 132 (u8s b) (0, 0) _ H0.out Tryz.underlying132 rfl HI.out ?_)
 go_loopw [10] (fun i wr => ∃ k : Nat, k ≤ 64 ∧ i = .int .i64 k ∧ Is32 wr (B + 1 + 1) 151 (fillW b k) ∧ Is32 wr (B + 1) 151 (List.replicate 64 0) ∧ Below B w wr) (fun i _ => 64 - (RowKit.intOf i).toNat)
 case atStart => exact ⟨0, by omega, rfl, H2.out, H1.out, HBW.out⟩
 case round =>
  obtain ⟨k, hk, rfl, hA, hR, hbr⟩ := hrel
  by_cases hlt : k < 64
  · have hlt2 : (k : Int) < 64 := by omega
    have hl := fillW_length b k
    have hcell := hA.cell (k / 4) (by rw [hl]; omega)
    have hfro := hA.frozen (k / 4)
    have hidx := index8 (P := Tryz.prog) 132 5 b 64 HN.out Tryz.underlying132 Tryz.isAgg5 Tryz.sizeOf5 k hlt
    have hx := getD_word (fillW_lt b hB k) (k / 4)
    have hy := getD_byte hB k
    have hst : ∀ v, (fillW b k).getD (k / 4) 0 * 256 % 4294967296 ||| b.getD k 0 = v → fillW b (k + 1) = (fillW b k).set (k / 4) v := fun v hv => by rw [← hv]; rfl
    obtain ⟨x, hxe⟩ : ∃ x, (fillW b k).getD (k / 4) 0 = x := ⟨_, rfl⟩
    obtain ⟨y, hye⟩ : ∃ y, b.getD k 0 = y := ⟨_, rfl⟩
    rw [hxe] at hcell hx
    rw [hye] at hidx hy
    rw [hxe, hye] at hst
    obtain ⟨v, hv⟩ : ∃ v, x * 256 % 4294967296 ||| y = v := ⟨_, rfl⟩
    have hor : bits .or .u32 ((x : Int) * 256 % 4294967296) (y : Int) = (v : Int) := by
     rw [show ((x : Int) * 256 % 4294967296) = ((x * 256 % 4294967296 : Nat) : Int) by simp, or32 (Nat.mod_lt _ (by decide)) (by omega), hv]
    have hy2 : (y : Int) < 256 := by omega
    have HST := Lib.hid (hst v hv); have HA := Lib.hid hA; have HR := Lib.hid hR; have HB := Lib.hid hbr
    clear hst hv hxe hye hA hR hbr hl
    go_wp2
    go_roundw
    case rel => exact ⟨k + 1, by omega, by go_num, by rw [HST.out]; exact HA.out.store _ _, HR.out.other _ (by simp), HB.out.setCell (by simp; omega) _⟩
    case measure => simp [RowKit.intOf]; omega
  · have hk2 : k = 64 := by omega
    rw [hk2, fillW_64 b hB] at hA
    obtain ⟨wo, hwo⟩ : ∃ wo : World, wo = wr := ⟨_, rfl⟩
    rw [← hwo] at hA hR hbr ⊢
    have HA := Lib.hid hA; have HR := Lib.hid hR; have HB := Lib.hid hbr
    clear hk2 hA hR hbr hwo
    go_wp2_with fail
    go_loopw [6] (fun i wr => ∃ k : Nat, 16 ≤ k ∧ k ≤ 64 ∧ i = .int .i64 k ∧ Is32 wr (B + 1 + 1) 151 (sched b (k - 16) ++ List.replicate (64 - k) 0) ∧ Is32 wr (B + 1) 151 (List.replicate 64 0) ∧ Below B w wr) (fun i _ => 64 - (RowKit.intOf i).toNat)
    case atStart => exact ⟨16, by omega, by omega, rfl, HA.out, HR.out, HB.out⟩
    case round =>
     obtain ⟨k, hk16, hk, rfl, hA, hR, hbr⟩ := hrel
     have hsl := sched_length b (k - 16)
     have hal : (sched b (k - 16) ++ List.replicate (64 - k) 0).length = 64 := by simp [hsl]; omega
     by_cases hlt : k < 64
     · have hlt2 : (k : Int) < 64 := by omega
       have hlow2 : (16 : Int) ≤ (k : Int) := by omega
       have hg : ∀ j, j < k → (sched b (k - 16) ++ List.replicate (64 - k) 0).getD j 0 = (sched b (k - 16)).getD j 0 := by
        intro j hj
        rw [List.getD_eq_getElem?_getD, List.getD_eq_getElem?_getD, List.getElem?_append_left (by omega)]
       have c16 := hA.cell (k - 16) (by omega)
       have c15 := hA.cell (k - 15) (by omega)
       have c7 := hA.cell (k - 7) (by omega)
       have c2 := hA.cell (k - 2) (by omega)
       rw [hg _ (by omega)] at c16 c15 c7 c2
       have x16l := getD_word (sched_lt hB (k - 16)) (k - 16)
       have x15l := getD_word (sched_lt hB (k - 16)) (k - 15)
       have x7l := getD_word (sched_lt hB (k - 16)) (k - 7)
       have x2l := getD_word (sched_lt hB (k - 16)) (k - 2)
       have hnx : ∀ v, wNext (sched b (k - 16)) = v → (sched b (k - 16) ++ List.replicate (64 - k) 0).set k v = sched b (k + 1 - 16) ++ List.replicate (64 - (k + 1)) 0 := by
        intro v hv
        rw [show k + 1 - 16 = (k - 16) + 1 by omega, sched, hv, show 64 - k = (64 - (k + 1)) + 1 by omega, List.replicate_succ, List.set_append_right _ _ (by omega), show k - (sched b (k - 16)).length = 0 by omega]
        simp
       have hw : wNext (sched b (k - 16)) = add32 (add32 (add32 ((sched b (k - 16)).getD (k - 16) 0) (sg0 ((sched b (k - 16)).getD (k - 15) 0))) ((sched b (k - 16)).getD (k - 7) 0)) (sg1 ((sched b (k - 16)).getD (k - 2) 0)) := by
        unfold wNext; rw [hsl, show 16 + (k - 16) = k by omega]
       obtain ⟨x16, e16⟩ : ∃ x, (sched b (k - 16)).getD (k - 16) 0 = x := ⟨_, rfl⟩
       obtain ⟨x15, e15⟩ : ∃ x, (sched b (k - 16)).getD (k - 15) 0 = x := ⟨_, rfl⟩
       obtain ⟨x7, e7⟩ : ∃ x, (sched b (k - 16)).getD (k - 7) 0 = x := ⟨_, rfl⟩
       obtain ⟨x2, e2⟩ : ∃ x, (sched b (k - 16)).getD (k - 2) 0 = x := ⟨_, rfl⟩
       rw [e16] at c16 x16l hw
       rw [e15] at c15 x15l hw
       rw [e7] at c7 x7l hw
       rw [e2] at c2 x2l hw
       have k7 := fun W => right_lit x15 7 7 rfl x15l (by decide) (by decide) W
       have k18 := fun W => right_lit x15 18 18 rfl x15l (by decide) (by decide) W
       have k17 := fun W => right_lit x2 17 17 rfl x2l (by decide) (by decide) W
       have k19 := fun W => right_lit x2 19 19 rfl x2l (by decide) (by decide) W
       have l7 := rotr_lt (n := 7) x15l
       have l18 := rotr_lt (n := 18) x15l
       have l17 := rotr_lt (n := 17) x2l
       have l19 := rotr_lt (n := 19) x2l
       have hs0 : sg0 x15 = (rotr x15 7 ^^^ rotr x15 18) ^^^ (x15 / 8) := rfl
       have hs1 : sg1 x2 = (rotr x2 17 ^^^ rotr x2 19) ^^^ (x2 / 1024) := rfl
       obtain ⟨r7, er7⟩ : ∃ r, rotr x15 7 = r := ⟨_, rfl⟩
       obtain ⟨r18, er18⟩ : ∃ r, rotr x15 18 = r := ⟨_, rfl⟩
       obtain ⟨r17, er17⟩ : ∃ r, rotr x2 17 = r := ⟨_, rfl⟩
       obtain ⟨r19, er19⟩ : ∃ r, rotr x2 19 = r := ⟨_, rfl⟩
       rw [er7] at k7 l7 hs0
       rw [er18] at k18 l18 hs0
       rw [er17] at k17 l17 hs1
       rw [er19] at k19 l19 hs1
       have pl := xor_lt32 l7 l18
       have ql := xor_lt32 l17 l19
       have a1 := xor32 l7 l18
       have a2 := xor32 l17 l19
       obtain ⟨p, ep⟩ : ∃ p, r7 ^^^ r18 = p := ⟨_, rfl⟩
       obtain ⟨q, eq⟩ : ∃ q, r17 ^^^ r19 = q := ⟨_, rfl⟩
       rw [ep] at pl a1 hs0
       rw [eq] at ql a2 hs1
       have a3 : bits .xor .u32 (p : Int) ((x15 : Int) / 8) = ((sg0 x15 : Nat) : Int) := by
        rw [show (x15 : Int) / 8 = ((x15 / 8 : Nat) : Int) by omega, xor32 pl (by omega), hs0]
       have a4 : bits .xor .u32 (q : Int) ((x2 : Int) / 1024) = ((sg1 x2 : Nat) : Int) := by
        rw [show (x2 : Int) / 1024 = ((x2 / 1024 : Nat) : Int) by omega, xor32 ql (by omega), hs1]
       obtain ⟨s0, es0⟩ : ∃ s, sg0 x15 = s := ⟨_, rfl⟩
       obtain ⟨s1, es1⟩ : ∃ s, sg1 x2 = s := ⟨_, rfl⟩
       rw [es0] at a3 hw
       rw [es1] at a4 hw
       have b1 := wadd32 x16 s0
       obtain ⟨t1, et1⟩ : ∃ t, add32 x16 s0 = t := ⟨_, rfl⟩
       rw [et1] at b1 hw
       have b2 := wadd32 t1 x7
       obtain ⟨t2, et2⟩ : ∃ t, add32 t1 x7 = t := ⟨_, rfl⟩
       rw [et2] at b2 hw
       have b3 := wadd32 t2 s1
       obtain ⟨t3, et3⟩ : ∃ t, add32 t2 s1 = t := ⟨_, rfl⟩
       rw [et3] at b3 hw
       have HN2 := Lib.hid (hnx t3 hw)
       have hfro := hA.frozen k
       have hcell : wr.cell? ⟨B + 1 + 1, k, none⟩ = some (.int .u32 (((sched b (k - 16) ++ List.replicate (64 - k) 0).getD k 0 : Nat) : Int)) := hA.cell k (by omega)
       obtain ⟨old, eo⟩ : ∃ o, (sched b (k - 16) ++ List.replicate (64 - k) 0).getD k 0 = o := ⟨_, rfl⟩
       rw [eo] at hcell
       have HA := Lib.hid hA; have HR := Lib.hid hR; have HB := Lib.hid hbr; have K7 := Lib.hid k7; have K18 := Lib.hid k18; have K17 := Lib.hid k17; have K19 := Lib.hid k19
       clear hA hR hbr k7 k18 k17 k19 hs0 hs1 er7 er18 er17 er19 ep eq es0 es1 et1 et2 et3 e16 e15 e7 e2 hw hnx hg hal hsl eo
       go_wp2_with fail
       go_quiet ((first | (go_at_call 109; exact q_same K7.out) | (go_at_call 109; exact q_same K18.out)))
       go_wp2_with fail
       go_quiet ((first | (go_at_call 109; exact q_add K17.out) | (go_at_call 109; exact q_add K19.out)))
       go_wp2_with fail
       go_region
       go_wp2
       go_roundw
       case rel => exact ⟨k + 1, by omega, by omega, by go_num, by rw [← HN2.out]; exact (HA.out.drewN _).store _ _, (HR.out.drewN _).other _ (by simp), (below_drewN HB.out _).setCell (by simp; omega) _⟩
       case measure => simp [RowKit.intOf]; omega
     · have hk2 : k = 64 := by omega
       rw [hk2] at hA
       have hA' : Is32 wr (B + 1 + 1) 151 (sched b 48) := by simpa using hA
       have hi72 : (Tryz.prog.info? 151).map (·.size) = some (u32s (sched b 48)).size := by rw [u32s_size, sched_length]; kernel_rfl
       have HA := Lib.hid hA'; have HR := Lib.hid hR; have HB := Lib.hid hbr; have HJ := Lib.hid hi72
       clear hA hA' hR hbr hk2 hal hsl hi72
       go_wp2_with (first | (refine wpList_load_row rfl 151 (.tmp 3) rfl (B + 1 + 1) rfl 151 (u32s (sched b 48)) (0, 0) _ HA.out Tryz.underlying151 rfl HJ.out ?_) | (refine wpList_store_row rfl 151 (.tmp 2) (.tmp 79) rfl (B + 1) (u32s (sched b 48)) rfl rfl 151 (u32s (List.replicate 64 0)) HR.out HJ.out (by simp [sched_length]) (u32s_one _) ?_))
       exact bodyPost_ret (v := .agg (u32s (sched b 48))) (results_cell_row rfl _ _ (B + 1) 151 _ (0, 0) _ rfl (setRow_heap _ _ _ _ _ _ HR.out) Tryz.underlying151 rfl HJ.out) rfl ⟨rfl, by rw [HBn.out]; exact below_setRow (g := B + 1) HB.out (by omega) _⟩
end Go.Proofs.YtnpfhcnjkekhbaaGreatDoor

namespace Go.Proofs.YtnpfhcnjkekhbaaGreatDoor
open Go Go.Proofs Go.RowKit Go.Lib
def HasK (w : World) : Prop := ∀ i, i < 64 → w.cell? ⟨1, i, none⟩ = some (.int .u32 ((shaK.getD i 0 : Nat) : Int))
theorem HasK.below {w w' : World} {n : Nat} (h : HasK w) (hb : Below n w w') (hn : 1 < n) : HasK w' :=
 fun i hi => (hb.cell (p := ⟨1, i, none⟩) hn).trans (h i hi)
theorem shaK_lt : ∀ x ∈ shaK, x < 4294967296 := by decide
theorem rnd_lt {k w : Nat} {l : List Nat} (h : ∀ x ∈ l, x < 4294967296) : ∀ x ∈ rnd k w l, x < 4294967296 := by
 unfold rnd
 split
 · rename_i a b c d e f g h'
   intro x hx
   simp only [List.mem_cons, List.not_mem_nil, or_false] at hx
   rcases hx with rfl | rfl | rfl | rfl | rfl | rfl | rfl | rfl
   · exact add32_lt _ _
   · exact h _ (by simp)
   · exact h _ (by simp)
   · exact h _ (by simp)
   · exact add32_lt _ _
   · exact h _ (by simp)
   · exact h _ (by simp)
   · exact h _ (by simp)
 · exact h
theorem rnds_lt (W : List Nat) {s : List Nat} (h : ∀ x ∈ s, x < 4294967296) : ∀ n, ∀ x ∈ rnds W s n, x < 4294967296
 | 0 => h
 | n + 1 => rnd_lt (rnds_lt W h n)
theorem eight {l : List Nat} (h : l.length = 8) : ∃ a b c d e f g i, l = [a, b, c, d, e, f, g, i] := by
 match l, h with
 | [a, b, c, d, e, f, g, i], _ => exact ⟨a, b, c, d, e, f, g, i, rfl⟩
theorem addL_get : ∀ (s t : List Nat) (i : Nat), s.length = t.length → i < s.length → (addL s t).getD i 0 = add32 (s.getD i 0) (t.getD i 0)
 | a :: s, b :: t, 0, _, _ => by simp [addL]
 | a :: s, b :: t, i + 1, h, hi => by
  have := addL_get s t i (by simpa using h) (by simpa using hi)
  simpa [addL] using this
theorem addL_lt : ∀ (s t : List Nat), ∀ x ∈ addL s t, x < 4294967296
 | a :: s, b :: t, x, h => by
  simp only [addL, List.mem_cons] at h
  rcases h with rfl | h
  · exact add32_lt _ _
  · exact addL_lt s t x h
 | [], _, x, h => by simp [addL] at h
 | _ :: _, [], x, h => by simp [addL] at h
theorem comp_lt (s b : List Nat) : ∀ x ∈ comp s b, x < 4294967296 := addL_lt _ _
theorem addTo_step (s t : List Nat) (h : s.length = t.length) (k : Nat) (hk : k < s.length) :
 ((addL s t).take k ++ s.drop k).set k (add32 (s.getD k 0) (t.getD k 0)) = (addL s t).take (k + 1) ++ s.drop (k + 1) := by
 have hl := addL_length s t h
 have e1 : s.drop k = s[k] :: s.drop (k + 1) := List.drop_eq_getElem_cons hk
 have hlt : ((addL s t).take k).length = k := by simp; omega
 rw [List.set_append_right _ _ (by omega), hlt, Nat.sub_self, e1, List.set_cons_zero, List.take_succ_eq_append_getElem (by omega), List.append_assoc]
 have : (addL s t)[k]'(by omega) = add32 (s.getD k 0) (t.getD k 0) := by
  rw [← addL_get s t k h hk]; simp [List.getD_eq_getElem?_getD, hl, hk]
 rw [this]; rfl
theorem addTo_get (s t : List Nat) (h : s.length = t.length) (k : Nat) (hk : k < s.length) : ((addL s t).take k ++ s.drop k).getD k 0 = s.getD k 0 := by
 have hl := addL_length s t h
 have hlt : ((addL s t).take k).length = k := by simp; omega
 rw [List.getD_eq_getElem?_getD, List.getElem?_append_right (by omega), hlt]
 simp [List.getD_eq_getElem?_getD]
theorem addTo_length (s t : List Nat) (h : s.length = t.length) (k : Nat) (hk : k ≤ s.length) : ((addL s t).take k ++ s.drop k).length = s.length := by
 have hl := addL_length s t h
 simp [hl]; omega
noncomputable def cmpW (w : World) (s b : List Nat) : World :=
 ((w.alloc (.cells (u32s s) 128)).alloc (.cells (u8s b) 132)).alloc (.cells (u32s (List.replicate 8 0)) 128)
theorem cmpW_size (w : World) (s b : List Nat) : (cmpW w s b).heap.size = w.heap.size + 3 := by simp [cmpW]
theorem cmpW_0 (w : World) (s b : List Nat) : Is32 (cmpW w s b) w.heap.size 128 s := by
 unfold Is32 cmpW
 exact (Below.heap_alloc _ _ _ (by simp; omega)).trans ((Below.heap_alloc _ _ _ (by simp)).trans (heap_alloc_new w _))
theorem cmpW_1 (w : World) (s b : List Nat) : Is8 (cmpW w s b) (w.heap.size + 1) 132 b := by
 unfold Is8 cmpW
 refine (Below.heap_alloc _ _ _ (by simp)).trans ?_
 have := heap_alloc_new (w.alloc (.cells (u32s s) 128)) (.cells (u8s b) 132)
 rwa [World.size_alloc] at this
theorem cmpW_2 (w : World) (s b : List Nat) : Is32 (cmpW w s b) (w.heap.size + 1 + 1) 128 (List.replicate 8 0) := by
 unfold Is32 cmpW
 have := heap_alloc_new ((w.alloc (.cells (u32s s) 128)).alloc (.cells (u8s b) 132)) (.cells (u32s (List.replicate 8 0)) 128)
 rwa [World.size_alloc, World.size_alloc] at this
theorem cmpW_below (w : World) (s b : List Nat) : Below w.heap.size w (cmpW w s b) := by
 unfold cmpW
 exact (((Below.refl _ _).alloc (Nat.le_refl _) _).alloc (by simp) _).alloc (by simp; omega) _
noncomputable def cmpW2 (w : World) (l : List Nat) : World := (w.alloc (.cells (u32s (List.replicate 64 0)) 151)).setRow w.heap.size (u32s l)
theorem cmpW2_new (w : World) (l : List Nat) : Is32 (cmpW2 w l) w.heap.size 151 l := setRow_heap _ _ _ _ _ _ (heap_alloc_new w _)
theorem cmpW2_old (w : World) (l : List Nat) (k : Nat) (hk : k < w.heap.size) : (cmpW2 w l).heap[k]? = w.heap[k]? :=
 (setRow_other _ _ _ _ (by omega)).trans (Below.heap_alloc _ _ _ hk)
theorem cmpW2_below {n : Nat} {w0 w : World} (h : Below n w0 w) (l : List Nat) (hn : n ≤ w.heap.size) : Below n w0 (cmpW2 w l) := below_setRow (h.alloc hn _) hn _
theorem HasK.same {w w' : World} (h : HasK w) (hh : w'.heap[(1 : Nat)]? = w.heap[(1 : Nat)]?) : HasK w' := by
 intro i hi
 rw [← h i hi]
 unfold World.cell?; simp only [hh]
theorem compress_any (s b : List Nat) (hsl : s.length = 8) (hS : ∀ x ∈ s, x < 4294967296) (hb : b.length = 64) (hB : ∀ x ∈ b, x < 256) (w : World) (hK : HasK w) (hG : 1 < w.heap.size) :
 Calls Tryz.prog 92 #[.agg (u32s s), .agg (u8s b)] w fun e w' => e = .returned (.agg (u32s (comp s b))) ∧ Below w.heap.size w w' := by
 have hi64 : (Tryz.prog.info? 132).map (·.size) = some (u8s b).size := by rw [u8s_size, hb]; kernel_rfl
 have hi72 : (Tryz.prog.info? 151).map (·.size) = some (u32s (sched b 48)).size := by rw [u32s_size, sched_length]; kernel_rfl
 go_enter Tryz.func92, Tryz.ntmps92
 go_upto_region 1 with fail
 change Code.wp _ _ _ _ (cmpW w s b)
 have hs := cmpW_size w s b
 have h0 := cmpW_0 w s b
 have h1 := cmpW_1 w s b
 have h2 := cmpW_2 w s b
 have hbw := cmpW_below w s b
 obtain ⟨W3, hW3⟩ : ∃ W, cmpW w s b = W := ⟨_, rfl⟩
 rw [hW3] at hs h0 h1 h2 hbw ⊢
 have hK3 := hK.below hbw hG
 obtain ⟨B, hBn⟩ : ∃ n, w.heap.size = n := ⟨_, rfl⟩
 rw [hBn] at hs h0 h1 h2 hbw hG ⊢
 have HS := Lib.hid hs; have H0 := Lib.hid h0; have H1 := Lib.hid h1; have H2 := Lib.hid h2; have HBW := Lib.hid hbw; have HI := Lib.hid hi64; have HJ := Lib.hid hi72; have HN := Lib.hid hb; have HBn := Lib.hid hBn; have HSL := Lib.hid hsl; have HK3 := Lib.hid hK3; have HG := Lib.hid hG
 clear hW3 hs h0 h1 h2 hbw hi64 hi72 hb hBn hsl hK hK3 hG
 go_wp2_with (refine wpList_load_row rfl 132 (.tmp 3) rfl (B + 1) rfl 132 (u8s b) (0, 0) _ H1.out Tryz.underlying132 rfl HI.out ?_)
 refine (schedule_any b HN.out hB _).mono ?_
 rintro e W4 ⟨rfl, hb4⟩
 have g0 := H0.out.below hb4 (by have := HS.out; omega)
 have g2 := H2.out.below hb4 (by have := HS.out; omega)
 have gK := HK3.out.below hb4 (by have := HS.out; have := HG.out; omega)
 have gB : Below B w W4 := by have h := HBW.out; exact h.trans (hb4.mono (by have := HS.out; omega))
 have gS := hb4.size
 rw [HS.out] at gS
 obtain ⟨S, hSd⟩ : ∃ S, W4.heap.size = S := ⟨_, rfl⟩
 rw [hSd] at gS
 have H0 := Lib.hid g0; have H2 := Lib.hid g2; have HK4 := Lib.hid gK; have HB4 := Lib.hid gB; have HSd := Lib.hid hSd
 clear g0 g2 gK gB hSd hb4
 go_wp2_with (refine wpList_store_row rfl 151 (.tmp 5) (.tmp 20) rfl W4.heap.size (u32s (sched b 48)) rfl rfl 151 _ (heap_alloc_new W4 _) HJ.out (by rw [u32s_size, sched_length]; rfl) (u32s_one _) ?_)
 change Code.wp _ _ _ _ (cmpW2 W4 (sched b 48))
 have g0 : Is32 (cmpW2 W4 (sched b 48)) B 128 s := (cmpW2_old W4 _ B (by rw [HSd.out]; omega)).trans H0.out
 have g2 : Is32 (cmpW2 W4 (sched b 48)) (B + 1 + 1) 128 (List.replicate 8 0) := (cmpW2_old W4 _ _ (by rw [HSd.out]; omega)).trans H2.out
 have gK : HasK (cmpW2 W4 (sched b 48)) := HK4.out.same (cmpW2_old W4 _ _ (by rw [HSd.out]; have := HG.out; omega))
 have gB := cmpW2_below HB4.out (sched b 48) (by rw [HSd.out]; omega)
 have gn := cmpW2_new W4 (sched b 48)
 obtain ⟨W5, hW5⟩ : ∃ W, cmpW2 W4 (sched b 48) = W := ⟨_, rfl⟩
 rw [hW5] at g0 g2 gK gB gn ⊢
 rw [HSd.out] at gn ⊢
 obtain ⟨a0, b0, c0, d0, e0, f0, g0', i0, hse⟩ := eight HSL.out
 have c0' := g0.cell 0 (by rw [hse]; simp)
 have c1' := g0.cell 1 (by rw [hse]; simp)
 have c2' := g0.cell 2 (by rw [hse]; simp)
 have c3' := g0.cell 3 (by rw [hse]; simp)
 have c4' := g0.cell 4 (by rw [hse]; simp)
 have c5' := g0.cell 5 (by rw [hse]; simp)
 have c6' := g0.cell 6 (by rw [hse]; simp)
 have c7' := g0.cell 7 (by rw [hse]; simp)
 have H0 := Lib.hid g0; have H2 := Lib.hid g2; have HK := Lib.hid gK; have HB := Lib.hid gB; have HNW := Lib.hid gn
 clear g0 g2 gK gB gn hW5
 rw [hse] at c0' c1' c2' c3' c4' c5' c6' c7'
 simp only [List.getD_cons_zero, List.getD_cons_succ] at c0' c1' c2' c3' c4' c5' c6' c7'
 have hlt0 := rnds_lt (sched b 48) hS 0
 have HSE := Lib.hid hse
 clear hse
 go_simp
 go_quiet (fail)
 go_wp2_with fail
 go_loopw [6, 7, 8, 9, 10, 11, 12, 13, 37] (fun va vb vc vd ve vf vg vh i wr => ∃ (k x0 x1 x2 x3 x4 x5 x6 x7 m : Nat), k ≤ 64 ∧ i = .int .i64 k ∧ va = .int .u32 (x0 : Nat) ∧ vb = .int .u32 (x1 : Nat) ∧ vc = .int .u32 (x2 : Nat) ∧ vd = .int .u32 (x3 : Nat) ∧ ve = .int .u32 (x4 : Nat) ∧ vf = .int .u32 (x5 : Nat) ∧ vg = .int .u32 (x6 : Nat) ∧ vh = .int .u32 (x7 : Nat) ∧ rnds (sched b 48) s k = [x0, x1, x2, x3, x4, x5, x6, x7] ∧ wr = W5.drewN m)
  (fun _ _ _ _ _ _ _ _ i _ => 64 - (RowKit.intOf i).toNat)
 case atStart => exact ⟨0, a0, b0, c0, d0, e0, f0, g0', i0, nq, by omega, rfl, rfl, rfl, rfl, rfl, rfl, rfl, rfl, rfl, HSE.out, rfl⟩
 case round =>
  obtain ⟨k, a, b1, c, d, e, f, g, h, m, hk, rfl, rfl, rfl, rfl, rfl, rfl, rfl, rfl, rfl, hr, rfl⟩ := hrel
  by_cases hlt : k < 64
  · have hlt2 : (k : Int) < 64 := by omega
    have hall := rnds_lt (sched b 48) hS k
    rw [hr] at hall
    have la := hall a (by simp); have lb := hall b1 (by simp); have lc := hall c (by simp); have ld := hall d (by simp)
    have le := hall e (by simp); have lf := hall f (by simp); have lg := hall g (by simp); have lh := hall h (by simp)
    have hnext : rnds (sched b 48) s (k + 1) = [add32 (shaT e f g h (shaK.getD k 0) ((sched b 48).getD k 0)) (shaU a b1 c), a, b1, c, add32 d (shaT e f g h (shaK.getD k 0) ((sched b 48).getD k 0)), e, f, g] := by
     rw [rnds, hr]; rfl
    have hkc := HK.out k hlt
    have hwc := HNW.out.cell k (by rw [sched_length]; omega)
    have lk := getD_word shaK_lt k
    have lw := getD_word (sched_lt hB 48) k
    have hT : shaT e f g h (shaK.getD k 0) ((sched b 48).getD k 0) = add32 (add32 (add32 (add32 h ((rotr e 6 ^^^ rotr e 11) ^^^ rotr e 25)) ((e &&& f) ^^^ ((4294967295 - e) &&& g))) (shaK.getD k 0)) ((sched b 48).getD k 0) := rfl
    have hU : shaU a b1 c = add32 ((rotr a 2 ^^^ rotr a 13) ^^^ rotr a 22) (((a &&& b1) ^^^ (a &&& c)) ^^^ (b1 &&& c)) := rfl
    obtain ⟨kk, ekk⟩ : ∃ x, shaK.getD k 0 = x := ⟨_, rfl⟩
    obtain ⟨ww, eww⟩ : ∃ x, (sched b 48).getD k 0 = x := ⟨_, rfl⟩
    rw [ekk] at hkc lk
    rw [eww] at hwc lw
    rw [ekk, eww] at hT hnext
    obtain ⟨T, eT⟩ : ∃ x, shaT e f g h kk ww = x := ⟨_, rfl⟩
    obtain ⟨U, eU⟩ : ∃ x, shaU a b1 c = x := ⟨_, rfl⟩
    rw [eT] at hT hnext
    rw [eU] at hU hnext
    have k6 := fun W => right_lit e 6 6 rfl le (by decide) (by decide) W
    have k11 := fun W => right_lit e 11 11 rfl le (by decide) (by decide) W
    have k25 := fun W => right_lit e 25 25 rfl le (by decide) (by decide) W
    have k2 := fun W => right_lit a 2 2 rfl la (by decide) (by decide) W
    have k13 := fun W => right_lit a 13 13 rfl la (by decide) (by decide) W
    have k22 := fun W => right_lit a 22 22 rfl la (by decide) (by decide) W
    have l6 := rotr_lt (n := 6) le
    have l11 := rotr_lt (n := 11) le
    have l25 := rotr_lt (n := 25) le
    have l2 := rotr_lt (n := 2) la
    have l13 := rotr_lt (n := 13) la
    have l22 := rotr_lt (n := 22) la
    obtain ⟨r6, e6⟩ : ∃ x, rotr e 6 = x := ⟨_, rfl⟩
    obtain ⟨r11, e11⟩ : ∃ x, rotr e 11 = x := ⟨_, rfl⟩
    obtain ⟨r25, e25⟩ : ∃ x, rotr e 25 = x := ⟨_, rfl⟩
    obtain ⟨r2, e2⟩ : ∃ x, rotr a 2 = x := ⟨_, rfl⟩
    obtain ⟨r13, e13⟩ : ∃ x, rotr a 13 = x := ⟨_, rfl⟩
    obtain ⟨r22, e22⟩ : ∃ x, rotr a 22 = x := ⟨_, rfl⟩
    rw [e6] at k6 l6 hT; rw [e11] at k11 l11 hT; rw [e25] at k25 l25 hT
    rw [e2] at k2 l2 hU; rw [e13] at k13 l13 hU; rw [e22] at k22 l22 hU
    -- the sums of the first word
    have x1 := xor32 l6 l11
    have m1 := xor_lt32 l6 l11
    obtain ⟨p1, ep1⟩ : ∃ x, r6 ^^^ r11 = x := ⟨_, rfl⟩
    rw [ep1] at x1 m1 hT
    have x2 := xor32 m1 l25
    have m2 := xor_lt32 m1 l25
    obtain ⟨p2, ep2⟩ : ∃ x, p1 ^^^ r25 = x := ⟨_, rfl⟩
    rw [ep2] at x2 m2 hT
    have x4 := and32 le lf
    have m4 := and_lt32 f le
    obtain ⟨p4, ep4⟩ : ∃ x, e &&& f = x := ⟨_, rfl⟩
    rw [ep4] at x4 m4 hT
    have x5 := not32 le
    have m5 : 4294967295 - e < 4294967296 := by omega
    obtain ⟨p5, ep5⟩ : ∃ x, 4294967295 - e = x := ⟨_, rfl⟩
    rw [ep5] at x5 m5 hT
    have x6 := and32 m5 lg
    have m6 := and_lt32 g m5
    obtain ⟨p6, ep6⟩ : ∃ x, p5 &&& g = x := ⟨_, rfl⟩
    rw [ep6] at x6 m6 hT
    have x7 := xor32 m4 m6
    obtain ⟨p7, ep7⟩ : ∃ x, p4 ^^^ p6 = x := ⟨_, rfl⟩
    rw [ep7] at x7 hT
    -- the sums of the second word
    have y1 := xor32 l2 l13
    have n1 := xor_lt32 l2 l13
    obtain ⟨q1, eq1⟩ : ∃ x, r2 ^^^ r13 = x := ⟨_, rfl⟩
    rw [eq1] at y1 n1 hU
    have y2 := xor32 n1 l22
    obtain ⟨q2, eq2⟩ : ∃ x, q1 ^^^ r22 = x := ⟨_, rfl⟩
    rw [eq2] at y2 hU
    have y3 := and32 la lb
    have n3 := and_lt32 b1 la
    obtain ⟨q3, eq3⟩ : ∃ x, a &&& b1 = x := ⟨_, rfl⟩
    rw [eq3] at y3 n3 hU
    have y4 := and32 la lc
    have n4 := and_lt32 c la
    obtain ⟨q4, eq4⟩ : ∃ x, a &&& c = x := ⟨_, rfl⟩
    rw [eq4] at y4 n4 hU
    have y5 := xor32 n3 n4
    have n5 := xor_lt32 n3 n4
    obtain ⟨q5, eq5⟩ : ∃ x, q3 ^^^ q4 = x := ⟨_, rfl⟩
    rw [eq5] at y5 n5 hU
    have y6 := and32 lb lc
    have n6 := and_lt32 c lb
    obtain ⟨q6, eq6⟩ : ∃ x, b1 &&& c = x := ⟨_, rfl⟩
    rw [eq6] at y6 n6 hU
    have y7 := xor32 n5 n6
    obtain ⟨q7, eq7⟩ : ∃ x, q5 ^^^ q6 = x := ⟨_, rfl⟩
    rw [eq7] at y7 hU
    obtain ⟨dT, edT⟩ : ∃ x, add32 d T = x := ⟨_, rfl⟩
    obtain ⟨tU, etU⟩ : ∃ x, add32 T U = x := ⟨_, rfl⟩
    rw [edT, etU] at hnext
    have HX := Lib.hid hnext; have HT := Lib.hid hT; have HU := Lib.hid hU; have HDT := Lib.hid edT; have HTU := Lib.hid etU; have K6 := Lib.hid k6; have K11 := Lib.hid k11; have K25 := Lib.hid k25; have K2 := Lib.hid k2; have K13 := Lib.hid k13; have K22 := Lib.hid k22
    clear hr hall hnext hT hU ekk eww eT eU e6 e11 e25 e2 e13 e22 k6 k11 k25 k2 k13 k22 ep1 ep2 ep4 ep5 ep6 ep7 eq1 eq2 eq3 eq4 eq5 eq6 eq7 edT etU c0' c1' c2' c3' c4' c5' c6' c7' hlt0
    go_wp2_with fail
    go_quiet ((first | (go_at_call 109; exact q_add K6.out) | (go_at_call 109; exact q_add K11.out) | (go_at_call 109; exact q_add K25.out)))
    go_wp2_with fail
    refine (K2.out _).mono ?_
    rintro en w' ⟨rfl, rfl⟩
    go_wp2_with fail
    refine (K13.out _).mono ?_
    rintro en w' ⟨rfl, rfl⟩
    go_wp2_with fail
    refine (K22.out _).mono ?_
    rintro en w' ⟨rfl, rfl⟩
    go_wp2
    go_roundw
    case rel => exact ⟨k + 1, tU, a, b1, c, dT, e, f, g, _, by omega, by go_num, congrArg (Value.int .u32) (by have h1 := HT.out; have h2 := HU.out; have h3 := HDT.out; have h4 := HTU.out; unfold add32 at h1 h2 h3 h4; omega), rfl, rfl, rfl, congrArg (Value.int .u32) (by have h1 := HT.out; have h3 := HDT.out; unfold add32 at h1 h3; omega), rfl, rfl, rfl, HX.out, rfl⟩
    case measure => simp [RowKit.intOf]; omega
  · have hk2 : k = 64 := by omega
    rw [hk2] at hr
    have hcmp : comp s b = addL s [a, b1, c, d, e, f, g, h] := by unfold comp; rw [hr]
    have g0 := H0.out.drewN m
    have g2 := H2.out.drewN m
    have gB := below_drewN HB.out m
    obtain ⟨W6, hW6⟩ : ∃ W, W5.drewN m = W := ⟨_, rfl⟩
    rw [hW6] at g0 g2 gB ⊢
    obtain ⟨L, hL⟩ : ∃ L, [a, b1, c, d, e, f, g, h] = L := ⟨_, rfl⟩
    have hLl : L.length = 8 := by rw [← hL]; rfl
    have hix := fun i (hi : i < 8) => index32 (P := Tryz.prog) 128 123 L 8 hLl Tryz.underlying128 Tryz.isAgg123 Tryz.sizeOf123 i hi
    rw [← hL] at hix
    have HIX := Lib.hid (show ∀ i, i < 8 → ∀ w, (Instr.index 128 (.agg #[.int .u32 (a : Nat), .int .u32 (b1 : Nat), .int .u32 (c : Nat), .int .u32 (d : Nat), .int .u32 (e : Nat), .int .u32 (f : Nat), .int .u32 (g : Nat), .int .u32 (h : Nat)]) (.int .i64 (i : Nat))).run Tryz.prog w = .ok (.int .u32 (([a, b1, c, d, e, f, g, h].getD i 0 : Nat) : Int)) w from hix)
    rw [hL] at HIX hcmp
    have H0' := Lib.hid g0; have H2' := Lib.hid g2; have HB' := Lib.hid gB; have HC := Lib.hid hcmp; have HL := Lib.hid hLl
    have lL : ∀ x ∈ L, x < 4294967296 := by have := rnds_lt (sched b 48) hS 64; rw [hr, hL] at this; exact this
    clear hk2 hr hcmp g0 g2 gB hW6 hL hLl hix c0' c1' c2' c3' c4' c5' c6' c7' hlt0
    go_wp2_with fail
    go_loopw [109] (fun i wr => ∃ k : Nat, k ≤ 8 ∧ i = .int .i64 k ∧ Is32 wr B 128 ((addL s L).take k ++ s.drop k) ∧ Is32 wr (B + 1 + 1) 128 (List.replicate 8 0) ∧ Below B w wr) (fun i _ => 8 - (RowKit.intOf i).toNat)
    case atStart => exact ⟨0, by omega, rfl, by simpa using H0'.out, H2'.out, HB'.out⟩
    case round =>
     obtain ⟨j, hj, rfl, hA, hR, hbr⟩ := hrel
     by_cases hltj : j < 8
     · have hj2 : (j : Int) < 8 := by omega
       have hidx := HIX.out j hltj
       have hcell := hA.cell j (by rw [addTo_length s L (by rw [HSL.out, HL.out]) j (by rw [HSL.out]; omega), HSL.out]; omega)
       rw [addTo_get s L (by rw [HSL.out, HL.out]) j (by rw [HSL.out]; omega)] at hcell
       have hfro := hA.frozen j
       have hst := addTo_step s L (by rw [HSL.out, HL.out]) j (by rw [HSL.out]; omega)
       obtain ⟨x, ex⟩ : ∃ x, s.getD j 0 = x := ⟨_, rfl⟩
       obtain ⟨y, ey⟩ : ∃ x, L.getD j 0 = x := ⟨_, rfl⟩
       rw [ex] at hcell hst
       rw [ey] at hidx hst
       have z := wadd32 x y
       obtain ⟨v, ev⟩ : ∃ v, add32 x y = v := ⟨_, rfl⟩
       rw [ev] at z hst
       have HST := Lib.hid hst; have HA := Lib.hid hA; have HR := Lib.hid hR; have HB2 := Lib.hid hbr
       clear hst hA hR hbr ex ey ev
       go_wp2
       go_roundw
       case rel => exact ⟨j + 1, by omega, by go_num, by rw [← HST.out]; exact HA.out.store _ _, HR.out.other _ (by show B + 1 + 1 ≠ B; omega), HB2.out.setCell (by simp) _⟩
       case measure => simp [RowKit.intOf]; omega
     · have hj2 : j = 8 := by omega
       rw [hj2] at hA
       have hA' : Is32 wr B 128 (comp s b) := by
        rw [HC.out]
        rwa [List.take_of_length_le (by rw [addL_length _ _ (by rw [HSL.out, HL.out]), HSL.out]; omega), List.drop_of_length_le (by rw [HSL.out]; omega), List.append_nil] at hA
       have hi60 : (Tryz.prog.info? 128).map (·.size) = some (u32s (comp s b)).size := by rw [u32s_size, comp_length _ _ HSL.out]; kernel_rfl
       have HA := Lib.hid hA'; have HR := Lib.hid hR; have HB2 := Lib.hid hbr; have HI60 := Lib.hid hi60
       clear hA hA' hR hbr hj2 hi60
       go_wp2_with (first | (refine wpList_load_row rfl 128 (.tmp 2) rfl B rfl 128 (u32s (comp s b)) (0, 0) _ HA.out Tryz.underlying128 rfl HI60.out ?_) | (refine wpList_store_row rfl 128 (.tmp 4) (.tmp 120) rfl (B + 1 + 1) (u32s (comp s b)) rfl rfl 128 (u32s (List.replicate 8 0)) HR.out HI60.out (by simp [comp_length _ _ HSL.out]) (u32s_one _) ?_))
       exact bodyPost_ret (v := .agg (u32s (comp s b))) (results_cell_row rfl _ _ (B + 1 + 1) 128 _ (0, 0) _ rfl (setRow_heap _ _ _ _ _ _ HR.out) Tryz.underlying128 rfl HI60.out) rfl ⟨rfl, by rw [HBn.out]; exact below_setRow (g := B + 1 + 1) HB2.out (by omega) _⟩
end Go.Proofs.YtnpfhcnjkekhbaaGreatDoor

namespace Go.Proofs.YtnpfhcnjkekhbaaGreatDoor
theorem cutB_succ : ∀ (n : Nat) (l : List Nat), cutB l (n + 1) = cutB l n ++ [(l.drop (64 * n)).take 64]
 | 0, l => by simp [cutB]
 | n + 1, l => by
  rw [cutB, cutB_succ n (l.drop 64), cutB, List.drop_drop, List.cons_append]
  rw [show 64 + 64 * n = 64 * (n + 1) by omega]
theorem cutB_prefix (l : List Nat) (m : Nat) : ∀ n, m ≤ n → cutB l m <+: cutB l n
 | 0, h => by
  have : m = 0 := by omega
  subst this; exact List.prefix_refl _
 | n + 1, h => by
  by_cases e : m = n + 1
  · subst e; exact List.prefix_refl _
  · rw [cutB_succ n l]
    exact (cutB_prefix l m n (by omega)).trans (List.prefix_append _ _)
def blk (M : List Nat) (e : Nat) : List Nat := ((shaPad M).drop (64 * e)).take 64
def nblk (M : List Nat) : Nat := (shaPad M).length / 64
theorem nblk_eq (M : List Nat) : nblk M = M.length / 64 + (if M.length % 64 < 56 then 1 else 2) := by
 unfold nblk; rw [shaPad_length]; unfold padZ; split <;> omega
theorem blocks_step (M : List Nat) (e : Nat) (h : e < nblk M) : cutB (shaPad M) e ++ [blk M e] <+: shaBlocks M := by
 unfold blk; rw [← cutB_succ]; exact cutB_prefix _ _ _ h
theorem blocks_all (M : List Nat) : cutB (shaPad M) (nblk M) = shaBlocks M := rfl
theorem blk_next (M : List Nat) (e : Nat) : cutB (shaPad M) (e + 1) = cutB (shaPad M) e ++ [blk M e] := cutB_succ _ _
theorem blk_in (M : List Nat) (e : Nat) (h : 64 * (e + 1) ≤ M.length) : blk M e = (M.drop (64 * e)).take 64 := by
 unfold blk shaPad
 rw [List.drop_append_of_le_length (by omega), List.take_append_of_le_length (by simp; omega)]
theorem blk_end_lo (M : List Nat) (h : M.length % 64 < 56) : blk M (M.length / 64) = M.drop (64 * (M.length / 64)) ++ (128 :: (List.replicate (55 - M.length % 64) 0 ++ be8 (8 * M.length))) := by
 have h1 : padZ M.length = 55 - M.length % 64 := by unfold padZ; omega
 unfold blk shaPad
 rw [List.drop_append_of_le_length (by omega), h1]
 exact List.take_of_length_le (by simp [be8]; omega)
theorem blk_end_hi (M : List Nat) (h : 56 ≤ M.length % 64) : blk M (M.length / 64) = M.drop (64 * (M.length / 64)) ++ (128 :: List.replicate (63 - M.length % 64) 0) := by
 have h1 : padZ M.length = 119 - M.length % 64 := by unfold padZ; omega
 have e : List.replicate (119 - M.length % 64) 0 = List.replicate (63 - M.length % 64) 0 ++ List.replicate 56 0 := by rw [List.replicate_append_replicate]; congr 1; omega
 unfold blk shaPad
 rw [List.drop_append_of_le_length (by omega), h1, e]
 rw [show M.drop (64 * (M.length / 64)) ++ (128 :: (List.replicate (63 - M.length % 64) 0 ++ List.replicate 56 0 ++ be8 (8 * M.length))) = (M.drop (64 * (M.length / 64)) ++ (128 :: List.replicate (63 - M.length % 64) 0)) ++ (List.replicate 56 0 ++ be8 (8 * M.length)) by simp [List.append_assoc]]
 rw [List.take_append_of_le_length (by simp; omega)]
 exact List.take_of_length_le (by simp; omega)
theorem blk_last_hi (M : List Nat) (h : 56 ≤ M.length % 64) : blk M (M.length / 64 + 1) = List.replicate 56 0 ++ be8 (8 * M.length) := by
 have h1 : padZ M.length = 119 - M.length % 64 := by unfold padZ; omega
 have e : List.replicate (119 - M.length % 64) 0 = List.replicate (63 - M.length % 64) 0 ++ List.replicate 56 0 := by rw [List.replicate_append_replicate]; congr 1; omega
 unfold blk shaPad
 rw [h1, e]
 rw [show M ++ (128 :: (List.replicate (63 - M.length % 64) 0 ++ List.replicate 56 0 ++ be8 (8 * M.length))) = (M ++ (128 :: List.replicate (63 - M.length % 64) 0)) ++ (List.replicate 56 0 ++ be8 (8 * M.length)) by simp [List.append_assoc]]
 rw [List.drop_left' (by simp; omega)]
 exact List.take_of_length_le (by simp [be8])
theorem blk_length (M : List Nat) (e : Nat) (h : e < nblk M) : (blk M e).length = 64 := by
 unfold blk
 have := shaPad_mod M
 unfold nblk at h
 simp; omega
theorem be8_lt (n : Nat) : ∀ x ∈ be8 n, x < 256 := by
 intro x hx
 simp only [be8, List.mem_map] at hx
 obtain ⟨i, _, rfl⟩ := hx
 exact Nat.mod_lt _ (by decide)
theorem shaPad_lt {M : List Nat} (h : ∀ x ∈ M, x < 256) : ∀ x ∈ shaPad M, x < 256 := by
 intro x hx
 simp only [shaPad, List.mem_append, List.mem_cons, List.mem_replicate] at hx
 rcases hx with hx | rfl | ⟨_, rfl⟩ | hx
 · exact h x hx
 · decide
 · decide
 · exact be8_lt _ x hx
theorem blk_lt {M : List Nat} (h : ∀ x ∈ M, x < 256) (e : Nat) : ∀ x ∈ blk M e, x < 256 := fun x hx => shaPad_lt h x (List.mem_of_mem_drop (List.mem_of_mem_take hx))
theorem mem_blocks {M : List Nat} (h : ∀ x ∈ M, x < 256) : ∀ b ∈ shaBlocks M, b.length = 64 ∧ ∀ x ∈ b, x < 256 := by
 have : ∀ n, n ≤ nblk M → ∀ b ∈ cutB (shaPad M) n, b.length = 64 ∧ ∀ x ∈ b, x < 256 := by
  intro n
  induction n with
  | zero => intro _ b hb; simp [cutB] at hb
  | succ n ih =>
   intro hn b hb
   rw [cutB_succ] at hb
   rcases List.mem_append.1 hb with hb | hb
   · exact ih (by omega) b hb
   · have : b = blk M n := by simpa [blk] using hb
     subst this
     exact ⟨blk_length M n (by omega), blk_lt h n⟩
 exact this _ (Nat.le_refl _)
def tailB (l : List Nat) (n i : Nat) : List Nat := l.take (64 - i) ++ (be8 n).drop (8 - i)
theorem tailB_zero (l : List Nat) (n : Nat) (h : l.length = 64) : tailB l n 0 = l := by
 unfold tailB; rw [List.take_of_length_le (by omega), List.drop_of_length_le (by simp [be8]), List.append_nil]
theorem tailB_length (l : List Nat) (n i : Nat) (h : l.length = 64) (hi : i ≤ 8) : (tailB l n i).length = 64 := by
 simp [tailB, be8]; omega
theorem tailB_step (l : List Nat) (n i : Nat) (h : l.length = 64) (hi : i < 8) : (tailB l n i).set (63 - i) (n / 2 ^ (8 * i) % 256) = tailB l n (i + 1) := by
 unfold tailB
 have e1 : l.take (64 - i) = l.take (64 - (i + 1)) ++ [l[63 - i]'(by omega)] := by
  rw [show 64 - i = (63 - i) + 1 by omega, List.take_succ_eq_append_getElem (by omega), show 64 - (i + 1) = 63 - i by omega]
 have e2 : (be8 n).drop (8 - (i + 1)) = (n / 2 ^ (8 * i) % 256) :: (be8 n).drop (8 - i) := by
  rw [List.drop_eq_getElem_cons (by simp [be8]; omega), show 8 - (i + 1) + 1 = 8 - i by omega]
  congr 1
  simp only [be8, List.getElem_map, List.getElem_range]
  rw [show 7 - (8 - (i + 1)) = i by omega, show (256 : Nat) = 2 ^ 8 by rfl, ← Nat.pow_mul]
 rw [e1, e2, List.append_assoc, List.set_append_right _ _ (by simp; omega)]
 rw [show 63 - i - (l.take (64 - (i + 1))).length = 0 by simp; omega]
 rfl
theorem tailB_end (l : List Nat) (n : Nat) : tailB l n 8 = l.take 56 ++ be8 n := by unfold tailB; simp
end Go.Proofs.YtnpfhcnjkekhbaaGreatDoor
