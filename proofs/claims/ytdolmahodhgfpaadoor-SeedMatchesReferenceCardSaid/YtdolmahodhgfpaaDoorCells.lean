/-
  Blocks of words and of bytes; the plain mathematics of digest.schedule.
-/
import Derived.Test.YtdolmahodhgfpaaDoorWord
import Derived.Laws.Rows
import Derived.Laws.CopyOwn
import Derived.Below
import Derived.OwnWalk
import Derived.RegionTactic
import Derived.ChangeAlike
import Derived.BigQuiet
import Derived.Deep.RegionWith
import Derived.Deep.CutRange
import Derived.Deep.DeepCutAuto
import Derived.Deep.RegionHeld3
namespace Go.Proofs.YtdolmahodhgfpaaDoor
open Go Go.Proofs Go.RowKit Go.Lib

/-- Words and bytes as cells. -/
def u32s (l : List Nat) : Array Value := (l.map fun n => Value.int .u32 ((n : Nat) : Int)).toArray
def u8s (l : List Nat) : Array Value := (l.map fun n => Value.int .u8 ((n : Nat) : Int)).toArray
@[simp] theorem u32s_size (l : List Nat) : (u32s l).size = l.length := by simp [u32s]
@[simp] theorem u8s_size (l : List Nat) : (u8s l).size = l.length := by simp [u8s]
theorem u32s_get (l : List Nat) (i : Nat) (h : i < l.length) : (u32s l)[i]? = some (.int .u32 ((l.getD i 0 : Nat) : Int)) := by
  simp [u32s, h]
theorem u8s_get (l : List Nat) (i : Nat) (h : i < l.length) : (u8s l)[i]? = some (.int .u8 ((l.getD i 0 : Nat) : Int)) := by
  simp [u8s, h]
theorem u32s_set (l : List Nat) (i v : Nat) : (u32s l).setIfInBounds i (.int .u32 (v : Nat)) = u32s (l.set i v) := by
  simp [u32s, List.map_set]
theorem u8s_set (l : List Nat) (i v : Nat) : (u8s l).setIfInBounds i (.int .u8 (v : Nat)) = u8s (l.set i v) := by
  simp [u8s, List.map_set]

/-- A block that holds words; a block that holds bytes. -/
def Is32 (W : World) (g : Nat) (t : TypeId) (l : List Nat) : Prop := W.heap[g]? = some (.cells (u32s l) t (0, 0))
def Is8 (W : World) (g : Nat) (t : TypeId) (l : List Nat) : Prop := W.heap[g]? = some (.cells (u8s l) t (0, 0))
theorem Is32.cell {W : World} {g : Nat} {t : TypeId} {l : List Nat} (h : Is32 W g t l) (i : Nat) (hi : i < l.length) : W.cell? ⟨g, i, none⟩ = some (.int .u32 ((l.getD i 0 : Nat) : Int)) := by
  rw [cell_of_row W g i _ t _ h, u32s_get l i hi]
theorem Is8.cell {W : World} {g : Nat} {t : TypeId} {l : List Nat} (h : Is8 W g t l) (i : Nat) (hi : i < l.length) : W.cell? ⟨g, i, none⟩ = some (.int .u8 ((l.getD i 0 : Nat) : Int)) := by
  rw [cell_of_row W g i _ t _ h, u8s_get l i hi]
theorem Is32.frozen {W : World} {g : Nat} {t : TypeId} {l : List Nat} (h : Is32 W g t l) (i : Nat) : W.frozen? ⟨g, i, none⟩ = false := frozen_of_row W g i _ t h
theorem Is8.frozen {W : World} {g : Nat} {t : TypeId} {l : List Nat} (h : Is8 W g t l) (i : Nat) : W.frozen? ⟨g, i, none⟩ = false := frozen_of_row W g i _ t h
theorem Is32.store {W : World} {g : Nat} {t : TypeId} {l : List Nat} (h : Is32 W g t l) (i v : Nat) : Is32 (W.setCell ⟨g, i, none⟩ (.int .u32 (v : Nat))) g t (l.set i v) := by
  unfold Is32; rw [← u32s_set]; exact heap_setCell_same W g i _ t _ h
theorem Is8.store {W : World} {g : Nat} {t : TypeId} {l : List Nat} (h : Is8 W g t l) (i v : Nat) : Is8 (W.setCell ⟨g, i, none⟩ (.int .u8 (v : Nat))) g t (l.set i v) := by
  unfold Is8; rw [← u8s_set]; exact heap_setCell_same W g i _ t _ h
theorem Is32.other {W : World} {g : Nat} {t : TypeId} {l : List Nat} (h : Is32 W g t l) {a : Addr} (v : Value) (ha : g ≠ a.block) : Is32 (W.setCell a v) g t l :=
  (Below.heap_setCell W a v g ha).trans h
theorem Is8.other {W : World} {g : Nat} {t : TypeId} {l : List Nat} (h : Is8 W g t l) {a : Addr} (v : Value) (ha : g ≠ a.block) : Is8 (W.setCell a v) g t l :=
  (Below.heap_setCell W a v g ha).trans h

theorem index_at {P : Program} (T E : TypeId) (xs : List Value) (v : Value) (n : Nat) (hT : P.underlying T = some (.array n E)) (ha : ∀ w, (isAgg E).run P w = .ok false w) (hs : ∀ w, (sizeOf E).run P w = .ok 1 w) (i : Nat) (hi : i < n)
    (hv : xs[i]? = some v) (w : World) : (Instr.index T (.agg xs.toArray) (.int .i64 (i : Nat))).run P w = .ok v w := by
  unfold Instr.index
  simp [hs, ha, asIntOf, part, run_underlying hT, hv, hi]
theorem index32 {P : Program} (T E : TypeId) (l : List Nat) (n : Nat) (hn : l.length = n) (hT : P.underlying T = some (.array n E)) (ha : ∀ w, (isAgg E).run P w = .ok false w) (hs : ∀ w, (sizeOf E).run P w = .ok 1 w) (i : Nat) (hi : i < n) (w : World) :
    (Instr.index T (.agg (u32s l)) (.int .i64 (i : Nat))).run P w = .ok (.int .u32 ((l.getD i 0 : Nat) : Int)) w :=
  index_at T E _ _ n hT ha hs i hi (by simp [hn, hi]) w
theorem index8 {P : Program} (T E : TypeId) (l : List Nat) (n : Nat) (hn : l.length = n) (hT : P.underlying T = some (.array n E)) (ha : ∀ w, (isAgg E).run P w = .ok false w) (hs : ∀ w, (sizeOf E).run P w = .ok 1 w) (i : Nat) (hi : i < n) (w : World) :
    (Instr.index T (.agg (u8s l)) (.int .i64 (i : Nat))).run P w = .ok (.int .u8 ((l.getD i 0 : Nat) : Int)) w :=
  index_at T E _ _ n hT ha hs i hi (by simp [hn, hi]) w

/-- The words after k bytes. -/
def fillW (b : List Nat) : Nat → List Nat
  | 0 => List.replicate 64 0
  | k + 1 => (fillW b k).set (k / 4) (((fillW b k).getD (k / 4) 0 * 256 % 4294967296) ||| b.getD k 0)
theorem fillW_length (b : List Nat) : ∀ k, (fillW b k).length = 64
  | 0 => by simp [fillW]
  | k + 1 => by simp [fillW, fillW_length b k]
theorem join8 {x y : Nat} (hx : x < 16777216) (hy : y < 256) : (x * 256 % 4294967296) ||| y = x * 256 + y := by
  rw [Nat.mod_eq_of_lt (by omega), show x * 256 = x <<< 8 by rw [Nat.shiftLeft_eq]]
  exact (Nat.shiftLeft_add_eq_or_of_lt (i := 8) (by omega) x).symm
theorem getD_byte {b : List Nat} (hB : ∀ x ∈ b, x < 256) (i : Nat) : b.getD i 0 < 256 := by
  rw [List.getD_eq_getElem?_getD]
  cases h : b[i]? with
  | none => simp
  | some x => exact hB x (List.mem_of_getElem? h)
theorem fillW_four (b : List Nat) (hB : ∀ x ∈ b, x < 256) (j : Nat) (hj : j < 64) (h0 : (fillW b (4 * j)).getD j 0 = 0) : fillW b (4 * j + 4) = (fillW b (4 * j)).set j (beW b j) := by
  have hl := fillW_length b (4 * j)
  have g : ∀ v, ((fillW b (4 * j)).set j v).getD j 0 = v := by intro v; simp [hl, hj]
  have b0 := getD_byte hB (4 * j)
  have b1 := getD_byte hB (4 * j + 1)
  have b2 := getD_byte hB (4 * j + 2)
  have b3 := getD_byte hB (4 * j + 3)
  have e1 : fillW b (4 * j + 1) = (fillW b (4 * j)).set j (b.getD (4 * j) 0) := by
    rw [fillW, show 4 * j / 4 = j by omega, h0, join8 (by decide) b0]; simp
  have e2 : fillW b (4 * j + 2) = (fillW b (4 * j)).set j (b.getD (4 * j) 0 * 256 + b.getD (4 * j + 1) 0) := by
    rw [fillW, show (4 * j + 1) / 4 = j by omega, e1, g, List.set_set, join8 (by omega) b1]
  have e3 : fillW b (4 * j + 3) = (fillW b (4 * j)).set j ((b.getD (4 * j) 0 * 256 + b.getD (4 * j + 1) 0) * 256 + b.getD (4 * j + 2) 0) := by
    rw [fillW, show (4 * j + 2) / 4 = j by omega, e2, g, List.set_set, join8 (by omega) b2]
  rw [fillW, show (4 * j + 3) / 4 = j by omega, e3, g, List.set_set, join8 (by omega) b3]
  rfl
theorem fillW_words (b : List Nat) (hB : ∀ x ∈ b, x < 256) : ∀ j, j ≤ 16 → fillW b (4 * j) = (List.range j).map (beW b) ++ List.replicate (64 - j) 0
  | 0, _ => by simp [fillW]
  | j + 1, h => by
    have ih := fillW_words b hB j (by omega)
    have e : 64 - j = (63 - j) + 1 := by omega
    rw [show 4 * (j + 1) = 4 * j + 4 by omega, fillW_four b hB j (by omega), ih, e, List.replicate_succ, List.set_append_right _ _ (by simp)]
    · simp [List.range_succ]
    · rw [ih, e, List.replicate_succ]; simp
theorem fillW_64 (b : List Nat) (hB : ∀ x ∈ b, x < 256) : fillW b 64 = sched b 0 ++ List.replicate 48 0 := fillW_words b hB 16 (by omega)
theorem fillW_lt (b : List Nat) (hB : ∀ x ∈ b, x < 256) : ∀ k, ∀ x ∈ fillW b k, x < 4294967296
  | 0, x, hx => by simp [fillW] at hx; omega
  | k + 1, x, hx => by
    rcases List.mem_or_eq_of_mem_set hx with h | rfl
    · exact fillW_lt b hB k x h
    · exact or_lt32 (Nat.mod_lt _ (by decide)) (by have := getD_byte hB k; omega)
theorem getD_word {b : List Nat} (hB : ∀ x ∈ b, x < 4294967296) (i : Nat) : b.getD i 0 < 4294967296 := by
  rw [List.getD_eq_getElem?_getD]
  cases h : b[i]? with
  | none => simp
  | some x => exact hB x (List.mem_of_getElem? h)
theorem beW_lt {b : List Nat} (hB : ∀ x ∈ b, x < 256) (i : Nat) : beW b i < 4294967296 := by
  have b0 := getD_byte hB (4 * i)
  have b1 := getD_byte hB (4 * i + 1)
  have b2 := getD_byte hB (4 * i + 2)
  have b3 := getD_byte hB (4 * i + 3)
  unfold beW; omega
theorem sched_lt {b : List Nat} (hB : ∀ x ∈ b, x < 256) : ∀ k, ∀ x ∈ sched b k, x < 4294967296
  | 0, x, hx => by
    simp only [sched, List.mem_map] at hx
    obtain ⟨i, _, rfl⟩ := hx
    exact beW_lt hB i
  | k + 1, x, hx => by
    simp only [sched, List.mem_append, List.mem_singleton] at hx
    rcases hx with h | rfl
    · exact sched_lt hB k x h
    · exact add32_lt _ _


/-- A contract of a callee that leaves the world, met in a region that only draws. -/
theorem q_same {P : Program} {f : FuncId} {args : Array Value} {w : World} {n : Nat} {v : Value} (c : ∀ W, Calls P f args W fun e w' => e = .returned v ∧ W = w') :
    Calls P f args (w.drewN n) fun e w'' => e = .returned v ∧ ∃ m, w'' = w.drewN m := (c _).mono fun _ _ ⟨he, hm⟩ => ⟨he, n, hm.symm⟩
theorem q_add {P : Program} {f : FuncId} {args : Array Value} {w : World} {a n : Nat} {v : Value} (c : ∀ W, Calls P f args W fun e w' => e = .returned v ∧ W = w') :
    Calls P f args (w.drewN (a + n)) fun e w'' => e = .returned v ∧ ∃ m, w'' = w.drewN (a + m) := (c _).mono fun _ _ ⟨he, hm⟩ => ⟨he, n, hm.symm⟩
theorem Is32.drewN {W : World} {g : Nat} {t : TypeId} {l : List Nat} (h : Is32 W g t l) (n : Nat) : Is32 (W.drewN n) g t l := by
  unfold Is32; rw [World.heap_drewN]; exact h
theorem u32s_one (l : List Nat) : (u32s l).all (·.oneCell') = true := by
  rw [Array.all_eq_true_iff_forall_mem]
  intro v hv
  simp only [u32s, List.mem_toArray, List.mem_map] at hv
  obtain ⟨x, _, rfl⟩ := hv
  rfl
theorem u8s_one (l : List Nat) : (u8s l).all (·.oneCell') = true := by
  rw [Array.all_eq_true_iff_forall_mem]
  intro v hv
  simp only [u8s, List.mem_toArray, List.mem_map] at hv
  obtain ⟨x, _, rfl⟩ := hv
  rfl
theorem below_drewN {n : Nat} {w w' : World} (h : Below n w w') (k : Nat) : Below n w (w'.drewN k) := ⟨h.os, h.tape, h.output, h.size, h.block⟩
theorem Is32.below {n : Nat} {W W' : World} {g : Nat} {t : TypeId} {l : List Nat} (h : Is32 W g t l) (hb : Below n W W') (hg : g < n) : Is32 W' g t l := (hb.block g hg).trans h
theorem Is8.below {n : Nat} {W W' : World} {g : Nat} {t : TypeId} {l : List Nat} (h : Is8 W g t l) (hb : Below n W W') (hg : g < n) : Is8 W' g t l := (hb.block g hg).trans h

theorem right_lit (x n : Nat) (m : Int) (hm : m = (n : Nat)) (hx : x < 4294967296) (h1 : 1 ≤ n) (h2 : n ≤ 31) (w : World) :
    Calls Tryd.prog 59 #[.int .u32 (x : Nat), .int .i64 m] w fun e w' => e = .returned (.int .u32 ((rotr x n : Nat) : Int)) ∧ w = w' := by
  subst hm; exact right_any x n hx h1 h2 w

/-- The world with the three blocks. -/
noncomputable def schW (w : World) (b : List Nat) : World :=
  ((w.alloc (.cells (u8s b) 79)).alloc (.cells (u32s (List.replicate 64 0)) 85)).alloc (.cells (u32s (List.replicate 64 0)) 85)

theorem schW_size (w : World) (b : List Nat) : (schW w b).heap.size = w.heap.size + 3 := by simp [schW]
theorem schW_0 (w : World) (b : List Nat) : Is8 (schW w b) w.heap.size 79 b := by
  unfold Is8 schW
  exact (Below.heap_alloc _ _ _ (by simp; omega)).trans ((Below.heap_alloc _ _ _ (by simp)).trans (heap_alloc_new w _))
theorem schW_1 (w : World) (b : List Nat) : Is32 (schW w b) (w.heap.size + 1) 85 (List.replicate 64 0) := by
  unfold Is32 schW
  refine (Below.heap_alloc _ _ _ (by simp)).trans ?_
  have := heap_alloc_new (w.alloc (.cells (u8s b) 79)) (.cells (u32s (List.replicate 64 0)) 85)
  rwa [World.size_alloc] at this
theorem schW_2 (w : World) (b : List Nat) : Is32 (schW w b) (w.heap.size + 1 + 1) 85 (List.replicate 64 0) := by
  unfold Is32 schW
  have := heap_alloc_new ((w.alloc (.cells (u8s b) 79)).alloc (.cells (u32s (List.replicate 64 0)) 85)) (.cells (u32s (List.replicate 64 0)) 85)
  rwa [World.size_alloc, World.size_alloc] at this
theorem schW_below (w : World) (b : List Nat) : Below w.heap.size w (schW w b) := by
  unfold schW
  exact (((Below.refl _ _).alloc (Nat.le_refl _) _).alloc (by simp) _).alloc (by simp; omega) _
end Go.Proofs.YtdolmahodhgfpaaDoor
