/-
  Plain counting of what Choose answers; the weights of SeedChosen; a new row of zeros.
-/
import Derived.Test.YtdolmahodhgfpaaDoorSeedG
namespace Go.Proofs.YtdolmahodhgfpaaDoor
open Go Go.Proofs Go.RowKit Go.Lib

/-- The index that a number below the sum chooses. -/
def posN (d : Nat) : List Nat → Nat
  | [] => 0
  | x :: l => if d < x then 0 else 1 + posN (d - x) l
/-- How many numbers below d choose each index. -/
def cntN (d : Nat) : List Nat → List Nat
  | [] => []
  | x :: l => min d x :: cntN (d - x) l
theorem posN_cons (d x : Nat) (l : List Nat) : posN d (x :: l) = if d < x then 0 else 1 + posN (d - x) l := rfl
theorem cntN_length : ∀ (l : List Nat) (d : Nat), (cntN d l).length = l.length
  | [], _ => rfl
  | _ :: l, d => by unfold cntN; rw [List.length_cons, List.length_cons, cntN_length l]
theorem cntN_zero : ∀ (l : List Nat), cntN 0 l = List.replicate l.length 0
  | [] => rfl
  | x :: l => by
    unfold cntN
    rw [Nat.zero_sub, cntN_zero l, List.length_cons, List.replicate_succ, Nat.zero_min]
theorem cntN_all : ∀ (l : List Nat) (d : Nat), l.sum ≤ d → cntN d l = l
  | [], _, _ => rfl
  | x :: l, d, h => by
    rw [List.sum_cons] at h
    unfold cntN
    rw [cntN_all l (d - x) (by omega), Nat.min_eq_right (by omega)]
theorem posN_lt : ∀ (l : List Nat) (d : Nat), d < l.sum → posN d l < l.length
  | [], d, h => by simp at h
  | x :: l, d, h => by
    rw [List.sum_cons] at h
    unfold posN
    rw [List.length_cons]
    split
    · omega
    · have := posN_lt l (d - x) (by omega)
      omega
theorem posN_mono : ∀ (l : List Nat) (d e : Nat), d ≤ e → posN d l ≤ posN e l
  | [], _, _, _ => Nat.le_refl _
  | x :: l, d, e, h => by
    unfold posN
    split
    · exact Nat.zero_le _
    · rw [if_neg (show ¬ e < x by omega)]
      have := posN_mono l (d - x) (e - x) (by omega)
      omega
theorem cntN_get : ∀ (l : List Nat) (d i : Nat), (cntN d l).getD i 0 ≤ d
  | [], d, i => by simp [cntN]
  | x :: l, d, 0 => by simp [cntN]; omega
  | x :: l, d, i + 1 => by
    have := cntN_get l (d - x) i
    simp only [cntN, List.getD_cons_succ]
    omega
theorem cntN_step : ∀ (l : List Nat) (d : Nat), d < l.sum → cntN (d + 1) l = (cntN d l).set (posN d l) ((cntN d l).getD (posN d l) 0 + 1)
  | [], d, h => by simp at h
  | x :: l, d, h => by
    rw [List.sum_cons] at h
    by_cases hx : d < x
    · have e1 : d + 1 - x = d - x := by omega
      have e2 : min (d + 1) x = min d x + 1 := by omega
      unfold posN cntN
      rw [if_pos hx, e1, e2]
      simp
    · have ih := cntN_step l (d - x) (by omega)
      have e1 : d + 1 - x = d - x + 1 := by omega
      have e2 : min (d + 1) x = min d x := by omega
      unfold posN cntN
      rw [if_neg hx, e1, e2, ih, Nat.add_comm 1]
      simp
theorem choose_pos : ∀ (l : List Nat) (a d i : Nat), a ≤ d → chooseF (d : Int) (intsN l) (a : Int) i = if d < a + l.sum then some (i + posN (d - a) l) else none
  | [], a, d, i, h => by
    rw [if_neg (by simp; omega)]
    rfl
  | x :: l, a, d, i, h => by
    rw [List.sum_cons]
    show (if (d : Int) < (a : Int) + Int.ofNat x then some i else chooseF (d : Int) (intsN l) ((a : Int) + Int.ofNat x) (i + 1)) = _
    have ex : Int.ofNat x = (x : Int) := rfl
    by_cases hx : d < a + x
    · rw [if_pos (by rw [ex]; omega), if_pos (by omega)]
      rw [posN_cons, if_pos (by omega)]
      rfl
    · rw [if_neg (by rw [ex]; omega)]
      have ih := choose_pos l (a + x) d (i + 1) (by omega)
      rw [Int.natCast_add] at ih
      rw [ex, ih, posN_cons]
      by_cases hs : d < a + x + l.sum
      · rw [if_pos hs, if_pos (by omega), if_neg (by omega), show d - (a + x) = d - a - x by omega, show i + 1 + posN (d - a - x) l = i + (1 + posN (d - a - x) l) by omega]
      · rw [if_neg hs, if_neg (by omega)]
/-- The weights that a list of integers makes. -/
def wsN (l : List Int) : List Nat := (l.take 12).map fun x => (W1.pickI x 20).toNat
theorem wsN_length (l : List Int) : (wsN l).length = min 12 l.length := by unfold wsN; rw [List.length_map, List.length_take]
theorem wsN_get (l : List Int) (k : Nat) (hk : k < (wsN l).length) (hk2 : k < l.length) : (((wsN l)[k] : Nat) : Int) = W1.pickI l[k] 20 := by
  have h0 := W1.pickI_lo (c := l[k]) (n := 20) (by decide)
  have e : (wsN l)[k] = (W1.pickI l[k] 20).toNat := by simp [wsN]
  rw [e]
  omega
theorem wsN_lt (l : List Int) (k : Nat) (hk : k < (wsN l).length) : (wsN l)[k] < 20 := by
  have hk2 : k < l.length := by rw [wsN_length] at hk; omega
  have h1 := W1.pickI_hi (c := l[k]) (n := 20) (by decide)
  have := wsN_get l k hk hk2
  omega
theorem sum_take_step (l : List Nat) (k : Nat) (h : k < l.length) : (l.take (k + 1)).sum = (l.take k).sum + l[k] := by
  rw [List.take_succ_eq_append_getElem h, List.sum_append, List.sum_cons, List.sum_nil, Nat.add_zero]
theorem sum_take_le (l : List Nat) (h : ∀ i (hi : i < l.length), l[i] < 20) : ∀ k, k ≤ l.length → (l.take k).sum ≤ 20 * k
  | 0, _ => by simp
  | k + 1, hk => by
    have ih := sum_take_le l h k (by omega)
    have := h k (by omega)
    rw [sum_take_step l k (by omega)]
    omega
/-- What Choose answers of weights that are small. -/
theorem choose_small (l : List Nat) (hl : l.length ≤ 200) (h : ∀ i (hi : i < l.length), l[i] < 20) (d : Nat) : chooseO (intsN l) (d : Int) = if d < l.sum then some (posN d l) else none := by
  rw [choose_ok (by rw [intsN_length]; exact hl) (by omega) (fun i hi => by
    have hi2 : i < l.length := by rwa [intsN_length] at hi
    have := h i hi2
    simp [intsN]
    omega)]
  have := choose_pos l 0 d 0 (Nat.zero_le _)
  rw [Nat.zero_add, Nat.sub_zero, Nat.zero_add] at this
  exact this
theorem made_zeros6 (n : Nat) : madeCells (Value.int .i64 0).cells (n * 1) = (numVals .i64 (List.replicate n 0)).toArray := by
  apply Array.ext
  · rw [size_madeCells]; simp [numVals]
  · intro i h1 h2
    simp [madeCells, numVals, Value.cells, Nat.mod_one]
theorem make_ints6 (n : Nat) (hn : n ≤ 1000000) (W : World) (z : Int) (hz : z = (n : Nat)) :
    (Instr.makeSlice 31 (.int .i64 z) (.int .i64 z)).run Tryd.prog W = .ok (.slice (some ⟨W.heap.size, 0, none⟩) n n) (W.alloc (.cells (numVals .i64 (List.replicate n 0)).toArray 3)) := by
  subst hz
  obtain ⟨i0, hi, hz0, hz1, hz2⟩ := info_parts info_i64
  have h := run_make (P := Tryd.prog) W 31 3 i0 (.int .i64 0) Tryd.underlying31 hi hz0 .i64 .i64 (n : Int) (n : Int) (by omega) (by omega) (by rw [hz2]; omega) (by omega)
  rw [hz1, Int.toNat_natCast, made_zeros6] at h
  exact h
theorem listAt_new (W : World) (l : List Nat) : ListAt (W.alloc (.cells (numVals .i64 l).toArray 3)) W.heap.size l := by
  intro j hj
  have hg := heap_alloc_new W (.cells (numVals .i64 l).toArray 3)
  refine ⟨?_, by unfold World.frozen?; rw [hg]; simp⟩
  have := cell_of_row (W.alloc (.cells (numVals .i64 l).toArray 3)) W.heap.size (0 + j) _ _ _ hg
  rw [Nat.zero_add] at this
  rw [this, List.getElem?_toArray]
  simp [numVals, hj]
theorem Own64.ints {W : World} {base : Nat} {v : Value} {p : List Nat} (h : Own64 W base v p) : ∃ ad c, v = .slice ad p.length c ∧ p.length ≤ c ∧ IntsL W ad (intsN p) := by
  by_cases h0 : 0 < p.length
  · obtain ⟨g, cap, hv, hc, _, hg, hl⟩ := h.list h0
    exact ⟨_, cap, hv, hc, intsL_of hg hl⟩
  · obtain ⟨ad, c, hv, hc⟩ := h.any
    have : p = [] := List.length_eq_zero_iff.1 (by omega)
    subst this
    exact ⟨ad, c, hv, hc, .inl rfl⟩
end Go.Proofs.YtdolmahodhgfpaaDoor
