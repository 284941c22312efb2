/-
  Layer 8, the program: constraints.
-/
import Derived.Test.YtifdcfjllonmgaaDoorNl
namespace Go.Proofs.YtifdcfjllonmgaaDoor
open Go Go.Proofs Go.RowKit Go.Lib

attribute [local go_sem] Oper.semAt_some

/-- What a rule says of two events of a list. -/
def rowC (s : RSem) (l : List Ev) (i j : Nat) : List C4 :=
  if s.ap (evD l i) (evD l j) = true then ⟨j, i, -(s.lo (evD l i) (evD l j)), mask8 (evD l i) (evD l j)⟩ :: (if s.hi (evD l i) (evD l j) = nB then [] else [⟨i, j, s.hi (evD l i) (evD l j), mask8 (evD l i) (evD l j)⟩]) else []
def conS (ss : List RSem) (l : List Ev) (i j : Nat) : List C4 := ss.flatMap fun s => rowC s l i j
def conU (ss : List RSem) (l : List Ev) (ps : List (Nat × Nat)) : List C4 := ps.flatMap fun p => conS ss l p.1 p.2
def conW (ss : List RSem) (l : List Ev) : List C4 := conU ss l (pairK l.length l.length)
theorem rowC_le (s : RSem) (l : List Ev) (i j : Nat) : (rowC s l i j).length ≤ 2 := by
  unfold rowC
  split
  · split <;> simp
  · simp
theorem conS_le (l : List Ev) (i j : Nat) : ∀ ss : List RSem, (conS ss l i j).length ≤ 2 * ss.length
  | [] => by simp [conS]
  | s :: ss => by
    have h1 := rowC_le s l i j
    have h2 := conS_le l i j ss
    unfold conS at *
    rw [List.flatMap_cons, List.length_append, List.length_cons]
    omega
theorem conU_le (ss : List RSem) (l : List Ev) (hs : ss.length ≤ 8) : ∀ ps : List (Nat × Nat), (conU ss l ps).length ≤ 16 * ps.length
  | [] => by simp [conU]
  | p :: ps => by
    have h1 := conS_le l p.1 p.2 ss
    have h2 := conU_le ss l hs ps
    unfold conU at *
    rw [List.flatMap_cons, List.length_append, List.length_cons]
    omega
theorem conU_snoc (ss : List RSem) (l : List Ev) (ps : List (Nat × Nat)) (p : Nat × Nat) : conU ss l (ps ++ [p]) = conU ss l ps ++ conS ss l p.1 p.2 := by unfold conU; rw [List.flatMap_append]; simp
theorem conS_take (ss : List RSem) (l : List Ev) (i j k : Nat) (hk : k < ss.length) : conS (ss.take (k + 1)) l i j = conS (ss.take k) l i j ++ rowC ss[k] l i j := by
  unfold conS
  rw [List.take_succ_eq_append_getElem hk, List.flatMap_append]
  simp
theorem rowP_le (i : Nat) : ∀ j, (rowP i j).length ≤ j
  | 0 => by simp [rowP]
  | j + 1 => by
    have := rowP_le i j
    rw [rowP_step, List.length_append]
    split <;> simp <;> omega
theorem pairK_le (n : Nat) : ∀ i, (pairK n i).length ≤ n * i
  | 0 => by simp [pairK]
  | i + 1 => by
    have h1 := pairK_le n i
    have h2 := rowP_le i n
    rw [pairK_step, List.length_append, Nat.mul_add, Nat.mul_one]
    omega
theorem mem_pairK {n : Nat} {p : Nat × Nat} (h : p ∈ pairK n n) : p.1 < n ∧ p.2 < n := by
  unfold pairK rowP at h
  simp only [List.mem_flatMap, List.mem_range] at h
  obtain ⟨a, ha, b, hb, h⟩ := h
  split at h
  · cases h
  · obtain rfl : p = (a, b) := by simpa using h
    exact ⟨ha, hb⟩
theorem or_mask {x y : Int} (x0 : 0 ≤ x) (x1 : x ≤ 5) (y0 : 0 ≤ y) (y1 : y ≤ 5) : bits .or .i64 ((2 : Int) ^ x.toNat) ((2 : Int) ^ y.toNat) = if x = y then (2 : Int) ^ x.toNat else (2 : Int) ^ x.toNat + (2 : Int) ^ y.toNat := by
  have hx : x = 0 ∨ x = 1 ∨ x = 2 ∨ x = 3 ∨ x = 4 ∨ x = 5 := by omega
  have hy : y = 0 ∨ y = 1 ∨ y = 2 ∨ y = 3 ∨ y = 4 ∨ y = 5 := by omega
  rcases hx with rfl | rfl | rfl | rfl | rfl | rfl <;> rcases hy with rfl | rfl | rfl | rfl | rfl | rfl <;> decide
/-- Between two rounds: the boxes, the row of constraints. -/
structure CsI (w : World) (B : Nat) (vl vr : Value) (L : List C4) (W : World) : Prop where
  bl : Below w.heap.size w W
  b0 : W.cell? ⟨B, 0, none⟩ = some vl
  b1 : W.cell? ⟨B + 1, 0, none⟩ = some vr
  row : ∃ v, W.cell? ⟨B + 2, 0, none⟩ = some v ∧ W.frozen? ⟨B + 2, 0, none⟩ = false ∧ Own KC W (B + 6) v L
  size : B + 6 ≤ W.heap.size
theorem ownBlock_ge {W : World} {n : Nat} {v : Value} {L : List C4} (h : Own KC W n v L) {k : Nat} (hk : k < n) : v.ownBlock = none ∨ v.ownBlock ≠ some k := by
  by_cases e : v.ownBlock = some k
  · have := (h.ge k e).1; omega
  · exact .inr e
/-- What lays nothing old otherwise but one block beside. -/
theorem CsI.keep {w W W' : World} {B : Nat} {vl vr : Value} {L : List C4} {k : Nat} (h : CsI w B vl vr L W) (hB : B = w.heap.size) (hk : k = B + 3 ∨ k = B + 5) (g : W.grownBy W' (some k)) : CsI w B vl vr L W' := by
  have hs := h.size
  obtain ⟨v, r1, r2, r3⟩ := h.row
  have ne : ∀ i, i < B + 3 → some i ≠ some k := fun i hi e => by injection e with e; omega
  refine ⟨h.bl.grown g (Nat.le_trans (by omega) hs) (fun j e => by injection e with e; omega), (World.cell?_of_block (a := ⟨B, 0, none⟩) (g.block B (by omega) (ne _ (by omega)))).trans h.b0, (World.cell?_of_block (a := ⟨B + 1, 0, none⟩) (g.block (B + 1) (by omega) (ne _ (by omega)))).trans h.b1,
    ⟨v, (World.cell?_of_block (a := ⟨B + 2, 0, none⟩) (g.block (B + 2) (by omega) (ne _ (by omega)))).trans r1, (World.frozen?_of_block (a := ⟨B + 2, 0, none⟩) (g.block (B + 2) (by omega) (ne _ (by omega)))).trans r2, r3.kept g (ownBlock_ge r3 (by omega))⟩, Nat.le_trans hs g.size⟩
theorem CsI.upto {w W W' : World} {B : Nat} {vl vr : Value} {L : List C4} (h : CsI w B vl vr L W) (b : Below W.heap.size W W') : CsI w B vl vr L W' := by
  have hs := h.size
  obtain ⟨v, r1, r2, r3⟩ := h.row
  refine ⟨h.bl.trans (b.mono h.bl.size), (b.cell (p := ⟨B, 0, none⟩) (by show B < _; omega)).trans h.b0, (b.cell (p := ⟨B + 1, 0, none⟩) (by show B + 1 < _; omega)).trans h.b1,
    ⟨v, (b.cell (p := ⟨B + 2, 0, none⟩) (by show B + 2 < _; omega)).trans r1, (b.frozen (p := ⟨B + 2, 0, none⟩) (by show B + 2 < _; omega)).trans r2, r3.kept (row := none) ⟨b.os, b.tape, b.output, b.size, fun i hi _ => b.block i hi⟩ (by cases h : v.ownBlock <;> simp)⟩, Nat.le_trans hs b.size⟩
theorem run_store_func8 {P : Program} {w : World} {a : Addr} {m : Mode} (f : Fn) (r b : Array Value) : (store a (.func f r b) m).run P w = stored P w a (.func f r b) m := run_store P w a _ m rfl
theorem at_rl8 (g o n c k : Nat) (hk : k < n) (w : World) : (Instr.indexAt 82 (.slice (some ⟨g, o, none⟩) n c) (.int .i64 (k : Int))).run Tryd.prog w = .ok (.pointer (some ⟨g, o + 2 * k, none⟩)) w := KR.at_ g o n c k hk w
theorem RN.grown {T : Type} {K : RowK T} {W W' : World} {base k : Nat} {ad : Option Addr} {l : List T} (h : RN K W base ad l) (g : W.grownBy W' (some k)) (hk : k < base) : RN K W' base ad l := by
  rcases h with h | ⟨b, o, h1, h2, h3, h4⟩
  · exact .inl h
  · exact .inr ⟨b, o, h1, h2, Nat.lt_of_lt_of_le h3 g.size, fun i hi j hj => (World.cell?_of_block (a := ⟨b, o + K.n * i + j, none⟩) (g.block b h3 (fun e => by injection e with e; omega))).trans (h4 i hi j hj)⟩
theorem CsI.push {w wd we W' : World} {B : Nat} {vl vr v' : Value} {L : List C4} {y : C4} (h : CsI w B vl vr L wd) (hB : B = w.heap.size) (hw : Below wd.heap.size wd we) (ho : Own KC W' (B + 6) v' (L ++ [y])) (hb : Below (B + 6) we W') : CsI w B vl vr (L ++ [y]) (W'.setCell ⟨B + 2, 0, none⟩ v') := by
  have h2 := h.upto hw
  have hs := h2.size
  obtain ⟨v, r1, r2, _⟩ := h2.row
  have c2 := (hb.cell (p := ⟨B + 2, 0, none⟩) (by show B + 2 < _; omega)).trans r1
  refine ⟨(h2.bl.trans (hb.mono (by omega))).setCell (p := ⟨B + 2, 0, none⟩) (by show _ ≤ B + 2; omega) _, ?_, ?_, ⟨v', World.cell?_setCell_same _ _ _ c2, ?_, ho.far (fun e => by have := (ho.ge _ e).1; omega)⟩, ?_⟩
  · rw [World.cell?_setCell_other _ _ _ _ (by intro e; injection e with e1; omega)]
    exact (hb.cell (p := ⟨B, 0, none⟩) (by show B < _; omega)).trans h2.b0
  · rw [World.cell?_setCell_other _ _ _ _ (by intro e; injection e with e1; omega)]
    exact (hb.cell (p := ⟨B + 1, 0, none⟩) (by show B + 1 < _; omega)).trans h2.b1
  · have := (hb.frozen (p := ⟨B + 2, 0, none⟩) (by show B + 2 < _; omega)).trans r2
    simp [this]
  · have := hb.size
    simp
    omega
/-- The blocks that a round must leave. -/
def KpB (B : Nat) (W W' : World) : Prop := ∀ q, B + 3 ≤ q → q < B + 6 → W'.heap[q]? = W.heap[q]?
theorem KpB.upto {B : Nat} {W A A' : World} (h : KpB B W A) (hs : B + 6 ≤ A.heap.size) (b : Below A.heap.size A A') : KpB B W A' := fun q h1 h2 => (b.block q (by omega)).trans (h q h1 h2)
theorem KpB.push {B : Nat} {W A A' A'' : World} {v : Value} (h : KpB B W A) (hs : B + 6 ≤ A.heap.size) (b : Below A.heap.size A A') (b2 : Below (B + 6) A' A'') : KpB B W (A''.setCell ⟨B + 2, 0, none⟩ v) := fun q h1 h2 =>
  (Below.heap_setCell A'' ⟨B + 2, 0, none⟩ v q (by show q ≠ B + 2; omega)).trans ((b2.block q h2).trans ((b.block q (by omega)).trans (h q h1 h2)))
end Go.Proofs.YtifdcfjllonmgaaDoor
