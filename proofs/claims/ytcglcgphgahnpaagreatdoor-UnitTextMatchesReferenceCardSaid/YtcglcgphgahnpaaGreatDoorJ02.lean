/-
  Blocks of memory that read as a list of values. What '==' answers of two quantities, and of two units.
-/
import Derived.Test.YtcglcgphgahnpaaGreatDoorProg
import Derived.WalkKit
import Derived.Below
import Derived.Laws.StructEq
set_option maxRecDepth 100000
set_option maxHeartbeats 16000000
namespace Go.Proofs.YtcglcgphgahnpaaGreatDoor
open Go Go.Proofs Go.RowKit
def CellsAt (W : World) (B : Nat) (vs : List Value) : Prop := ∀ i (h : i < vs.length), W.cell? ⟨B, i, none⟩ = some vs[i] ∧ W.frozen? ⟨B, i, none⟩ = false
theorem cellsAt_of {W : World} {B : Nat} {vs : List Value} {t : TypeId} (h : W.heap[B]? = some (.cells vs.toArray t)) : CellsAt W B vs := fun i hi => by
 simp [World.cell?, World.frozen?, h, hi]
theorem CellsAt.below {W W' : World} {B : Nat} {v : Value} {vs : List Value} (h : CellsAt W B (v :: vs)) (b : Below W.heap.size W W') : CellsAt W' B (v :: vs) := fun i hi => by
 have l := World.block_lt_of_cell? W ⟨B, 0, none⟩ (h 0 (Nat.zero_lt_succ _)).1
 exact ⟨(b.cell (p := ⟨B, i, none⟩) l).trans (h i hi).1, (b.frozen (p := ⟨B, i, none⟩) l).trans (h i hi).2⟩
theorem CellsAt.far {W : World} {A B i : Nat} {v : Value} {vs : List Value} (h : CellsAt W B vs) (hne : A ≠ B) : CellsAt (W.setCell ⟨A, i, none⟩ v) B vs := fun j hj =>
 ⟨(World.cell?_setCell_other W ⟨A, i, none⟩ ⟨B, j, none⟩ v (by intro e; injection e with e1 e2; exact hne e1)).trans (h j hj).1, by simp [(h j hj).2]⟩
theorem CellsAt.drew {W : World} {B : Nat} {vs : List Value} (h : CellsAt W B vs) : CellsAt W.drew B vs := fun i hi => h i hi
theorem CellsAt.put {W : World} {B : Nat} {vs : List Value} (h : CellsAt W B vs) (i : Nat) (v : Value) : CellsAt (W.setCell ⟨B, i, none⟩ v) B (vs.set i v) := fun j hj => by
 have hj' : j < vs.length := by simpa using hj
 refine ⟨?_, by simp [(h j hj').2]⟩
 by_cases e : i = j
 · subst e
   rw [List.getElem_set_self]
   exact World.cell?_setCell_same W ⟨B, i, none⟩ v (h i hj').1
 rw [List.getElem_set_ne e]
 exact (World.cell?_setCell_other W ⟨B, i, none⟩ ⟨B, j, none⟩ v (by intro h2; injection h2 with e1 e2; exact e e2)).trans (h j hj').1
theorem cellsAt_new {W : World} {B : Nat} {vs : List Value} {t : TypeId} (h : B = W.heap.size) : CellsAt (W.alloc (.cells vs.toArray t)) B vs := by subst h; exact cellsAt_of (heap_alloc_new _ _)
theorem eq_qty6 (n d n' d' : ByteArray) (t b m c t' b' m' c' : Int) (W : World) : (Op.equalIn 10000 27 (.agg #[.string n, .string d, .int .i64 t, .int .i64 b, .int .i64 m, .int .i64 c]) (.agg #[.string n', .string d', .int .i64 t', .int .i64 b', .int .i64 m', .int .i64 c'])).run Tryz.prog W = .ok (decide (n = n' ∧ d = d' ∧ t = t' ∧ b = b' ∧ m = m' ∧ c = c')) W := by
 have no {x y : ByteArray} (h : ¬ x = y) : ¬ x.toList = y.toList := fun e => h (by
  rw [ByteArray.toList_eq, ByteArray.toList_eq] at e
  exact ByteArray.ext (Array.toList_inj.1 e))
 by_cases h1 : n = n'
 · subst h1
   by_cases h2 : d = d'
   · subst h2
     by_cases h3 : t = t' <;> by_cases h4 : b = b' <;> by_cases h5 : m = m' <;> by_cases h6 : c = c'
     all_goals go_simp
   have k := no h2
   go_simp
 have k := no h1
 go_simp
end Go.Proofs.YtcglcgphgahnpaaGreatDoor
