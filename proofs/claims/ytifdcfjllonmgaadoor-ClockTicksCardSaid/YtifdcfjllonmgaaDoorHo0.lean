/-
  Layer 8: a block named, the box of an event, what stays where a row grows.
-/
import Derived.Test.YtifdcfjllonmgaaDoorHn
namespace Go.Proofs.YtifdcfjllonmgaaDoor
open Go Go.Proofs Go.RowKit Go.Lib

theorem CellsAt.grown {W W' : World} {B : Nat} {v : Value} {vs : List Value} {row : Option Nat} (h : CellsAt W B (v :: vs)) (hg : W.grownBy W' row) (hne : some B ≠ row) : CellsAt W' B (v :: vs) := fun i hi => by
  have l := World.block_lt_of_cell? W ⟨B, 0, none⟩ (h 0 (Nat.zero_lt_succ _)).1
  exact ⟨(World.cell?_of_block (a := ⟨B, i, none⟩) (hg.block B l hne)).trans (h i hi).1, (World.frozen?_of_block (a := ⟨B, i, none⟩) (hg.block B l hne)).trans (h i hi).2⟩
theorem CellsAt.up {n : Nat} {W W' : World} {B : Nat} {vs : List Value} (h : CellsAt W B vs) (b : Below n W W') (hB : B < n) : CellsAt W' B vs := fun i hi =>
  ⟨(b.cell (p := ⟨B, i, none⟩) hB).trans (h i hi).1, (b.frozen (p := ⟨B, i, none⟩) hB).trans (h i hi).2⟩
/-- What a box of an event holds. -/
def EvBox (W : World) (B : Nat) (x : Ev) : Prop := W.cell? ⟨B, 0, none⟩ = some (.int .i64 x.ag) ∧ W.cell? ⟨B, 1, none⟩ = some (.int .i64 x.sq) ∧ W.cell? ⟨B, 2, none⟩ = some (.int .i64 x.tm) ∧ W.cell? ⟨B, 3, none⟩ = some (.int .i64 x.kd) ∧ W.cell? ⟨B, 4, none⟩ = some (.int .i64 x.tr) ∧ W.cell? ⟨B, 5, none⟩ = some (.int .i64 x.sp) ∧ W.cell? ⟨B, 6, none⟩ = some (.int .i64 x.lk) ∧ W.cell? ⟨B, 7, none⟩ = some (.int .i64 x.gn) ∧ W.cell? ⟨B, 8, none⟩ = some (.int .i64 x.op) ∧ W.cell? ⟨B, 9, none⟩ = some (.int .i64 x.vr) ∧ W.cell? ⟨B, 10, none⟩ = some (.int .i64 x.pe) ∧ W.cell? ⟨B, 11, none⟩ = some (.int .i64 x.bt)
theorem CellsAt.ev {W : World} {B : Nat} {x : Ev} (h : CellsAt W B x.cells) : EvBox W B x :=
  ⟨(h 0 (by simp [Ev.cells])).1, (h 1 (by simp [Ev.cells])).1, (h 2 (by simp [Ev.cells])).1, (h 3 (by simp [Ev.cells])).1, (h 4 (by simp [Ev.cells])).1, (h 5 (by simp [Ev.cells])).1, (h 6 (by simp [Ev.cells])).1, (h 7 (by simp [Ev.cells])).1, (h 8 (by simp [Ev.cells])).1, (h 9 (by simp [Ev.cells])).1, (h 10 (by simp [Ev.cells])).1, (h 11 (by simp [Ev.cells])).1⟩
theorem lay8 (W : World) (vs : List Value) (t : TypeId) : ∃ W', W.alloc (.cells vs.toArray t) = W' ∧ W'.heap.size = W.heap.size + 1 ∧ CellsAt W' W.heap.size vs ∧ Below W.heap.size W W' :=
  ⟨_, rfl, by simp, cellsAt_new rfl, (Below.refl _ _).alloc (Nat.le_refl _) _⟩
theorem con_push8 {X Y : World} {y y' : Value} {A : Nat} {a b : Ev} (o : Obj) (KA : CellsAt X A a.cells) (KB : CellsAt X (A + 1) b.cells) (N : y.ownBlock ≠ some A ∧ y.ownBlock ≠ some (A + 1)) (S : A + 1 < X.heap.size)
    (hg : (X.alloc o).grownBy Y y.ownBlock) (hbk : y'.ownBlock = y.ownBlock ∨ y'.ownBlock = some (X.alloc o).heap.size) : CellsAt Y A a.cells ∧ CellsAt Y (A + 1) b.cells ∧ (y'.ownBlock ≠ some A ∧ y'.ownBlock ≠ some (A + 1)) ∧ A + 1 < Y.heap.size := by
  have hz : (X.alloc o).heap.size = X.heap.size + 1 := by simp
  have up : ∀ B x, CellsAt X B (Ev.cells x) → CellsAt (X.alloc o) B (Ev.cells x) := fun B x h => CellsAt.below h ((Below.refl _ _).alloc (Nat.le_refl _) o)
  refine ⟨CellsAt.grown (up A a KA) hg (fun e => N.1 e.symm), CellsAt.grown (up (A + 1) b KB) hg (fun e => N.2 e.symm), ?_, by have := hg.size; omega⟩
  rcases hbk with h | h
  · rw [h]; exact N
  · rw [h, hz]
    constructor
    · intro e; injection e with e; omega
    · intro e; injection e with e; omega
theorem neg8 {x : Int} (h : -1152921504606846976 ≤ x) (h2 : x ≤ 1152921504606846976) : IntKind.i64.wrap (-x) = -x := IntWalk.i64_in _ (by omega)
end Go.Proofs.YtifdcfjllonmgaaDoor
