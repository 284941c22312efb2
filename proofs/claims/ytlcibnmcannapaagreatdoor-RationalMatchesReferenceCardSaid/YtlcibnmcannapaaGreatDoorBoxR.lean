/-
  A fraction in a block of its own: what its cells hold, as long as nobody writes below.
-/
import Derived.Test.YtlcibnmcannapaaGreatDoorGrid
import Derived.Test.YtlcibnmcannapaaGreatDoorRmul
namespace Go.Proofs.YtlcibnmcannapaaGreatDoor
open Go Go.Proofs Go.RowKit Go.Lib

theorem below_up {w W W' : World} (b : Below w.heap.size w W) (b' : Below W.heap.size W W') : Below w.heap.size w W' := b.trans (b'.mono b.size)
/-- What a block that holds a fraction answers. -/
def RatAt (W : World) (B : Nat) (n d : ByteArray) : Prop :=
  W.cell? ⟨B, 0, none⟩ = some (.string n) ∧ W.cell? ⟨B, 1, none⟩ = some (.string d) ∧ W.frozen? ⟨B, 0, none⟩ = false ∧ W.frozen? ⟨B, 1, none⟩ = false
theorem ratAt_of {W : World} {B : Nat} {n d : ByteArray} {t : TypeId} (h : W.heap[B]? = some (.cells #[.string n, .string d] t)) : RatAt W B n d := by
  unfold RatAt
  simp [World.cell?, World.frozen?, h]
theorem box_one (w : World) (n d : ByteArray) : ∃ W0, w.alloc (.cells #[.string n, .string d] 23) = W0 ∧ Below w.heap.size w W0 ∧
    ∀ W, Below W0.heap.size W0 W → RatAt W w.heap.size n d :=
  ⟨_, rfl, (Below.refl _ _).alloc (Nat.le_refl _) _, fun W hb => ratAt_of ((hb.block w.heap.size (by simp)).trans (heap_alloc_new w (.cells #[.string n, .string d] 23)))⟩
theorem box_two (w : World) (n d m c : ByteArray) : ∃ W0, (w.alloc (.cells #[.string n, .string d] 23)).alloc (.cells #[.string m, .string c] 23) = W0 ∧ Below w.heap.size w W0 ∧
    ∀ W, Below W0.heap.size W0 W → RatAt W w.heap.size n d ∧ RatAt W (w.heap.size + 1) m c := by
  obtain ⟨W1, h1, b1, f1⟩ := box_one w n d
  obtain ⟨W2, h2, b2, f2⟩ := box_one W1 m c
  have hs : W1.heap.size = w.heap.size + 1 := by rw [← h1]; simp
  refine ⟨W2, by rw [h1, h2], below_up b1 b2, fun W hb => ⟨f1 W (below_up b2 hb), ?_⟩⟩
  have := f2 W hb
  rw [hs] at this
  exact this
theorem box_three (w : World) (n d m c x y : ByteArray) : ∃ W0, ((w.alloc (.cells #[.string n, .string d] 23)).alloc (.cells #[.string m, .string c] 23)).alloc (.cells #[.string x, .string y] 23) = W0 ∧ Below w.heap.size w W0 ∧
    ∀ W, Below W0.heap.size W0 W → RatAt W w.heap.size n d ∧ RatAt W (w.heap.size + 1) m c ∧ RatAt W (w.heap.size + 2) x y := by
  obtain ⟨W1, h1, b1, f1⟩ := box_two w n d m c
  obtain ⟨W2, h2, b2, f2⟩ := box_one W1 x y
  have hs : W1.heap.size = w.heap.size + 2 := by rw [← h1]; simp
  refine ⟨W2, by rw [h1, h2], below_up b1 b2, fun W hb => ⟨(f1 W (below_up b2 hb)).1, (f1 W (below_up b2 hb)).2, ?_⟩⟩
  have := f2 W hb
  rw [hs] at this
  exact this
/-- A result that was laid in a block of its own. -/
theorem rat_done {w W0 W : World} {R : Nat} (b0 : Below w.heap.size w W0) (hn : w.heap.size ≤ R) (b : Below W0.heap.size W0 W) (x y : Value) :
    Below w.heap.size w ((W.setCell ⟨R, 0, none⟩ x).setCell ⟨R, 1, none⟩ y) :=
  ((below_up b0 b).setCell (p := ⟨R, 0, none⟩) hn _).setCell (p := ⟨R, 1, none⟩) hn _
end Go.Proofs.YtlcibnmcannapaaGreatDoor
