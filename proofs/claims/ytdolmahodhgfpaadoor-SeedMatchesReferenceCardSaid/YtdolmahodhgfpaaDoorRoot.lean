/-
  The contract of digest.Root: the root of a list of strings.
-/
import Derived.Test.YtdolmahodhgfpaaDoorHash
import Derived.Deep.RegionWith
namespace Go.Proofs.YtdolmahodhgfpaaDoor
open Go Go.Proofs Go.RowKit Go.Lib

/-- The strings that a slice holds, from the offset o of block b on. -/
def StrsAt (W : World) (b o : Nat) (l : List ByteArray) : Prop := ∀ (i : Nat) (h : i < l.length), W.cell? ⟨b, o + i, none⟩ = some (.string l[i])
theorem StrsAt.below {n : Nat} {W W' : World} {b o : Nat} {l : List ByteArray} (h : StrsAt W b o l) (hb : Below n W W') (hn : b < n) : StrsAt W' b o l :=
  fun i hi => (hb.cell (p := ⟨b, o + i, none⟩) hn).trans (h i hi)
theorem StrsAt.take {W : World} {b o : Nat} {l : List ByteArray} (h : StrsAt W b o l) (k : Nat) : StrsAt W b o (l.take k) := by
  intro i hi
  have hi2 : i < l.length := by simp at hi; omega
  rw [h i hi2]; simp
theorem StrsAt.drop {W : World} {b o : Nat} {l : List ByteArray} (h : StrsAt W b o l) (k : Nat) : StrsAt W b (o + k) (l.drop k) := by
  intro i hi
  have hi2 : k + i < l.length := by simp at hi; omega
  have := h (k + i) hi2
  rw [show o + (k + i) = o + k + i by omega] at this
  rw [this]; simp
def Small (l : List ByteArray) : Prop := ∀ s ∈ l, s.size ≤ 1099511627776
theorem Small.take {l : List ByteArray} (h : Small l) (k : Nat) : Small (l.take k) := fun s hs => h s (List.mem_of_mem_take hs)
theorem Small.drop {l : List ByteArray} (h : Small l) (k : Nat) : Small (l.drop k) := fun s hs => h s (List.mem_of_mem_drop hs)

/-- A contract in a world that has grown. -/
theorem grown_call {P : Program} {f : FuncId} {args : Array Value} {v : Value} {n : Nat} {w W : World} (c : Calls P f args W fun e W' => e = .returned v ∧ Below W.heap.size W W') (hb : Below n w W) (hn : n ≤ W.heap.size) :
    Calls P f args W fun e W' => e = .returned v ∧ Below n w W' := c.mono fun _ _ h => ⟨h.1, hb.trans (h.2.mono hn)⟩

theorem strs_elem : Tryd.prog.underlying 24 = some (.slice (Tryd.prog.elem 24)) := by kernel_rfl
theorem strs_size (w : World) : (Go.sizeOf (Tryd.prog.elem 24)).run Tryd.prog w = .ok 1 w := by kernel_rfl
theorem slice_lo (b o n c k : Nat) (hk : k ≤ c) (w : World) :
    (Instr.slice 24 (.slice (some ⟨b, o, none⟩) n c) none (some (.int .i64 (k : Nat))) none).run Tryd.prog w = .ok (.slice (some ⟨b, o, none⟩) k c) w := by
  rw [run_slice_h w _ _ _ _ strs_elem .i64 _ (by omega) (by omega), strs_size]
  simp [Result.andThen, sliced, Addr.add]
theorem slice_hi (b o n c k : Nat) (hk : k ≤ n) (hc : k < c) (w : World) :
    (Instr.slice 24 (.slice (some ⟨b, o, none⟩) n c) (some (.int .i64 (k : Nat))) none none).run Tryd.prog w = .ok (.slice (some ⟨b, o + k, none⟩) (n - k) (c - k)) w := by
  have h2 : ¬ c = k := by omega
  rw [run_slice_l w _ _ _ _ strs_elem .i64 _ (by omega) (by omega), strs_size]
  simp [Result.andThen, sliced, Addr.add, h2]

end Go.Proofs.YtdolmahodhgfpaaDoor
