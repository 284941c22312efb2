/-
  The contracts of the statements' own helpers: pick and NumberFrom.
-/
import Derived.Test.YtdolmahodhgfpaaDoorProg
import Derived.WalkKit
import Derived.WalkLawsBesides
import Derived.Outline
import Derived.Lib.Hide
import Derived.Lib.Strings
import Derived.RangeFuncRecord
namespace Go.Proofs.YtdolmahodhgfpaaDoor.W1
open Go Go.Proofs Go.RowKit Go.Lib

theorem slice_to {P : Program} (t : TypeId) (hu : P.underlying t = some .string) (s : ByteArray) (h : Int) (k : Nat) (hk : h = (k : Int)) (hs : k ≤ s.size) (r : ByteArray) (hr : s.extract 0 k = r) (w : World) :
    (Instr.slice t (.string s) none (some (.int .i64 h)) none).run P w = .ok (.string r) w := by
  subst hk hr
  have := run_slice_string_h (P := P) w t s hu .i64 (k : Int) (by omega) (by omega)
  simpa using this
theorem size_len (s : ByteArray) : s.data.toList.length = s.size := by simp
theorem extract_take (s : ByteArray) (k : Nat) : (s.extract 0 k).data.toList = s.data.toList.take k := by
  rw [Lib.extract_data]; simp
theorem append_data (a b : ByteArray) : (a ++ b).data.toList = a.data.toList ++ b.data.toList := by simp [ByteArray.data_append]

theorem bytes_ext {a b : ByteArray} (h : a.data.toList = b.data.toList) : a = b := ByteArray.ext (Array.toList_inj.1 h)
theorem str_ne {a b : ByteArray} (h : ¬ a = b) : (a.toList == b.toList) = false := by
  rw [beq_eq_false_iff_ne, ByteArray.toList_eq, ByteArray.toList_eq]
  exact fun e => h (bytes_ext e)

theorem block_of_cell {W : World} {a : Addr} {v : Value} (h : W.cell? a = some v) : a.block < W.heap.size := by
  unfold World.cell? at h
  split at h
  · rename_i hb
    exact (Array.getElem?_eq_some_iff.1 hb).1
  · cases h

def pickI (c n : Int) : Int := if c < 0 then (-(c + 1)) % n else c % n
theorem pickI_lo {c n : Int} (hn : 1 ≤ n) : 0 ≤ pickI c n := by unfold pickI; split <;> exact Int.emod_nonneg _ (by omega)
theorem pickI_hi {c n : Int} (hn : 1 ≤ n) : pickI c n < n := by unfold pickI; split <;> exact Int.emod_lt_of_pos _ (by omega)

theorem ret_b {k : IntKind} {a b : Int} (h : a = b) : Ending.returned (.int k a) = .returned (.int k b) := by rw [h]

/-- The bounds of NumberFrom. -/
def numTab (i : Nat) : Int := [64, 128, 8192, 16384, 1073741824, 36028797018963968, 576460752303423488, 2].getD i 0
theorem numTab_range {i : Nat} (h : i < 8) : 1 ≤ numTab i ∧ numTab i ≤ 576460752303423488 := by
  have : i = 0 ∨ i = 1 ∨ i = 2 ∨ i = 3 ∨ i = 4 ∨ i = 5 ∨ i = 6 ∨ i = 7 := by omega
  rcases this with rfl | rfl | rfl | rfl | rfl | rfl | rfl | rfl <;> decide
/-- What NumberFrom returns. -/
def numA (c : Int) : Int := pickI (pickI c 4611686018427387904 / 8) (numTab (pickI c 8).toNat)
def numF (c : Int) : Int := if 8 ≤ pickI c 16 then - numA c else numA c
theorem numA_range (c : Int) : 0 ≤ numA c ∧ numA c < 576460752303423488 := by
  have h := numTab_range (i := (pickI c 8).toNat) (by have := pickI_hi (c := c) (n := 8) (by omega); have := pickI_lo (c := c) (n := 8) (by omega); omega)
  unfold numA
  exact ⟨pickI_lo h.1, by have := pickI_hi (c := pickI c 4611686018427387904 / 8) h.1; omega⟩
theorem numF_range (c : Int) : -576460752303423488 < numF c ∧ numF c < 576460752303423488 := by
  have := numA_range c
  unfold numF
  split <;> omega

theorem numTab_cells (W : World) (b : Nat) (T : TypeId) (h : W.heap[b]? = some (.cells #[.int .i64 64, .int .i64 128, .int .i64 8192, .int .i64 16384, .int .i64 1073741824, .int .i64 36028797018963968, .int .i64 576460752303423488, .int .i64 2] T (0, 0)))
    (j : Nat) (hj : j < 8) : W.cell? ⟨b, j, none⟩ = some (.int .i64 (numTab j)) := by
  have : j = 0 ∨ j = 1 ∨ j = 2 ∨ j = 3 ∨ j = 4 ∨ j = 5 ∨ j = 6 ∨ j = 7 := by omega
  rcases this with rfl | rfl | rfl | rfl | rfl | rfl | rfl | rfl <;> simp [World.cell?, h, numTab]
theorem numTab_cell (w : World) (j : Nat) (hj : j < 8) :
    (w.alloc (.cells #[.int .i64 64, .int .i64 128, .int .i64 8192, .int .i64 16384, .int .i64 1073741824, .int .i64 36028797018963968, .int .i64 576460752303423488, .int .i64 2] 3)).cell? ⟨w.heap.size, j, none⟩ = some (.int .i64 (numTab j)) :=
  numTab_cells _ _ _ (World.alloc_heap_new w _) j hj

end Go.Proofs.YtdolmahodhgfpaaDoor.W1
