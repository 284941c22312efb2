/-
  The contracts of digest.Sum, Leaf, Node and Chain.
-/
import Derived.Test.YtdolmahodhgfpaaDoorSumOf
import Derived.Test.YtdolmahodhgfpaaDoorBind
namespace Go.Proofs.YtdolmahodhgfpaaDoor
open Go Go.Proofs Go.RowKit Go.Lib

/-- The table of round words lies as it was laid. -/
def Ready (w : World) : Prop := HasK w ∧ 0 < w.heap.size
theorem Ready.below {w w' : World} (h : Ready w) (hb : Below w.heap.size w w') : Ready w' := ⟨h.1.below hb h.2, Nat.lt_of_lt_of_le h.2 hb.size⟩
theorem Ready.ext {n : Nat} {w w' : World} (h : Ready w) (hn : n = w.heap.size) (hb : Below n w w') : Ready w' := h.below (hn ▸ hb)
theorem natsOf_tagged (t : UInt8) (s : ByteArray) : natsOf (tagged t s) = t.toNat :: natsOf s := by
  simp [tagged, natsOf, ByteArray.data_append]

theorem tagged_size (t : UInt8) (s : ByteArray) : (tagged t s).size = s.size + 1 := by
  rw [← natsOf_length, natsOf_tagged, List.length_cons, natsOf_length]
theorem ret_str {a b : ByteArray} (h : a = b) : Ending.returned (.string a) = .returned (.string b) := by rw [h]

theorem part_new (w : World) (ss : List ByteArray) (t : TypeId) : PartsAt (w.alloc (.cells (ss.map Value.string).toArray t)) w.heap.size ss := by
  intro i hi
  rw [cell_of_row _ _ i _ _ _ (heap_alloc_new w _)]
  simp [hi]
theorem ready_alloc {w : World} (h : Ready w) (o : Obj) : Ready (w.alloc o) := h.below ((Below.refl _ _).alloc (Nat.le_refl _) _)

/-- The parts in a block that was just made. -/
theorem sumOf_new (ss : List ByteArray) (hM : (catN ss).length ≤ 1152921504606846976) (hN : ss.length ≤ 1000000) (w : World) (hR : Ready w) (t : TypeId) :
    Calls Tryd.prog 47 #[.slice (some ⟨w.heap.size, 0, none⟩) ss.length ss.length] (w.alloc (.cells (ss.map Value.string).toArray t)) fun e w' => e = .returned (.string (shaL (catN ss))) ∧ Below w.heap.size w w' :=
  (sumOf_any w.heap.size ss hM hN _ (part_new w ss t) (by simp) (ready_alloc hR _).1 (ready_alloc hR _).2).mono fun _ _ h => ⟨h.1, ((Below.refl w.heap.size w).alloc (Nat.le_refl _) _).trans (h.2.mono (by simp))⟩

theorem sum_any (s : ByteArray) (hs : s.size ≤ 1099511627776) (w : World) (hR : Ready w) :
    Calls Tryd.prog 29 #[.string s] w fun e w' => e = .returned (.string (sha s)) ∧ Below w.heap.size w w' := by
  have c := sumOf_new [s] (by rw [catN_one, natsOf_length]; omega) (by simp) w hR 9
  rw [catN_one, ← sha_eq] at c
  have C := Lib.hid (show Calls Tryd.prog 47 #[.slice (some ⟨w.heap.size, 0, none⟩) 1 1] (w.alloc (.cells #[.string s] 9)) _ from c)
  clear c
  go_enter Tryd.func29, Tryd.ntmps29
  go_wp2_with fail
  refine C.out.mono ?_
  rintro e w' ⟨rfl, hb⟩
  go_wp2
  go_ret
  exact ⟨rfl, hb⟩
end Go.Proofs.YtdolmahodhgfpaaDoor
