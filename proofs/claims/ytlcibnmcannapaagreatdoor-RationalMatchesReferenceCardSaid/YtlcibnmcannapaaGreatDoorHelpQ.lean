/-
  The contracts of the laws' is, and facts of sums and products of fractions as texts.
-/
import Derived.Test.YtlcibnmcannapaaGreatDoorRoundQ
import Derived.Test.YtlcibnmcannapaaGreatDoorCmpP
import Derived.Test.YtlcibnmcannapaaGreatDoorTextQ
namespace Go.Proofs.YtlcibnmcannapaaGreatDoor
open Go Go.Proofs Go.RowKit Go.Lib

theorem ratAt_alloc {W W' : World} {a b : ByteArray} {t : TypeId} (h : Below (W.alloc (.cells #[.string a, .string b] t)).heap.size (W.alloc (.cells #[.string a, .string b] t)) W') : RatAt W' W.heap.size a b :=
  RatAt.below (ratAt_of (heap_alloc_new W (.cells #[.string a, .string b] t))) h
set_option maxRecDepth 100000 in
set_option maxHeartbeats 8000000 in
theorem is_any (n d : ByteArray) (w : World) : Calls Tryz.prog 41 #[.string n, .string d] w fun e w' => e = .returned (.agg #[.string n, .string d]) ∧ Below w.heap.size w w' := by
  obtain ⟨W0, hW0, b0, hcc⟩ := box_one w n d
  have HW := Lib.hid hW0; have HC := Lib.hid hcc; have B0 := Lib.hid b0
  clear hW0 hcc b0
  go_enter Tryz.func41, Tryz.ntmps41
  go_wp2_with fail
  rw [HW.out]
  obtain ⟨ca, cb, cc, cd⟩ := HC.out W0 (Below.refl _ _)
  exact bodyPost_ret (v := .agg #[.string n, .string d]) (by simp [results, Tryz.results41, go_sem, ca, cb]) rfl ⟨rfl, B0.out⟩

end Go.Proofs.YtlcibnmcannapaaGreatDoor
