/-
  The contracts of the reference's Leaf, Node and Chain.
-/
import Derived.Test.YtoaaelnmbpmbeaaDoorRefSum
namespace Go.Proofs.YtoaaelnmbpmbeaaDoor
open Go Go.Proofs Go.RowKit Go.Lib

theorem tagged_app (t : UInt8) (a b : ByteArray) : (⟨#[t]⟩ ++ a) ++ b = tagged t (a ++ b) := by
  unfold tagged; rw [ByteArray.append_assoc]
theorem one_size (t : UInt8) : (⟨#[t]⟩ : ByteArray).size = 1 := rfl

theorem leafR_any (s : ByteArray) (hs : s.size ≤ 1000000) (w : World) :
    Calls Tryd.prog 16 #[.string s] w fun e w' => e = .returned (.string (leafF s)) ∧ Below w.heap.size w w' := by
  have c := fun W => sumR_any (tagged 0 s) (by rw [tagged_size]; omega) W
  have C := Lib.hid (show ∀ W, Calls Tryd.prog 14 #[.string (⟨#[0]⟩ ++ s)] W _ from c)
  clear c
  go_enter Tryd.func16, Tryd.ntmps16
  go_wp2_with fail
  refine (C.out _).mono ?_
  rintro e w' ⟨rfl, hb⟩
  go_wp2
  go_ret
  exact ⟨rfl, hb⟩
theorem nodeR_any (a b : ByteArray) (ha : a.size ≤ 1000000) (hb : b.size ≤ 1000000) (w : World) :
    Calls Tryd.prog 18 #[.string a, .string b] w fun e w' => e = .returned (.string (nodeF a b)) ∧ Below w.heap.size w w' := by
  have c := fun W => sumR_any (tagged 1 (a ++ b)) (by rw [tagged_size, ByteArray.size_append]; omega) W
  rw [← tagged_app] at c
  have C := Lib.hid (show ∀ W, Calls Tryd.prog 14 #[.string ((⟨#[1]⟩ ++ a) ++ b)] W fun e w' => e = .returned (.string (nodeF a b)) ∧ Below W.heap.size W w' from fun W => by
    have h := c W
    rw [tagged_app] at h ⊢
    exact h)
  clear c
  go_enter Tryd.func18, Tryd.ntmps18
  go_wp2_with fail
  refine (C.out _).mono ?_
  rintro e w' ⟨rfl, hb⟩
  go_wp2
  go_ret
  exact ⟨rfl, hb⟩
theorem chainR_any (a b : ByteArray) (ha : a.size ≤ 1000000) (hb : b.size ≤ 1000000) (w : World) :
    Calls Tryd.prog 20 #[.string a, .string b] w fun e w' => e = .returned (.string (chainF a b)) ∧ Below w.heap.size w w' := by
  have c := fun W => sumR_any (tagged 2 (a ++ b)) (by rw [tagged_size, ByteArray.size_append]; omega) W
  rw [← tagged_app] at c
  have C := Lib.hid (show ∀ W, Calls Tryd.prog 14 #[.string ((⟨#[2]⟩ ++ a) ++ b)] W fun e w' => e = .returned (.string (chainF a b)) ∧ Below W.heap.size W w' from fun W => by
    have h := c W
    rw [tagged_app] at h ⊢
    exact h)
  clear c
  go_enter Tryd.func20, Tryd.ntmps20
  go_wp2_with fail
  refine (C.out _).mono ?_
  rintro e w' ⟨rfl, hb⟩
  go_wp2
  go_ret
  exact ⟨rfl, hb⟩
end Go.Proofs.YtoaaelnmbpmbeaaDoor
