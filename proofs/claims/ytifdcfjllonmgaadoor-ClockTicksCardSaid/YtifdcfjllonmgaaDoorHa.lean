/-
  Layer 8: numbers picked, bounds of a number.
-/
import Derived.Test.YtifdcfjllonmgaaDoorProg
import Derived.WalkKit
import Derived.WalkLawsBesides
import Derived.Outline
import Derived.Lib.Hide
import Derived.Below
import Derived.BigQuiet
import Derived.Deep.QuietTactic
namespace Go.Proofs.YtifdcfjllonmgaaDoor
open Go Go.Proofs Go.RowKit Go.Lib

def pick8 (c n : Int) : Int := if c < 0 then (-(c + 1)) % n else c % n
theorem pick8_lo {c n : Int} (hn : 1 ≤ n) : 0 ≤ pick8 c n := by unfold pick8; split <;> exact Int.emod_nonneg _ (by omega)
theorem pick8_hi {c n : Int} (hn : 1 ≤ n) : pick8 c n < n := by unfold pick8; split <;> exact Int.emod_lt_of_pos _ (by omega)
theorem ret_b8 {a b : Int} (h : a = b) : Ending.returned (.int .i64 a) = .returned (.int .i64 b) := by rw [h]
set_option maxHeartbeats 1000000 in
theorem pickL8_any (c n : Int) (h0 : -9223372036854775808 ≤ c) (h1 : c ≤ 9223372036854775807) (hn : 1 ≤ n) (hn2 : n ≤ 9223372036854775807) (w : World) :
    Calls Tryd.prog 26 #[.int .i64 c, .int .i64 n] w fun e w' => e = .returned (.int .i64 (pick8 c n)) ∧ w = w' := by
  have hz : (n == 0) = false := by rw [beq_eq_false_iff_ne]; omega
  by_cases hc : c < 0
  · have hp : pick8 c n = (-(c + 1)) % n := by unfold pick8; rw [if_pos hc]
    have HP := Lib.hid hp
    clear hp
    go_enter Tryd.func26, Tryd.ntmps26
    go_wp2
    go_ret
    exact ⟨ret_b8 (a := -((c + 1).tmod n)) (by rw [HP.out, ← Int.neg_tmod]; exact Int.tmod_eq_emod_of_nonneg (by omega)), rfl⟩
  · have hp : pick8 c n = c % n := by unfold pick8; rw [if_neg hc]
    have HP := Lib.hid hp
    have hc' : 0 ≤ c := by omega
    clear hp hc
    go_enter Tryd.func26, Tryd.ntmps26
    go_wp2
    go_ret
    exact ⟨ret_b8 HP.out.symm, rfl⟩
set_option maxHeartbeats 1000000 in
theorem pickR8_any (c n : Int) (h0 : -9223372036854775808 ≤ c) (h1 : c ≤ 9223372036854775807) (hn : 1 ≤ n) (hn2 : n ≤ 9223372036854775807) (w : World) :
    Calls Tryd.prog 38 #[.int .i64 c, .int .i64 n] w fun e w' => e = .returned (.int .i64 (pick8 c n)) ∧ w = w' := by
  have hz : (n == 0) = false := by rw [beq_eq_false_iff_ne]; omega
  by_cases hc : c < 0
  · have hp : pick8 c n = (-(c + 1)) % n := by unfold pick8; rw [if_pos hc]
    have HP := Lib.hid hp
    clear hp
    go_enter Tryd.func38, Tryd.ntmps38
    go_wp2
    go_ret
    exact ⟨ret_b8 (a := -((c + 1).tmod n)) (by rw [HP.out, ← Int.neg_tmod]; exact Int.tmod_eq_emod_of_nonneg (by omega)), rfl⟩
  · have hp : pick8 c n = c % n := by unfold pick8; rw [if_neg hc]
    have HP := Lib.hid hp
    have hc' : 0 ≤ c := by omega
    clear hp hc
    go_enter Tryd.func38, Tryd.ntmps38
    go_wp2
    go_ret
    exact ⟨ret_b8 HP.out.symm, rfl⟩
/-- A number is within bounds. -/
def inB (n lo hi : Int) : Bool := decide (lo ≤ n ∧ n ≤ hi)
theorem of_inB {n lo hi : Int} (h : inB n lo hi = true) : lo ≤ n ∧ n ≤ hi := of_decide_eq_true h
theorem of_inB_no {n lo hi : Int} (h : inB n lo hi = false) : n < lo ∨ hi < n := by have := of_decide_eq_false h; omega
theorem inB_yes {n lo hi : Int} (h : lo ≤ n) (h2 : n ≤ hi) : inB n lo hi = true := decide_eq_true ⟨h, h2⟩
set_option maxHeartbeats 1000000 in
theorem in_any (n lo hi : Int) (w : World) :
    Calls Tryd.prog 42 #[.int .i64 n, .int .i64 lo, .int .i64 hi] w fun e w' => e = .returned (.bool (inB n lo hi)) ∧ w = w' := by
  obtain ⟨B, hB⟩ : ∃ B, inB n lo hi = B := ⟨_, rfl⟩
  rw [hB]
  have HB := Lib.hid hB
  clear hB
  by_cases h1 : lo ≤ n
  · by_cases h2 : n ≤ hi
    · have HF := Lib.hid (show B = true by rw [← HB.out]; exact decide_eq_true ⟨h1, h2⟩)
      go_enter Tryd.func42, Tryd.ntmps42
      go_wp2
      go_ret
      exact ⟨by rw [HF.out]; rfl, rfl⟩
    · have HF := Lib.hid (show B = false by rw [← HB.out]; exact decide_eq_false (by omega))
      go_enter Tryd.func42, Tryd.ntmps42
      go_wp2
      go_ret
      exact ⟨by rw [HF.out]; rfl, rfl⟩
  · have HF := Lib.hid (show B = false by rw [← HB.out]; exact decide_eq_false (by omega))
    go_enter Tryd.func42, Tryd.ntmps42
    go_wp2
    go_ret
    exact ⟨by rw [HF.out]; rfl, rfl⟩
end Go.Proofs.YtifdcfjllonmgaaDoor
