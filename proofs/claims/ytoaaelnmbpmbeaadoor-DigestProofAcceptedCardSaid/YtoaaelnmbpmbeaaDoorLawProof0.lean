/-
  DigestProofAccepted: the walk, as the row wants it.
-/
import Derived.Test.YtoaaelnmbpmbeaaDoorLawProof
namespace Go.Proofs.YtoaaelnmbpmbeaaDoor
open Go Go.Proofs Go.RowKit Go.Lib
theorem acc_walk0 (a0 : Option Addr) (n0 c0 : Nat) (m : Int) (w : World) (h : n0 ≤ maxLen ∧ ∃ t, StrsIn w a0 n0 t) (hm0 : -9223372036854775808 ≤ m) (hm1 : m ≤ 9223372036854775807) (hT : HasK w) (h0 : 0 < w.heap.size) :
    Calls Tryd.prog 6 #[.slice a0 n0 c0, .int .i64 m] w fun e w' => e = .returned (.bool true) ∧ Below w.heap.size w w' := by
  obtain ⟨l1, t, hI⟩ := h
  exact acc_walk a0 n0 c0 t m l1 w hI hm0 hm1 ⟨hT, h0⟩
end Go.Proofs.YtoaaelnmbpmbeaaDoor
