/-
  Layer 8: '==' of two anchors; what ClockReadingsMatchReference asks, plain.
-/
import Derived.Test.YtamefmojocegkaaDoorM01
import Derived.Test.YtamefmojocegkaaDoorQg
import Derived.Laws.StructEq
namespace Go.Proofs.YtamefmojocegkaaDoor
open Go Go.Proofs Go.RowKit Go.Lib

set_option maxRecDepth 100000 in
set_option maxHeartbeats 4000000 in
theorem eq_an8 (a b : Int) (W : World) : (Op.equalIn 10000 60 (.agg #[.int .i64 a, .int .i64 b]) (.agg #[.int .i64 a, .int .i64 b])).run Tryd.prog W = .ok true W := by
  go_simp
theorem ex_timesB (n : Int) (l : List D4) (k : Nat) (hk : k = (exN n l).length) : timesB k ((exN n l).map (·.t)) = true := by
  have h := mv_times n l [] (by decide) k hk
  have e : mvN ((exN n l).map (·.t)) [] = (exN n l).map (·.t) := by cases (exN n l).map (·.t) <;> rfl
  rwa [e] at h
theorem clkN_lenH (f : Fl) (n : Int) (i : Nat) : 1 ≤ (clkN f n i).an.length ∧ (clkN f n i).an.length ≤ maxLen := by
  unfold clkN maxLen
  dsimp only
  split <;> simp
theorem RowK.toH8 {T : Type} (K : RowK T) (ad : Option Addr) (n c k : Nat) (hk : k ≤ c) (w : World) : (Instr.slice K.st (.slice ad n c) none (some (.int .i64 (k : Int))) none).run Tryd.prog w = .ok (.slice ad k c) w := by
  have hu := K.und
  rw [← K.elem] at hu
  obtain ⟨i0, hi, hz0, hz1, hz2⟩ := info_parts K.info
  rw [← K.elem] at hi
  have hs : ∀ w, (Go.sizeOf (Tryd.prog.elem K.st)).run Tryd.prog w = .ok K.n w := fun w => by simp [sizeOf, typeInfo, hi, Result.andThen, hz1]
  rw [run_slice_h w _ _ _ _ hu .i64 _ (by omega) (by omega), hs]
  cases ad with
  | none => simp [Result.andThen, sliced]
  | some a =>
    rcases a with ⟨b, o, s⟩
    cases s <;> simp [Result.andThen, sliced, Addr.add]
end Go.Proofs.YtamefmojocegkaaDoor
