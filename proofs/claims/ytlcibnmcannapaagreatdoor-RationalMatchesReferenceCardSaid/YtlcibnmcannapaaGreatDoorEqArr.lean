/-
  Two equal arrays of fractions, and of codes, are equal to the program.
-/
import Derived.Test.YtlcibnmcannapaaGreatDoorFourQ
import Derived.ChangeKeysEq
namespace Go.Proofs.YtlcibnmcannapaaGreatDoor
open Go Go.Proofs Go.RowKit Go.Lib

theorem ratio_two : Tryz.prog.cellsOf 23 = 2 := by kernel_rfl
theorem errno_one : Tryz.prog.cellsOf 32 = 1 := by kernel_rfl
set_option maxRecDepth 100000 in
theorem eq_codes (c0 c1 c2 c3 : Int) (W : World) : (Op.equalIn 10000 33 (.agg #[.int .i64 c0, .int .i64 c1, .int .i64 c2, .int .i64 c3]) (.agg #[.int .i64 c0, .int .i64 c1, .int .i64 c2, .int .i64 c3])).run Tryz.prog W = .ok true W := by
  obtain ⟨i, hi⟩ := info_of_underlying Tryz.underlying32
  rw [show (10000 : Nat) = 9999 + 1 from rfl, run_equalIn_array W 9999 _ _ Tryz.underlying33 hi, errno_one, show List.range 4 = [0, 1, 2, 3] from rfl]
  simp [Op.eqItems, go_sem, Tryz.underlying32]
set_option maxRecDepth 100000 in
theorem eq_ratios (t0 t1 t2 t3 t4 t5 t6 t7 : ByteArray) (W : World) : (Op.equalIn 10000 31 (.agg #[.string t0, .string t1, .string t2, .string t3, .string t4, .string t5, .string t6, .string t7]) (.agg #[.string t0, .string t1, .string t2, .string t3, .string t4, .string t5, .string t6, .string t7])).run Tryz.prog W = .ok true W := by
  obtain ⟨i, hi⟩ := info_of_underlying Tryz.underlying23
  rw [show (10000 : Nat) = 9999 + 1 from rfl, run_equalIn_array W 9999 _ _ Tryz.underlying31 hi, ratio_two, show List.range 4 = [0, 1, 2, 3] from rfl]
  simp [Op.eqItems, go_sem, Tryz.underlying23]
end Go.Proofs.YtlcibnmcannapaaGreatDoor
