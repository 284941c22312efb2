/-
  The contracts of pick, of the reference and of the laws.
-/
import Derived.Test.YtlcibnmcannapaaGreatDoorRat
namespace Go.Proofs.YtlcibnmcannapaaGreatDoor
open Go Go.Proofs Go.RowKit Go.Lib

/-- What pick returns. -/
def pickI (c n : Int) : Int := (if c < 0 then -(c + 1) else c) % n
theorem pickI_range (c : Int) {n : Int} (h : 0 < n) : 0 ≤ pickI c n ∧ pickI c n < n := ⟨Int.emod_nonneg _ (by omega), Int.emod_lt_of_pos _ h⟩

set_option maxHeartbeats 4000000 in
theorem pickR_any (c n : Int) (hlo : -9223372036854775808 ≤ c) (hhi : c ≤ 9223372036854775807) (h0 : 0 < n) (h1 : n ≤ 2147483647) (w : World) :
    Calls Tryz.prog 46 #[.int .i64 c, .int .i64 n] w fun e w' => e = .returned (.int .i64 (pickI c n)) ∧ w = w' := by
  by_cases hc : c < 0
  · obtain ⟨d, hd⟩ : ∃ d : Int, -(c + 1) = d := ⟨_, rfl⟩
    have e : pickI c n = d % n := by unfold pickI; rw [if_pos hc, hd]
    have q1 : IntKind.i64.wrap (c + 1) = c + 1 := IntWalk.i64_in _ (by omega)
    have q2 : IntKind.i64.wrap (-(c + 1)) = d := by rw [hd]; exact IntWalk.i64_in _ (by omega)
    have hd0 : 0 ≤ d := by omega
    have hp := Int.emod_nonneg d (show n ≠ 0 by omega)
    have hq := Int.emod_lt_of_pos d h0
    have q3 : IntKind.i64.wrap (d % n) = d % n := IntWalk.i64_in _ (by omega)
    have q4 : d.tmod n = d % n := Int.tmod_eq_emod_of_nonneg hd0
    have hn : n ≠ 0 := by omega
    have hnb : (n == 0) = false := by rw [beq_eq_false_iff_ne]; exact hn
    rw [e]
    clear e hd hp hq
    go_enter Tryz.func46, Tryz.ntmps46
    go_wp2
    go_ret
    exact ⟨rfl, rfl⟩
  · have e : pickI c n = c % n := by unfold pickI; rw [if_neg hc]
    have hd0 : 0 ≤ c := by omega
    have hp := Int.emod_nonneg c (show n ≠ 0 by omega)
    have hq := Int.emod_lt_of_pos c h0
    have q3 : IntKind.i64.wrap (c % n) = c % n := IntWalk.i64_in _ (by omega)
    have q4 : c.tmod n = c % n := Int.tmod_eq_emod_of_nonneg hd0
    have hn : n ≠ 0 := by omega
    have hnb : (n == 0) = false := by rw [beq_eq_false_iff_ne]; exact hn
    rw [e]
    clear e hp hq
    go_enter Tryz.func46, Tryz.ntmps46
    go_wp2
    go_ret
    exact ⟨rfl, rfl⟩

set_option maxHeartbeats 4000000 in
theorem pickL_any (c n : Int) (hlo : -9223372036854775808 ≤ c) (hhi : c ≤ 9223372036854775807) (h0 : 0 < n) (h1 : n ≤ 2147483647) (w : World) :
    Calls Tryz.prog 22 #[.int .i64 c, .int .i64 n] w fun e w' => e = .returned (.int .i64 (pickI c n)) ∧ w = w' := by
  by_cases hc : c < 0
  · obtain ⟨d, hd⟩ : ∃ d : Int, -(c + 1) = d := ⟨_, rfl⟩
    have e : pickI c n = d % n := by unfold pickI; rw [if_pos hc, hd]
    have q1 : IntKind.i64.wrap (c + 1) = c + 1 := IntWalk.i64_in _ (by omega)
    have q2 : IntKind.i64.wrap (-(c + 1)) = d := by rw [hd]; exact IntWalk.i64_in _ (by omega)
    have hd0 : 0 ≤ d := by omega
    have hp := Int.emod_nonneg d (show n ≠ 0 by omega)
    have hq := Int.emod_lt_of_pos d h0
    have q3 : IntKind.i64.wrap (d % n) = d % n := IntWalk.i64_in _ (by omega)
    have q4 : d.tmod n = d % n := Int.tmod_eq_emod_of_nonneg hd0
    have hn : n ≠ 0 := by omega
    have hnb : (n == 0) = false := by rw [beq_eq_false_iff_ne]; exact hn
    rw [e]
    clear e hd hp hq
    go_enter Tryz.func22, Tryz.ntmps22
    go_wp2
    go_ret
    exact ⟨rfl, rfl⟩
  · have e : pickI c n = c % n := by unfold pickI; rw [if_neg hc]
    have hd0 : 0 ≤ c := by omega
    have hp := Int.emod_nonneg c (show n ≠ 0 by omega)
    have hq := Int.emod_lt_of_pos c h0
    have q3 : IntKind.i64.wrap (c % n) = c % n := IntWalk.i64_in _ (by omega)
    have q4 : c.tmod n = c % n := Int.tmod_eq_emod_of_nonneg hd0
    have hn : n ≠ 0 := by omega
    have hnb : (n == 0) = false := by rw [beq_eq_false_iff_ne]; exact hn
    rw [e]
    clear e hp hq
    go_enter Tryz.func22, Tryz.ntmps22
    go_wp2
    go_ret
    exact ⟨rfl, rfl⟩

end Go.Proofs.YtlcibnmcannapaaGreatDoor
