/-
  The contracts of the helpers nines and pick of layer 3's statements.
-/
import Derived.Test.YtildgpahacaglaaDoorLawOrder
namespace Go.Proofs.YtildgpahacaglaaDoor
open Go Go.Proofs Go.RowKit Go.Lib

/-- A text of so many nines. -/
def ninesT (n : Nat) : ByteArray := byteL (List.replicate n 57)
theorem ninesT_size (n : Nat) : (ninesT n).size = n := by unfold ninesT; rw [byteL_size, List.length_replicate]
theorem byteL_append (a b : List Nat) : byteL a ++ byteL b = byteL (a ++ b) := by
  unfold byteL
  apply ByteArray.ext
  rw [ByteArray.data_append]
  simp
theorem ninesT_succ (n : Nat) : ninesT n ++ ⟨#[57]⟩ = ninesT (n + 1) := by
  unfold ninesT
  rw [show (⟨#[57]⟩ : ByteArray) = byteL [57] from rfl, byteL_append, List.replicate_succ']
theorem valD_nines (n : Nat) : valD (List.replicate n 9) = 10 ^ n - 1 := by
  induction n with
  | zero => rfl
  | succ n ih =>
    rw [List.replicate_succ, valD, ih, Nat.pow_succ]
    have := Nat.pow_pos (n := n) (show 0 < 10 by decide)
    omega

set_option maxHeartbeats 4000000 in
theorem nines_any (n : Nat) (hn : n ≤ 200) (w : World) :
    Calls Tryd.prog 23 #[.int .i64 n] w fun e w' => e = .returned (.string (ninesT n)) ∧ w = w' := by
  go_enter Tryd.func23, Tryd.ntmps23
  go_wp2_with fail
  go_loopw [3, 4] (fun v i wr => ∃ k : Nat, k ≤ n ∧ v = .string (ninesT k) ∧ i = .int .i64 k ∧ wr = w) (fun _ i _ => n - (RowKit.intOf i).toNat)
  case atStart => exact ⟨0, Nat.zero_le _, rfl, rfl, rfl⟩
  case round =>
    obtain ⟨k, hk, rfl, rfl, rfl⟩ := hrel
    have hsz := ninesT_size k
    have hnx := ninesT_succ k
    by_cases hkn : k < n
    · have h1 : (k : Int) < (n : Int) := by omega
      go_wp2
      go_roundw
      case rel => exact ⟨k + 1, by omega, by first | rfl | (rw [hnx]), by go_num, trivial⟩
      case measure => simp [RowKit.intOf]; omega
    · have h1 : ¬ (k : Int) < (n : Int) := by omega
      obtain rfl : k = n := by omega
      go_wp2
      go_ret
      exact ⟨rfl, rfl⟩

set_option maxHeartbeats 4000000 in
theorem pick_any (c : Int) (hlo : -9223372036854775808 ≤ c) (hhi : c ≤ 9223372036854775807) (w : World) :
    Calls Tryd.prog 24 #[.int .i64 c, .int .i64 200] w fun e w' => ∃ r : Nat, r < 200 ∧ e = .returned (.int .i64 (r : Nat)) ∧ w = w' := by
  by_cases hc : c < 0
  · go_enter Tryd.func24, Tryd.ntmps24
    obtain ⟨d, hd⟩ : ∃ d : Nat, -(c + 1) = (d : Int) := ⟨(-(c + 1)).toNat, by omega⟩
    have h1 : IntKind.i64.wrap (c + 1) = c + 1 := IntWalk.i64_in _ (by omega)
    have h2 : IntKind.i64.wrap (-(c + 1)) = (d : Int) := by rw [hd]; exact IntWalk.i64_in _ (by omega)
    have h3 : IntKind.i64.wrap ((d : Int) % 200) = (d : Int) % 200 := IntWalk.i64_in _ (by omega)
    go_wp2
    go_ret
    exact ⟨d % 200, by omega, by first | rfl | go_num, rfl⟩
  · obtain ⟨d, rfl⟩ := Int.eq_ofNat_of_zero_le (show 0 ≤ c by omega)
    go_enter Tryd.func24, Tryd.ntmps24
    have h3 : IntKind.i64.wrap ((d : Int) % 200) = (d : Int) % 200 := IntWalk.i64_in _ (by omega)
    go_wp2
    go_ret
    exact ⟨d % 200, by omega, by first | rfl | go_num, rfl⟩
end Go.Proofs.YtildgpahacaglaaDoor
