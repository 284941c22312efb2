/-
  slices.Backward at slices of numbers: its two instances, and the law of a loop over it.
-/
import Derived.Test.YtildgpahacaglaaDoorBack
import Derived.Test.YtildgpahacaglaaDoorNat1
import Derived.OwnWalkIn
import Derived.TacticsInMore
import Derived.LoopNIn
import Derived.LoopIn
import Derived.Shelf.AbstractIn
namespace Go.Proofs.YtildgpahacaglaaDoor
open Go Go.Proofs Go.RowKit Go.Lib

attribute [local go_sem] Oper.semAt_some

set_option maxHeartbeats 1000000 in
theorem backN_any (a : Option Addr) (n c : Nat) (w : World) :
    Calls Tryd.prog 60 #[.slice a n c] w fun e w' => e = .returned (.func (.func 78) #[] #[.pointer (some ⟨w.heap.size, 0, none⟩)]) ∧ w.alloc (.cells #[.slice a n c] 49) = w' := by
  go_enter Tryd.func60, Tryd.ntmps60
  go_wp2
  go_ret
  exact ⟨rfl, rfl⟩

set_option maxRecDepth 100000 in
set_option maxHeartbeats 4000000 in
theorem backN1_in (n l B N cap : Nat) (hN : N ≤ 1099511627776) (zs : List Nat) (hz : zs.length = N) (ad : Option Addr) (K : Nat → Prop) (hKB : K B) (hK : 0 < N → ∀ g o, ad = some ⟨g, o, none⟩ → K g) (J : Nat → World → Prop) (Jx : World → Prop)
    (hY : ∀ k A, k < N → J k A → YieldAt Fence.wide (n - 1) Tryd.prog l #[.int .i64 ((N - 1 - k : Nat) : Int), .int .i64 ((zs.getD (N - 1 - k) 0 : Nat) : Int)] A fun e A' =>
      (e = .returned (.bool true) ∧ J (k + 1) A' ∧ ∀ j, K j → A'.heap[j]? = A.heap[j]?) ∨ (e = .returned (.bool false) ∧ Jx A'))
    (W : World) (hB : W.cell? ⟨B, 0, none⟩ = some (.slice ad N cap)) (hc : HoldI W ad cap zs) (h0 : J 0 W) :
    CallsIn Fence.wide n Tryd.prog 78 #[.func (.yield l) #[] #[], .pointer (some ⟨B, 0, none⟩)] W fun e W' => (∃ v, e = .returned v) ∧ (J N W' ∨ Jx W') := by
  have HH := Lib.hid hc; have HZ := Lib.hid hz
  clear hc hz
  refine callsIn_of_wp Tryd.func78 rfl trivial ?_ rfl
  simp only [Tryd.ntmps78, List.size_toArray, List.length_cons, List.length_nil, Nat.reduceAdd, Nat.reduceSub, Array.replicate_succ, Array.replicate_zero, List.push_toArray, List.append_toArray, List.nil_append, List.cons_append]
  gi_wp2
  gi_loopw [3] (fun i wr => ∃ k : Nat, k ≤ N ∧ i = .int .i64 ((N : Int) - 1 - k) ∧ J k wr ∧ ∀ j, K j → wr.heap[j]? = W.heap[j]?)
    (fun i _ => (RowKit.intOf i + 1).toNat)
  case atStart => exact ⟨0, Nat.zero_le _, by simp, h0, fun _ _ => rfl⟩
  case round =>
    obtain ⟨k, hk, rfl, hJs, hkeep⟩ := hrel
    have hbx : wr.cell? ⟨B, 0, none⟩ = some (.slice ad N cap) := (World.cell?_of_block (hkeep B hKB)).trans hB
    by_cases hlt : k < N
    · obtain ⟨fn, tmps, assign, body, hy, hR⟩ := hY k wr hlt hJs
      obtain ⟨m, hm⟩ : ∃ m, N - 1 - k = m := ⟨_, rfl⟩
      rw [hm] at hy
      have hmi : (N : Int) - 1 - k = (m : Int) := by omega
      rw [hmi]
      have hm0 : (0 : Int) ≤ (m : Int) := by omega
      have hml : m < zs.length := by rw [HZ.out]; omega
      obtain ⟨g, o, rfl, _, hs⟩ := HH.out.at (by omega)
      have cc := (hs.heq (hkeep g (hK (by omega) g o rfl))) m hml
      obtain ⟨x, hx⟩ : ∃ x, zs.getD m 0 = x := ⟨_, rfl⟩
      rw [hx] at hy cc
      have j1 := fun w => atN g o N cap m (m : Int) rfl (by omega) w
      clear hs hx hml
      gi_wp2
      refine ⟨(fun h => by cases h), hR.mono ?_⟩
      rintro e W3 (⟨rfl, hJ3, hk3⟩ | ⟨rfl, hJx3⟩)
      · gi_wp2
        go_roundw
        case rel => exact ⟨k + 1, by omega, by go_num, hJ3, fun j hj => (hk3 j hj).trans (hkeep j hj)⟩
        case measure => simp [RowKit.intOf]
      · gi_wp2
        refine bodyPost_ret (results_none rfl _ _ _) rfl ?_
        exact ⟨⟨_, rfl⟩, .inr hJx3⟩
    · obtain rfl : k = N := by omega
      have hneg : ¬ (0 : Int) ≤ (k : Int) - 1 - k := by omega
      gi_wp2
      go_end0
      exact ⟨⟨_, rfl⟩, .inl hJs⟩
set_option maxHeartbeats 1000000 in
theorem backL_any (a : Option Addr) (n c : Nat) (w : World) :
    Calls Tryd.prog 86 #[.slice a n c] w fun e w' => e = .returned (.func (.func 99) #[] #[.pointer (some ⟨w.heap.size, 0, none⟩)]) ∧ w.alloc (.cells #[.slice a n c] 48) = w' := by
  go_enter Tryd.func86, Tryd.ntmps86
  go_wp2
  go_ret
  exact ⟨rfl, rfl⟩

set_option maxRecDepth 100000 in
set_option maxHeartbeats 4000000 in
theorem backL1_in (n l B N cap : Nat) (hN : N ≤ 1099511627776) (zs : List Nat) (hz : zs.length = N) (ad : Option Addr) (K : Nat → Prop) (hKB : K B) (hK : 0 < N → ∀ g o, ad = some ⟨g, o, none⟩ → K g) (J : Nat → World → Prop) (Jx : World → Prop)
    (hY : ∀ k A, k < N → J k A → YieldAt Fence.wide (n - 1) Tryd.prog l #[.int .i64 ((N - 1 - k : Nat) : Int), .int .i64 ((zs.getD (N - 1 - k) 0 : Nat) : Int)] A fun e A' =>
      (e = .returned (.bool true) ∧ J (k + 1) A' ∧ ∀ j, K j → A'.heap[j]? = A.heap[j]?) ∨ (e = .returned (.bool false) ∧ Jx A'))
    (W : World) (hB : W.cell? ⟨B, 0, none⟩ = some (.slice ad N cap)) (hc : HoldI W ad cap zs) (h0 : J 0 W) :
    CallsIn Fence.wide n Tryd.prog 99 #[.func (.yield l) #[] #[], .pointer (some ⟨B, 0, none⟩)] W fun e W' => (∃ v, e = .returned v) ∧ (J N W' ∨ Jx W') := by
  have HH := Lib.hid hc; have HZ := Lib.hid hz
  clear hc hz
  refine callsIn_of_wp Tryd.func99 rfl trivial ?_ rfl
  simp only [Tryd.ntmps99, List.size_toArray, List.length_cons, List.length_nil, Nat.reduceAdd, Nat.reduceSub, Array.replicate_succ, Array.replicate_zero, List.push_toArray, List.append_toArray, List.nil_append, List.cons_append]
  gi_wp2
  gi_loopw [3] (fun i wr => ∃ k : Nat, k ≤ N ∧ i = .int .i64 ((N : Int) - 1 - k) ∧ J k wr ∧ ∀ j, K j → wr.heap[j]? = W.heap[j]?)
    (fun i _ => (RowKit.intOf i + 1).toNat)
  case atStart => exact ⟨0, Nat.zero_le _, by simp, h0, fun _ _ => rfl⟩
  case round =>
    obtain ⟨k, hk, rfl, hJs, hkeep⟩ := hrel
    have hbx : wr.cell? ⟨B, 0, none⟩ = some (.slice ad N cap) := (World.cell?_of_block (hkeep B hKB)).trans hB
    by_cases hlt : k < N
    · obtain ⟨fn, tmps, assign, body, hy, hR⟩ := hY k wr hlt hJs
      obtain ⟨m, hm⟩ : ∃ m, N - 1 - k = m := ⟨_, rfl⟩
      rw [hm] at hy
      have hmi : (N : Int) - 1 - k = (m : Int) := by omega
      rw [hmi]
      have hm0 : (0 : Int) ≤ (m : Int) := by omega
      have hml : m < zs.length := by rw [HZ.out]; omega
      obtain ⟨g, o, rfl, _, hs⟩ := HH.out.at (by omega)
      have cc := (hs.heq (hkeep g (hK (by omega) g o rfl))) m hml
      obtain ⟨x, hx⟩ : ∃ x, zs.getD m 0 = x := ⟨_, rfl⟩
      rw [hx] at hy cc
      have j1 := fun w => atI g o N cap m (m : Int) rfl (by omega) w
      clear hs hx hml
      gi_wp2
      refine ⟨(fun h => by cases h), hR.mono ?_⟩
      rintro e W3 (⟨rfl, hJ3, hk3⟩ | ⟨rfl, hJx3⟩)
      · gi_wp2
        go_roundw
        case rel => exact ⟨k + 1, by omega, by go_num, hJ3, fun j hj => (hk3 j hj).trans (hkeep j hj)⟩
        case measure => simp [RowKit.intOf]
      · gi_wp2
        refine bodyPost_ret (results_none rfl _ _ _) rfl ?_
        exact ⟨⟨_, rfl⟩, .inr hJx3⟩
    · obtain rfl : k = N := by omega
      have hneg : ¬ (0 : Int) ≤ (k : Int) - 1 - k := by omega
      gi_wp2
      go_end0
      exact ⟨⟨_, rfl⟩, .inl hJs⟩
end Go.Proofs.YtildgpahacaglaaDoor
