/-
  The contracts of the laws' pick, short and name, and of the reference's named and Reduce.
-/
import Derived.Test.YtdolmahodhgfpaaDoorSeedP
import Derived.Test.YtdolmahodhgfpaaDoorW1Base
namespace Go.Proofs.YtdolmahodhgfpaaDoor
open Go Go.Proofs Go.RowKit Go.Lib

set_option maxHeartbeats 1000000 in
theorem pick6_any (c n : Int) (h0 : -9223372036854775808 ≤ c) (h1 : c ≤ 9223372036854775807) (hn : 1 ≤ n) (hn2 : n ≤ 9223372036854775807) (w : World) :
    Calls Tryd.prog 19 #[.int .i64 c, .int .i64 n] w fun e w' => e = .returned (.int .i64 (W1.pickI c n)) ∧ w = w' := by
  have hz : (n == 0) = false := by rw [beq_eq_false_iff_ne]; omega
  by_cases hc : c < 0
  · have hp : W1.pickI c n = (-(c + 1)) % n := by unfold W1.pickI; rw [if_pos hc]
    have HP := Lib.hid hp
    clear hp
    go_enter Tryd.func19, Tryd.ntmps19
    go_wp2
    go_ret
    exact ⟨W1.ret_b (a := -((c + 1).tmod n)) (by rw [HP.out, ← Int.neg_tmod]; exact Int.tmod_eq_emod_of_nonneg (by omega)), rfl⟩
  · have hp : W1.pickI c n = c % n := by unfold W1.pickI; rw [if_neg hc]
    have HP := Lib.hid hp
    have hc' : 0 ≤ c := by omega
    clear hp hc
    go_enter Tryd.func19, Tryd.ntmps19
    go_wp2
    go_ret
    exact ⟨W1.ret_b HP.out.symm, rfl⟩


def shortS (s : ByteArray) : ByteArray := s.extract 0 (min (s.size : Int) 50).toNat
theorem shortS_size (s : ByteArray) : (shortS s).size ≤ 50 := by unfold shortS; rw [ByteArray.size_extract]; omega
def nameS (s : ByteArray) : ByteArray := if s.size = 0 then ⟨#[120]⟩ else s.extract 0 (min (s.size : Int) 40).toNat
theorem nameS_size (s : ByteArray) : 1 ≤ (nameS s).size ∧ (nameS s).size ≤ 40 := by
  unfold nameS
  split
  · exact ⟨Nat.le_refl 1, by decide⟩
  · rw [ByteArray.size_extract]; omega
set_option maxHeartbeats 2000000 in
theorem short6_any (s : ByteArray) (hs : s.size ≤ maxLen) (w : World) : Calls Tryd.prog 11 #[.string s] w fun e w' => e = .returned (.string (shortS s)) ∧ w = w' := by
  unfold maxLen at hs
  have q1 : 0 ≤ min (s.size : Int) 50 := by omega
  have q2 : min (s.size : Int) 50 ≤ s.size := by omega
  go_enter Tryd.func11, Tryd.ntmps11
  go_wp2
  go_ret
  exact ⟨rfl, rfl⟩
set_option maxHeartbeats 2000000 in
theorem name6_any (s : ByteArray) (hs : s.size ≤ maxLen) (w : World) : Calls Tryd.prog 12 #[.string s] w fun e w' => e = .returned (.string (nameS s)) ∧ w = w' := by
  unfold maxLen at hs
  have q1 : 0 ≤ min (s.size : Int) 40 := by omega
  have q2 : min (s.size : Int) 40 ≤ s.size := by omega
  by_cases h : s.size = 0
  · have e : nameS s = ⟨#[120]⟩ := by unfold nameS; rw [if_pos h]
    have E := Lib.hid e
    have h' : ((s.size : Int) == 0) = true := by rw [h]; rfl
    clear e
    go_enter Tryd.func12, Tryd.ntmps12
    go_wp2
    go_ret
    exact ⟨congrArg (fun x => Ending.returned (.string x)) E.out.symm, rfl⟩
  · have e : nameS s = s.extract 0 (min (s.size : Int) 40).toNat := by unfold nameS; rw [if_neg h]
    have E := Lib.hid e
    have h' : ((s.size : Int) == 0) = false := beq_eq_false_iff_ne.2 (by omega)
    clear e
    go_enter Tryd.func12, Tryd.ntmps12
    go_wp2
    go_ret
    exact ⟨congrArg (fun x => Ending.returned (.string x)) E.out.symm, rfl⟩
set_option maxHeartbeats 4000000 in
theorem namedR_any (s : ByteArray) (hs : s.size ≤ maxLen) (i : Int) (w : World) : Calls Tryd.prog 32 #[.string s, .int .i64 i] w fun e w' => e = .returned (.bool (namedB s i)) ∧ w = w' := by
  unfold maxLen at hs
  have e : namedB s i = decide (1 ≤ s.size ∧ s.size ≤ 40 ∧ 0 ≤ i ∧ i ≤ 4611686018427387903) := rfl
  by_cases h1 : 1 ≤ s.size
  · by_cases h2 : s.size ≤ 40
    · by_cases h3 : 0 ≤ i
      · by_cases h4 : i ≤ 4611686018427387903
        · rw [e, decide_eq_true (show _ from ⟨h1, h2, h3, h4⟩)]
          have k1 : (1 : Int) ≤ (s.size : Int) := by omega
          have k2 : (s.size : Int) ≤ 40 := by omega
          clear e
          go_enter Tryd.func32, Tryd.ntmps32
          go_wp2
          go_ret
          exact ⟨rfl, rfl⟩
        · rw [e, decide_eq_false (fun h => h4 h.2.2.2)]
          have k1 : (1 : Int) ≤ (s.size : Int) := by omega
          have k2 : (s.size : Int) ≤ 40 := by omega
          clear e
          go_enter Tryd.func32, Tryd.ntmps32
          go_wp2
          go_ret
          exact ⟨rfl, rfl⟩
      · rw [e, decide_eq_false (fun h => h3 h.2.2.1)]
        have k1 : (1 : Int) ≤ (s.size : Int) := by omega
        have k2 : (s.size : Int) ≤ 40 := by omega
        clear e
        go_enter Tryd.func32, Tryd.ntmps32
        go_wp2
        go_ret
        exact ⟨rfl, rfl⟩
    · rw [e, decide_eq_false (fun h => h2 h.2.1)]
      have k1 : (1 : Int) ≤ (s.size : Int) := by omega
      have k2 : ¬ (s.size : Int) ≤ 40 := by omega
      clear e
      go_enter Tryd.func32, Tryd.ntmps32
      go_wp2
      go_ret
      exact ⟨rfl, rfl⟩
  · rw [e, decide_eq_false (fun h => h1 h.1)]
    have k1 : ¬ (1 : Int) ≤ (s.size : Int) := by omega
    clear e
    go_enter Tryd.func32, Tryd.ntmps32
    go_wp2
    go_ret
    exact ⟨rfl, rfl⟩
set_option maxHeartbeats 4000000 in
theorem reduceR_any (raw b : Int) (w : World) : Calls Tryd.prog 16 #[.int .i64 raw, .int .i64 b] w fun e w' => e = .returned (.tuple #[.int .i64 (redV raw b), .bool (redB raw b)]) ∧ w = w' := by
  have e : redB raw b = decide (1 ≤ b ∧ b ≤ 4611686018427387903 ∧ 0 ≤ raw ∧ raw < limS b) := rfl
  by_cases h1 : b < 1
  · have hb : redB raw b = false := e.trans (decide_eq_false (fun h => by omega))
    rw [red_no hb, hb]
    clear hb e
    go_enter Tryd.func16, Tryd.ntmps16
    go_wp2
    go_ret2
    exact ⟨rfl, rfl⟩
  · by_cases h2 : 4611686018427387903 < b
    · have hb : redB raw b = false := e.trans (decide_eq_false (fun h => by omega))
      rw [red_no hb, hb]
      clear hb e
      go_enter Tryd.func16, Tryd.ntmps16
      go_wp2
      go_ret2
      exact ⟨rfl, rfl⟩
    · by_cases h3 : raw < 0
      · have hb : redB raw b = false := e.trans (decide_eq_false (fun h => by omega))
        rw [red_no hb, hb]
        clear hb e
        go_enter Tryd.func16, Tryd.ntmps16
        go_wp2
        go_ret2
        exact ⟨rfl, rfl⟩
      · have lf := lim_facts (b := b) (by omega) (by omega)
        have hz : (b == 0) = false := beq_eq_false_iff_ne.2 (by omega)
        have hz2 : ¬ b = 0 := by omega
        obtain ⟨q, hq⟩ : ∃ q, 4611686018427387904 / b = q := ⟨_, rfl⟩
        have hq0 : 0 ≤ q := by rw [← hq]; exact Int.ediv_nonneg (by decide) (by omega)
        have hq1 : q ≤ 4611686018427387904 := by rw [← hq]; exact Int.ediv_le_self _ (by decide)
        have ht : (4611686018427387904 : Int).tdiv b = q := by rw [Int.tdiv_eq_ediv_of_nonneg (by decide)]; exact hq
        obtain ⟨l, hl⟩ : ∃ l, limS b = l := ⟨_, rfl⟩
        have hm : q * b = l := by rw [← hl, ← hq]; rfl
        rw [hl] at lf e
        have w1 : IntKind.i64.wrap (q * b) = l := by rw [hm]; exact IntWalk.i64_in _ (by omega)
        have w2 : IntKind.i64.wrap q = q := IntWalk.i64_in _ (by omega)
        have hl1 : l ≤ 4611686018427387904 := lf.2.2.2
        have hl0 : 0 < l := by omega
        clear hl lf
        by_cases h4 : raw < l
        · have hb : redB raw b = true := e.trans (decide_eq_true ⟨by omega, by omega, by omega, h4⟩)
          have hr := (red_facts hb).1
          rw [hb, hr]
          clear hb hr e
          have hmod : raw.tmod b = raw % b := Int.tmod_eq_emod_of_nonneg (by omega)
          have HM := Lib.hid hmod
          clear hmod
          go_enter Tryd.func16, Tryd.ntmps16
          go_wp2
          go_ret2
          exact ⟨by first | rfl | (rw [← HM.out]), rfl⟩
        · have hb : redB raw b = false := e.trans (decide_eq_false (fun h => h4 h.2.2.2))
          rw [red_no hb, hb]
          clear hb e
          go_enter Tryd.func16, Tryd.ntmps16
          go_wp2
          go_ret2
          exact ⟨rfl, rfl⟩
end Go.Proofs.YtdolmahodhgfpaaDoor
