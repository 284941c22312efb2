/-
  The contracts of package seed's isName, leading, isNoWeight, Raw and Reduce.
-/
import Derived.Test.YtdolmahodhgfpaaDoorSeedB
import Derived.Test.YtdolmahodhgfpaaDoorHash
namespace Go.Proofs.YtdolmahodhgfpaaDoor
open Go Go.Proofs Go.RowKit Go.Lib

def nmB (s : ByteArray) : Bool := decide (1 ≤ s.size ∧ s.size ≤ 40)
theorem named_nm (s : ByteArray) (i : Int) : namedB s i = (nmB s && decide (0 ≤ i ∧ i ≤ 4611686018427387903)) := by
  unfold namedB nmB
  rw [Bool.eq_iff_iff, Bool.and_eq_true, decide_eq_true_iff, decide_eq_true_iff, decide_eq_true_iff]
  omega
set_option maxHeartbeats 4000000 in
theorem isName_u (s : ByteArray) (hs : s.size ≤ maxLen) (w : World) : Calls Tryd.prog 30 #[.string s] w fun e w' => e = .returned (.bool (nmB s)) ∧ w = w' := by
  unfold maxLen at hs
  have e : nmB s = decide (1 ≤ s.size ∧ s.size ≤ 40) := rfl
  by_cases h1 : 1 ≤ s.size
  · by_cases h2 : s.size ≤ 40
    · rw [e, decide_eq_true (show _ from ⟨h1, h2⟩)]
      have k1 : (0 : Int) < (s.size : Int) := by omega
      have k2 : (s.size : Int) ≤ 40 := by omega
      clear e
      go_enter Tryd.func30, Tryd.ntmps30
      go_wp2
      go_ret
      exact ⟨rfl, rfl⟩
    · rw [e, decide_eq_false (fun h => h2 h.2)]
      have k1 : (0 : Int) < (s.size : Int) := by omega
      have k2 : ¬ (s.size : Int) ≤ 40 := by omega
      clear e
      go_enter Tryd.func30, Tryd.ntmps30
      go_wp2
      go_ret
      exact ⟨rfl, rfl⟩
  · rw [e, decide_eq_false (fun h => h1 h.1)]
    have k1 : ¬ (0 : Int) < (s.size : Int) := by omega
    clear e
    go_enter Tryd.func30, Tryd.ntmps30
    go_wp2
    go_ret
    exact ⟨rfl, rfl⟩
def badB (n : Int) : Bool := !decide (0 ≤ n ∧ n ≤ 1125899906842624)
set_option maxHeartbeats 4000000 in
theorem isNoWeight_u (n : Int) (w : World) : Calls Tryd.prog 42 #[.int .i64 n] w fun e w' => e = .returned (.bool (badB n)) ∧ w = w' := by
  have e : badB n = !decide (0 ≤ n ∧ n ≤ 1125899906842624) := rfl
  by_cases h1 : n < 0
  · rw [e, decide_eq_false (fun h => by omega)]
    clear e
    go_enter Tryd.func42, Tryd.ntmps42
    go_wp2
    go_ret
    exact ⟨rfl, rfl⟩
  · by_cases h2 : 1125899906842624 < n
    · rw [e, decide_eq_false (fun h => by omega)]
      clear e
      go_enter Tryd.func42, Tryd.ntmps42
      go_wp2
      go_ret
      exact ⟨rfl, rfl⟩
    · rw [e, decide_eq_true (show _ from ⟨by omega, by omega⟩)]
      clear e
      go_enter Tryd.func42, Tryd.ntmps42
      go_wp2
      go_ret
      exact ⟨rfl, rfl⟩
theorem or64 {a b : Nat} (ha : a < 72057594037927936) (hb : b < 256) : bits .or .u64 ((a : Int) * 256) (b : Int) = ((256 * a + b : Nat) : Int) := by
  have e : (a : Int) * 256 = ((a * 256 : Nat) : Int) := by omega
  have e2 : a * 256 ||| b = 256 * a + b := by
    rw [show a * 256 = 256 * a from Nat.mul_comm _ _]
    exact (Nat.two_pow_add_eq_or_of_lt (i := 8) hb a).symm
  rw [e]
  show IntKind.u64.wrap ((BitVec.ofInt 64 ((a * 256 : Nat) : Int) ||| BitVec.ofInt 64 (b : Int)).toNat : Int) = _
  rw [BitVec.ofInt_natCast, BitVec.ofInt_natCast, BitVec.toNat_or, BitVec.toNat_ofNat, BitVec.toNat_ofNat, Nat.mod_eq_of_lt (by omega), Nat.mod_eq_of_lt (by omega), e2, IntKind.wrap_u64]
  omega
theorem headN_8 (D : ByteArray) (h : 8 ≤ D.size) : headN D 8 / 4 = rawN (natsOf D) := by
  rw [headN_step D 7 (by omega), rawN_head D (by omega)]
  omega
set_option maxRecDepth 100000 in
set_option maxHeartbeats 4000000 in
theorem leading_u (D : ByteArray) (h8 : 8 ≤ D.size) (hs : D.size ≤ maxLen) (w : World) : Calls Tryd.prog 31 #[.string D] w fun e w' => e = .returned (.int .i64 ((rawN (natsOf D) : Nat) : Int)) ∧ w = w' := by
  unfold maxLen at hs
  have HR := Lib.hid (headN_8 D h8)
  have HHL := Lib.hid (fun k => headN_lt D k)
  have HST := Lib.hid (fun k h => headN_step D k h)
  go_enter Tryd.func31, Tryd.ntmps31
  go_wp2_with fail
  go_loop [3, 5] (fun n i => ∃ k : Nat, k ≤ 8 ∧ i = .int .i64 k ∧ n = .int .u64 ((headN D k : Nat) : Int)) (fun _ i => 8 - (RowKit.intOf i).toNat)
  case atStart => exact ⟨0, by omega, rfl, rfl⟩
  case round =>
    obtain ⟨k, hk, rfl, rfl⟩ := hrel
    by_cases h7 : k < 8
    · have hk7 : (k : Int) < 8 := by omega
      have hkd : (k : Int) < (D.size : Int) := by omega
      have hkn : k < D.size := by omega
      have hb8 : D[k].toNat < 256 := D[k].toNat_lt
      have hst := HST.out k hkn
      have hlt : headN D k < 72057594037927936 := Nat.lt_of_lt_of_le (HHL.out k) (by
        have := Nat.pow_le_pow_right (n := 256) (by decide) (show k ≤ 7 by omega)
        exact Nat.le_trans this (by decide))
      have hor := or64 hlt hb8
      have HS2 := Lib.hid hst
      clear hst
      generalize headN D k = n at *
      go_wp2_with fail
      go_round
      case rel => exact ⟨k + 1, by omega, by go_num, by rw [HS2.out]; exact congrArg (Value.int .u64) (by omega)⟩
      case measure => simp [RowKit.intOf]; omega
    · obtain rfl : k = 8 := by omega
      have hlt : headN D 8 < 18446744073709551616 := Nat.lt_of_lt_of_le (HHL.out 8) (by decide)
      have hr := HR.out
      have hr2 := rawN_lt (d := natsOf D) (natsOf_lt D)
      obtain ⟨n, hn⟩ : ∃ n, headN D 8 = n := ⟨_, rfl⟩
      rw [hn] at hr hlt ⊢
      have HN := Lib.hid hr
      clear hr hn
      go_wp2
      go_ret
      exact ⟨W1.ret_int (by have := HN.out; omega), rfl⟩
set_option maxRecDepth 100000 in
set_option maxHeartbeats 4000000 in
theorem reduce_p (raw b : Int) (w : World) : Calls Tryd.prog 15 #[.int .i64 raw, .int .i64 b] w fun e w' => e = .returned (.tuple #[.int .i64 (redV raw b), .bool (redB raw b)]) ∧ w = w' := by
  have e : redB raw b = decide (1 ≤ b ∧ b ≤ 4611686018427387903 ∧ 0 ≤ raw ∧ raw < limS b) := rfl
  by_cases h1 : b < 1
  · have hb : redB raw b = false := e.trans (decide_eq_false (fun h => by omega))
    rw [red_no hb, hb]
    clear hb e
    go_enter Tryd.func15, Tryd.ntmps15
    go_wp2
    go_ret2
    exact ⟨rfl, rfl⟩
  · by_cases h2 : 4611686018427387903 < b
    · have hb : redB raw b = false := e.trans (decide_eq_false (fun h => by omega))
      rw [red_no hb, hb]
      clear hb e
      go_enter Tryd.func15, Tryd.ntmps15
      go_wp2
      go_ret2
      exact ⟨rfl, rfl⟩
    · have lf := lim_facts (b := b) (by omega) (by omega)
      have hz : (b == 0) = false := beq_eq_false_iff_ne.2 (by omega)
      have hz2 : ¬ b = 0 := by omega
      have he := Int.emod_add_mul_ediv 4611686018427387904 b
      have ht : (4611686018427387904 : Int).tmod b = 4611686018427387904 % b := Int.tmod_eq_emod_of_nonneg (by decide)
      have hr0 := Int.emod_nonneg 4611686018427387904 (show b ≠ 0 by omega)
      have hr1 := Int.emod_lt_of_pos 4611686018427387904 (show 0 < b by omega)
      have hl : 4611686018427387904 - 4611686018427387904 % b = limS b := by unfold limS; rw [Int.mul_comm]; omega
      obtain ⟨r, hr⟩ : ∃ r, (4611686018427387904 : Int) % b = r := ⟨_, rfl⟩
      rw [hr] at ht hr0 hr1 hl
      obtain ⟨l, hl2⟩ : ∃ l, limS b = l := ⟨_, rfl⟩
      rw [hl2] at lf e hl
      have hlr : l = 4611686018427387904 - r := hl.symm
      subst hlr
      have hl1 := lf.2.2.2
      clear he hl2 lf hl
      by_cases h3 : raw < 0
      · have hb : redB raw b = false := e.trans (decide_eq_false (fun h => by omega))
        rw [red_no hb, hb]
        clear hb e
        go_enter Tryd.func15, Tryd.ntmps15
        go_wp2
        go_ret2
        exact ⟨rfl, rfl⟩
      · by_cases h4 : raw < 4611686018427387904 - r
        · have hb : redB raw b = true := e.trans (decide_eq_true ⟨by omega, by omega, by omega, h4⟩)
          have hv := (red_facts hb).1
          rw [hb, hv]
          clear hb hv e
          have hmod : raw.tmod b = raw % b := Int.tmod_eq_emod_of_nonneg (by omega)
          have HM := Lib.hid hmod
          clear hmod
          go_enter Tryd.func15, Tryd.ntmps15
          go_wp2
          go_ret2
          exact ⟨by first | rfl | (rw [← HM.out]), rfl⟩
        · have hb : redB raw b = false := e.trans (decide_eq_false (fun h => h4 h.2.2.2))
          rw [red_no hb, hb]
          clear hb e
          go_enter Tryd.func15, Tryd.ntmps15
          go_wp2
          go_ret2
          exact ⟨rfl, rfl⟩
-- RAW
theorem raw_bad {s : ByteArray} {i j : Int} (h : rawB s i j = false) : rawV s i j = 0 ∧ rawE s i j = 60 := by unfold rawV rawE; rw [h]; exact ⟨rfl, rfl⟩
set_option maxRecDepth 100000 in
set_option maxHeartbeats 16000000 in
theorem raw_u (s : ByteArray) (hs : s.size ≤ maxLen) (i j : Int) (w : World) (hR : Ready w) : Calls Tryd.prog 13 #[.string s, .int .i64 i, .int .i64 j] w fun e w' => e = .returned (.tuple #[.int .i64 (rawV s i j), .int .i64 (rawE s i j)]) ∧ Below w.heap.size w w' := by
  have cn := fun W => isName_u s hs W
  have hnm := named_nm s i
  cases hn : nmB s with
  | false =>
    have hb : rawB s i j = false := by unfold rawB; rw [hnm, hn]; rfl
    obtain ⟨v1, v2⟩ := raw_bad hb
    rw [hn] at cn
    have CN := Lib.hid cn
    rw [v1, v2]
    clear hb hn cn v1 v2 hnm hR
    go_enter Tryd.func13, Tryd.ntmps13
    go_wp2_with fail
    refine (CN.out _).mono ?_
    rintro e z ⟨rfl, rfl⟩
    go_wp2
    go_ret2
    exact ⟨rfl, Below.refl _ _⟩
  | true =>
    rw [hn, Bool.true_and] at hnm
    rw [hn] at cn
    have CN := Lib.hid cn
    have hsz : 1 ≤ s.size ∧ s.size ≤ 40 := of_decide_eq_true hn
    clear cn hn
    by_cases h1 : i < 0
    · have hb : rawB s i j = false := by unfold rawB; rw [hnm]; rw [decide_eq_false (fun h => by omega)]; rfl
      obtain ⟨v1, v2⟩ := raw_bad hb
      rw [v1, v2]
      clear hb v1 v2 hnm hR hsz
      go_enter Tryd.func13, Tryd.ntmps13
      go_wp2_with fail
      refine (CN.out _).mono ?_
      rintro e z ⟨rfl, rfl⟩
      go_wp2
      go_ret2
      exact ⟨rfl, Below.refl _ _⟩
    · skip
      by_cases h2 : 4611686018427387903 < i
      · have hb : rawB s i j = false := by unfold rawB; rw [hnm]; rw [decide_eq_false (fun h => by omega)]; rfl
        obtain ⟨v1, v2⟩ := raw_bad hb
        rw [v1, v2]
        clear hb v1 v2 hnm hR hsz
        go_enter Tryd.func13, Tryd.ntmps13
        go_wp2_with fail
        refine (CN.out _).mono ?_
        rintro e z ⟨rfl, rfl⟩
        go_wp2
        go_ret2
        exact ⟨rfl, Below.refl _ _⟩
      · skip
        by_cases h3 : j < 0
        · have hb : rawB s i j = false := by unfold rawB; rw [hnm]; rw [decide_eq_false (p := 0 ≤ j ∧ j < 64) (fun h => by omega), Bool.and_false]
          obtain ⟨v1, v2⟩ := raw_bad hb
          rw [v1, v2]
          clear hb v1 v2 hnm hR hsz
          go_enter Tryd.func13, Tryd.ntmps13
          go_wp2_with fail
          refine (CN.out _).mono ?_
          rintro e z ⟨rfl, rfl⟩
          go_wp2
          go_ret2
          exact ⟨rfl, Below.refl _ _⟩
        · skip
          by_cases h4 : 64 ≤ j
          · have hb : rawB s i j = false := by unfold rawB; rw [hnm]; rw [decide_eq_false (p := 0 ≤ j ∧ j < 64) (fun h => by omega), Bool.and_false]
            obtain ⟨v1, v2⟩ := raw_bad hb
            rw [v1, v2]
            clear hb v1 v2 hnm hR hsz
            go_enter Tryd.func13, Tryd.ntmps13
            go_wp2_with fail
            refine (CN.out _).mono ?_
            rintro e z ⟨rfl, rfl⟩
            go_wp2
            go_ret2
            exact ⟨rfl, Below.refl _ _⟩
          · skip
            have hb : rawB s i j = true := by unfold rawB; rw [hnm, decide_eq_true (show 0 ≤ i ∧ i ≤ 4611686018427387903 from ⟨by omega, by omega⟩), decide_eq_true (show 0 ≤ j ∧ j < 64 from ⟨by omega, by omega⟩)]; rfl
            have HV := Lib.hid (show rawV s i j = ((rawS s i j : Nat) : Int) ∧ rawE s i j = 0 by unfold rawV rawE; rw [hb]; exact ⟨rfl, rfl⟩)
            obtain ⟨v1, v2⟩ := HV.out
            rw [v1, v2]
            have ca := fun W => W1.putString_yes s (by omega) W
            have cb := fun W => W1.putInt_yes i (by omega) (by omega) W
            have cc := fun W => W1.putInt_yes j (by omega) (by omega) W
            have z1 := W1.putS_le s (by omega)
            have z2 := W1.encS_size_le i (by omega) (by omega)
            have z3 := W1.encS_size_le j (by omega) (by omega)
            have ht : rawT s i j = W1.putS s ++ W1.encS i ++ W1.encS j := rfl
            generalize W1.putS s = PA at *
            generalize W1.encS i = PB at *
            generalize W1.encS j = PC at *
            have zt : (rawT s i j).size ≤ 1099511627776 := by rw [ht, ByteArray.size_append, ByteArray.size_append]; omega
            have cs := fun W => sum_any (rawT s i j) zt W
            have hd := sha_size (rawT s i j)
            have hr : rawS s i j = rawN (natsOf (sha (rawT s i j))) := rfl
            rw [hr]
            rw [ht] at cs hd ⊢
            generalize sha (PA ++ PB ++ PC) = D at *
            have cl := fun W => leading_u D (by omega) (by unfold maxLen; omega) W
            have k1 : PA.size + PB.size ≤ 9223372036854775807 := by omega
            have k2 : PA.size + PB.size + PC.size ≤ 9223372036854775807 := by omega
            have CA := Lib.hid ca; have CB := Lib.hid cb; have CC := Lib.hid cc; have CS := Lib.hid cs; have CL := Lib.hid cl; have HR := Lib.hid hR
            clear ca cb cc cs cl z1 z2 z3 zt hr hb ht v1 v2 HV hnm hsz hd hR
            go_enter Tryd.func13, Tryd.ntmps13
            go_wp2_with fail
            refine (CN.out _).mono ?_
            rintro e z ⟨rfl, rfl⟩
            go_wp2_with fail
            refine (CA.out _).mono ?_
            rintro e z1 ⟨rfl, b1⟩
            go_wp2_with fail
            refine (CB.out _).mono ?_
            rintro e z2 ⟨rfl, b2⟩
            go_wp2_with fail
            refine (CC.out _).mono ?_
            rintro e z3 ⟨rfl, b3⟩
            have B3 := Lib.hid (below_up6 b1 (below_up6 b2 b3))
            clear b1 b2 b3
            go_wp2_with fail
            refine (CS.out _ (HR.out.below B3.out)).mono ?_
            rintro e z4 ⟨rfl, b4⟩
            have B4 := Lib.hid (below_up6 B3.out b4)
            clear b4 k1 k2
            go_wp2_with fail
            refine (CL.out _).mono ?_
            rintro e z5 ⟨rfl, rfl⟩
            go_wp2
            go_ret2
            exact ⟨rfl, B4.out⟩
end Go.Proofs.YtdolmahodhgfpaaDoor
