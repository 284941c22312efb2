/-
  The contract of the reference's Raw.
-/
import Derived.Test.YtdolmahodhgfpaaDoorSeedA
import Derived.Test.YtdolmahodhgfpaaDoorW1Ref2
import Derived.Test.YtdolmahodhgfpaaDoorW1Wire
import Derived.Test.YtdolmahodhgfpaaDoorRefSum
namespace Go.Proofs.YtdolmahodhgfpaaDoor
open Go Go.Proofs Go.RowKit Go.Lib

theorem below_up6 {w W W2 : World} (b : Below w.heap.size w W) (b2 : Below W.heap.size W W2) : Below w.heap.size w W2 := b.trans (b2.mono b.size)
def rawV (s : ByteArray) (i j : Int) : Int := if rawB s i j then ((rawS s i j : Nat) : Int) else 0
def rawE (s : ByteArray) (i j : Int) : Int := if rawB s i j then 0 else 60
/-- The number that the first bytes of a text make. -/
def headN (D : ByteArray) (k : Nat) : Nat := ((natsOf D).take k).foldl (fun a x => 256 * a + x) 0
theorem headN_step (D : ByteArray) (k : Nat) (h : k < D.size) : headN D (k + 1) = 256 * headN D k + D[k].toNat := by
  have hl : k < (natsOf D).length := by unfold natsOf; rw [List.length_map, Array.length_toList]; exact h
  unfold headN
  rw [List.take_succ_eq_append_getElem hl, List.foldl_append]
  have : (natsOf D)[k] = D[k].toNat := List.getElem_map (l := D.data.toList) UInt8.toNat (i := k) (h := hl)
  rw [this]
  rfl
theorem headN_lt (D : ByteArray) (k : Nat) : headN D k < 256 ^ k := by
  have h := fold256_lt ((natsOf D).take k) 0 (fun x hx => natsOf_lt D x (List.mem_of_mem_take hx))
  rw [Nat.zero_add, Nat.one_mul] at h
  exact Nat.lt_of_lt_of_le h (Nat.pow_le_pow_right (by decide) (by rw [List.length_take]; omega))
theorem rawN_head (D : ByteArray) (h : 7 < D.size) : rawN (natsOf D) = 64 * headN D 7 + D[7].toNat / 4 := by
  have hl : 7 < (natsOf D).length := by unfold natsOf; rw [List.length_map, Array.length_toList]; exact h
  have : (natsOf D).getD 7 0 = D[7].toNat := by
    rw [List.getD_eq_getElem?_getD, List.getElem?_eq_getElem hl]
    rw [Option.getD_some]
    exact List.getElem_map (l := D.data.toList) UInt8.toNat (i := 7) (h := hl)
  unfold rawN
  rw [this]
  rfl
theorem ret_raw {a b : Int} (h : a = b) : Ending.returned (.tuple #[.int .i64 a, .int .i64 0]) = .returned (.tuple #[.int .i64 b, .int .i64 0]) := by rw [h]
set_option maxRecDepth 100000 in
set_option maxHeartbeats 16000000 in
theorem rawR_any (s : ByteArray) (hs : s.size ≤ maxLen) (i j : Int) (w : World) : Calls Tryd.prog 14 #[.string s, .int .i64 i, .int .i64 j] w fun e w' => e = .returned (.tuple #[.int .i64 (rawV s i j), .int .i64 (rawE s i j)]) ∧ Below w.heap.size w w' := by
  have cn := fun W => namedR_any s hs i W
  cases hn : namedB s i with
  | false =>
    have hb : rawB s i j = false := by unfold rawB; rw [hn]; rfl
    rw [hn] at cn
    have CN := Lib.hid cn
    unfold rawV rawE
    rw [hb]
    clear hb hn cn
    go_enter Tryd.func14, Tryd.ntmps14
    go_wp2_with fail
    refine (CN.out _).mono ?_
    rintro e z ⟨rfl, rfl⟩
    go_wp2
    go_ret2
    exact ⟨rfl, Below.refl _ _⟩
  | true =>
    rw [hn] at cn
    have CN := Lib.hid cn
    have hnn : 1 ≤ s.size ∧ s.size ≤ 40 ∧ 0 ≤ i ∧ i ≤ 4611686018427387903 := of_decide_eq_true hn
    clear cn
    by_cases h1 : j < 0
    · have hb : rawB s i j = false := by unfold rawB; rw [hn, decide_eq_false (fun h => by omega)]; rfl
      unfold rawV rawE
      rw [hb]
      clear hb hn hnn
      go_enter Tryd.func14, Tryd.ntmps14
      go_wp2_with fail
      refine (CN.out _).mono ?_
      rintro e z ⟨rfl, rfl⟩
      go_wp2
      go_ret2
      exact ⟨rfl, Below.refl _ _⟩
    · by_cases h2 : 64 ≤ j
      · have hb : rawB s i j = false := by unfold rawB; rw [hn, decide_eq_false (fun h => by omega)]; rfl
        unfold rawV rawE
        rw [hb]
        clear hb hn hnn
        go_enter Tryd.func14, Tryd.ntmps14
        go_wp2_with fail
        refine (CN.out _).mono ?_
        rintro e z ⟨rfl, rfl⟩
        go_wp2
        go_ret2
        exact ⟨rfl, Below.refl _ _⟩
      · have hb : rawB s i j = true := by unfold rawB; rw [hn, decide_eq_true (show _ from ⟨by omega, by omega⟩)]; rfl
        unfold rawV rawE
        rw [hb]
        show Calls _ _ _ _ fun e w' => e = .returned (.tuple #[.int .i64 ((rawS s i j : Nat) : Int), .int .i64 0]) ∧ _
        have ca := fun W => W1.refPutString_ok s (by omega) W
        have cb := fun W => W1.refPut_yes i (by omega) (by omega) W
        have cc := fun W => W1.refPut_yes j (by omega) (by omega) W
        have z1 := W1.encS_size_le (s.size : Int) (by omega) (by omega)
        have z2 := W1.encS_size_le i (by omega) (by omega)
        have z3 := W1.encS_size_le j (by omega) (by omega)
        have ht : rawT s i j = W1.encS (s.size : Int) ++ s ++ W1.encS i ++ W1.encS j := rfl
        obtain ⟨PA, hpa⟩ : ∃ t, W1.encS (s.size : Int) ++ s = t := ⟨_, rfl⟩
        have zp : PA.size ≤ 49 := by rw [← hpa, ByteArray.size_append]; omega
        rw [hpa] at ca ht
        generalize W1.encS i = PB at *
        generalize W1.encS j = PC at *
        have zt : (rawT s i j).size ≤ 1099511627776 := by rw [ht, ByteArray.size_append, ByteArray.size_append]; omega
        have cs := fun W => sumR_any (rawT s i j) zt W
        have hd := sha_size (rawT s i j)
        have hr : rawS s i j = rawN (natsOf (sha (rawT s i j))) := rfl
        rw [hr]
        rw [ht] at cs hd ⊢
        generalize sha (PA ++ PB ++ PC) = D at *
        have hr2 := rawN_head D (by omega)
        rw [hr2]
        have k1 : PA.size + PB.size ≤ 9223372036854775807 := by omega
        have k2 : PA.size + PB.size + PC.size ≤ 9223372036854775807 := by omega
        have HHL := Lib.hid (fun k => headN_lt D k); have HST := Lib.hid (fun k h => headN_step D k h)
        have CA := Lib.hid ca; have CB := Lib.hid cb; have CC := Lib.hid cc; have CS := Lib.hid cs
        clear ca cb cc cs z1 z2 z3 hpa zp zt hr hr2 hn hnn hb ht
        obtain ⟨H7, hH7⟩ : ∃ n, headN D 7 = n := ⟨_, rfl⟩
        rw [hH7]
        have HH := Lib.hid hH7
        have HB7 := Lib.hid (show H7 < 72057594037927936 by have := HHL.out 7; rw [hH7] at this; exact this)
        clear hH7
        go_enter Tryd.func14, Tryd.ntmps14
        go_wp2_with fail
        refine (CN.out _).mono ?_
        rintro e z ⟨rfl, rfl⟩
        go_wp2_with fail
        refine (CA.out _).mono ?_
        rintro e z1 ⟨rfl, b1⟩
        go_wp2_with fail
        refine (CB.out _).mono ?_
        rintro e z2 ⟨rfl, b2⟩
        go_wp2_with fail
        refine (CC.out _).mono ?_
        rintro e z3 ⟨rfl, b3⟩
        go_wp2_with fail
        refine (CS.out _).mono ?_
        rintro e z4 ⟨rfl, b4⟩
        have PB' := Lib.hid (below_up6 b1 (below_up6 b2 (below_up6 b3 b4)))
        clear b1 b2 b3 b4 k1 k2
        go_wp2_with fail
        go_loop [15, 16] (fun n i => ∃ k : Nat, k ≤ 7 ∧ i = .int .i64 k ∧ n = .int .i64 ((headN D k : Nat) : Int)) (fun _ i => 7 - (RowKit.intOf i).toNat)
        case atStart => exact ⟨0, by omega, rfl, rfl⟩
        case round =>
          obtain ⟨k, hk, rfl, rfl⟩ := hrel
          by_cases h7 : k < 7
          · have hk7 : (k : Int) < 7 := by omega
            have hkd : (k : Int) < (D.size : Int) := by omega
            have hkn : k < D.size := by omega
            have hb8 : D[k].toNat < 256 := D[k].toNat_lt
            have hst := HST.out k hkn
            have hlt : headN D k < 281474976710656 := Nat.lt_of_lt_of_le (HHL.out k) (by
              have := Nat.pow_le_pow_right (n := 256) (by decide) (show k ≤ 6 by omega)
              exact Nat.le_trans this (by decide))
            have HS2 := Lib.hid hst
            clear hst
            generalize headN D k = n at *
            go_wp2_with fail
            go_round
            case rel => exact ⟨k + 1, by omega, by go_num, congrArg (Value.int .i64) (by rw [HS2.out]; omega)⟩
            case measure => simp [RowKit.intOf]; omega
          · obtain rfl : k = 7 := by omega
            have hh := HH.out
            rw [hh]
            have h77 := HB7.out
            have hd7 : (7 : Int) < (D.size : Int) := by omega
            have hn7 : 7 < D.size := by omega
            have hb8 : D[7].toNat < 256 := D[7].toNat_lt
            clear hh
            go_wp2
            go_ret2
            exact ⟨ret_raw (by omega), PB'.out⟩
end Go.Proofs.YtdolmahodhgfpaaDoor
