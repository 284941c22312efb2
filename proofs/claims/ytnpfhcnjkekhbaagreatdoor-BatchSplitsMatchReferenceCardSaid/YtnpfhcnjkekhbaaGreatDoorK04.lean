/-
  The contracts of wire.unfold and wire.Int: what is decoded at an offset.
-/
import Derived.Test.YtnpfhcnjkekhbaaGreatDoorProg
import Derived.Test.YtnpfhcnjkekhbaaGreatDoorK01
import Derived.WalkKit
import Derived.WalkLawsBesides
import Derived.Outline
import Derived.Lib.Hide
import Derived.Lib.Varint
set_option maxRecDepth 100000
set_option maxHeartbeats 16000000
namespace Go.Proofs.YtnpfhcnjkekhbaaGreatDoor.W1
open Go Go.Proofs Go.RowKit Go.Lib
theorem ret_i {k : IntKind} {a b : Int} (h : a = b) : Ending.returned (.int k a) = .returned (.int k b) := by rw [h]
theorem unfold_any (z : Nat) (hz : z ≤ maxZ) (w : World) :
 Calls Tryz.prog 120 #[.int .u64 (z : Nat)] w fun e w' => e = .returned (.int .i64 (unz z)) ∧ w = w' := by
 have hz2 : (z : Int) ≤ 9223372036854775806 := by unfold maxZ at hz; omega
 clear hz
 by_cases ho : z % 2 = 1
 · have hu : unz z = -((z : Int) / 2) - 1 := by unfold unz; rw [if_neg (by omega)]; omega
   have HU := Lib.hid hu
   have hb : (((z : Int) % 2) == 1) = true := by rw [beq_iff_eq]; omega
   clear hu ho
   go_enter Tryz.func120, Tryz.ntmps120
   go_wp2
   go_ret
   exact ⟨ret_i HU.out.symm, rfl⟩
 · have hu : unz z = (z : Int) / 2 := by unfold unz; rw [if_pos (by omega)]; omega
   have HU := Lib.hid hu
   have hb : (((z : Int) % 2) == 1) = false := by rw [beq_eq_false_iff_ne]; omega
   clear hu ho
   go_enter Tryz.func120, Tryz.ntmps120
   go_wp2
   go_ret
   exact ⟨ret_i HU.out.symm, rfl⟩
theorem wrap_self (n : Nat) (h : n < 18446744073709551616) : IntKind.u64.wrap (n : Int) = (n : Int) := by
 rw [IntKind.wrap_u64]; omega
theorem acc_lt (acc b k : Nat) (ha : acc < 2 ^ (7 * k)) : acc + b % 128 * 2 ^ (7 * k) < 2 ^ (7 * (k + 1)) := by
 rw [pow_step]
 have h : b % 128 * 2 ^ (7 * k) ≤ 127 * 2 ^ (7 * k) := Nat.mul_le_mul_right _ (by omega)
 omega
theorem pow_le_63 (k : Nat) (hk : k ≤ 9) : 2 ^ (7 * k) ≤ 9223372036854775808 :=
 Nat.le_trans (Nat.pow_le_pow_right (by decide) (show 7 * k ≤ 63 by omega)) (by decide)
theorem wrap_acc (acc b k : Nat) (hk : k < 9) (ha : acc < 2 ^ (7 * k)) :
 IntKind.u64.wrap ((acc : Int) + IntKind.u64.wrap ((b : Int) % 128 * 2 ^ (k * 7))) = ((acc + b % 128 * 2 ^ (7 * k) : Nat) : Int) := by
 have h1 := acc_lt acc b k ha
 have h2 := pow_le_63 (k + 1) (by omega)
 have e : (b : Int) % 128 * 2 ^ (k * 7) = ((b % 128 * 2 ^ (7 * k) : Nat) : Int) := by
  rw [Nat.mul_comm k 7]; simp
 rw [e, wrap_self _ (by omega)]
 have e2 : (acc : Int) + ((b % 128 * 2 ^ (7 * k) : Nat) : Int) = ((acc + b % 128 * 2 ^ (7 * k) : Nat) : Int) := by simp
 rw [e2, wrap_self _ (by omega)]
theorem scan_more {k acc : Nat} {b : UInt8} {l : List UInt8} (hk : k < 9) (hb : 128 ≤ b.toNat) : scan k acc (b :: l) = scan (k + 1) (acc + b.toNat % 128 * 2 ^ (7 * k)) l := by
 simp only [scan]; rw [if_neg (by omega), if_pos hb]
theorem scan_bad0 {k acc : Nat} {b : UInt8} {l : List UInt8} (hb : b.toNat = 0) (h : ¬ k = 0) : scan k acc (b :: l) = none := by
 simp only [scan]
 by_cases h9 : 9 ≤ k
 · rw [if_pos h9]
 · rw [if_neg h9, if_neg (by omega), if_pos (.inl ⟨hb, by omega⟩)]
theorem scan_badz {k acc : Nat} {b : UInt8} {l : List UInt8} (hb : b.toNat < 128) (h : maxZ < acc + b.toNat % 128 * 2 ^ (7 * k)) : scan k acc (b :: l) = none := by
 simp only [scan]
 by_cases h9 : 9 ≤ k
 · rw [if_pos h9]
 · rw [if_neg h9, if_neg (by omega), if_pos (.inr (by rw [Nat.mod_eq_of_lt hb] at h; exact h))]
theorem scan_good {k acc : Nat} {b : UInt8} {l : List UInt8} (hk : k < 9) (hb : b.toNat < 128) (h0 : ¬ (b.toNat = 0 ∧ 0 < k)) (h : acc + b.toNat % 128 * 2 ^ (7 * k) ≤ maxZ) :
 scan k acc (b :: l) = some (acc + b.toNat % 128 * 2 ^ (7 * k), k + 1) := by
 simp only [scan]
 rw [Nat.mod_eq_of_lt hb] at h ⊢
 rw [if_neg (by omega), if_neg (by omega), if_neg]
 rintro (h1 | h1)
 · exact h0 h1
 · omega
theorem drop_byte (s : ByteArray) (L : List UInt8) (hL : s.data.toList = L) (i : Nat) (h : i < s.size) : L.drop i = s[i] :: L.drop (i + 1) := by
 subst hL
 rw [List.drop_eq_getElem_cons (by simpa using h)]
 rfl
def intOut (at_ : Nat) : Option (Nat × Nat) → Value
 | none => .tuple #[.int .i64 0, .int .i64 0, .int .i64 10]
 | some (z, n) => .tuple #[.int .i64 (unz z), .int .i64 ((at_ : Int) + (n : Int)), .int .i64 0]
theorem int_arg (s : ByteArray) (a : Int) (h : a < 0 ∨ (s.size : Int) < a) (w : World) :
 Calls Tryz.prog 113 #[.string s, .int .i64 a] w fun e w' => e = .returned (.tuple #[.int .i64 0, .int .i64 0, .int .i64 2]) ∧ w = w' := by
 rcases h with h | h
 · go_enter Tryz.func113, Tryz.ntmps113
   go_wp2
   go_ret3
   exact ⟨rfl, rfl⟩
 · have h' : ¬ a < 0 := by omega
   go_enter Tryz.func113, Tryz.ntmps113
   go_wp2
   go_ret3
   exact ⟨rfl, rfl⟩
theorem out_eq (p z n : Nat) (v : Int) (h : v = (p : Int) + (n : Int)) : Ending.returned (.tuple #[.int .i64 (unz z), .int .i64 v, .int .i64 0]) = .returned (intOut p (some (z, n))) := by
 subst h; rfl
theorem int_any (s : ByteArray) (hs : s.size ≤ maxLen) (p : Nat) (hp : p ≤ s.size) (w : World) :
 Calls Tryz.prog 113 #[.string s, .int .i64 (p : Nat)] w fun e w' => e = .returned (intOut p (scan 0 0 (s.data.toList.drop p))) ∧ w = w' := by
 unfold maxLen at hs
 have hp2 : (p : Int) ≤ (s.size : Int) := by omega
 have hp3 : 0 ≤ (p : Int) := by omega
 obtain ⟨N, hN⟩ : ∃ N : Nat, N = min (s.size - p) 9 := ⟨_, rfl⟩
 have hN9 : N ≤ 9 := by omega
 have hNs : p + N ≤ s.size := by omega
 have hNor : N = 9 ∨ p + N = s.size := by omega
 have HOR := Lib.hid hNor
 have hmn : (if (9 : Int) < (s.size : Int) - (p : Int) then (9 : Int) else (s.size : Int) - (p : Int)) = (N : Int) := by split <;> omega
 clear hN hNor
 obtain ⟨L, hL⟩ : ∃ L, s.data.toList = L := ⟨_, rfl⟩
 rw [hL]
 have HL := Lib.hid hL
 clear hL
 have hd1 : decide (s.size < p) = false := by simp; omega
 have hd2 : decide ((p : Int) < 0) = false := by simp
 go_enter Tryz.func113, Tryz.ntmps113
 go_wp2
 go_loop [7, 24] (fun z i => ∃ k acc : Nat, k ≤ N ∧ i = .int .i64 k ∧ z = .int .u64 acc ∧ acc < 2 ^ (7 * k) ∧ scan 0 0 (L.drop p) = scan k acc (L.drop (p + k))) (fun _ i => N - (intOf i).toNat)
 case atStart => exact ⟨0, 0, by omega, rfl, rfl, by simp, rfl⟩
 case round =>
  obtain ⟨k, acc, hk, rfl, rfl, hacc, hsc⟩ := hrel
  have HS := Lib.hid hsc
  clear hsc hmn
  by_cases hlt : k < N
  · have hlt2 : (k : Int) < (N : Int) := by omega
    have hb : p + k < s.size := by omega
    have hb2 : (p : Int) + (k : Int) < (s.size : Int) := by omega
    have HCO := Lib.hid (drop_byte s L HL.out (p + k) hb)
    have HW := Lib.hid (wrap_acc acc s[p + k].toNat k (by omega) hacc)
    have HA := Lib.hid (acc_lt acc s[p + k].toNat k hacc)
    have h63 := pow_le_63 k (by omega)
    have HWa := Lib.hid (wrap_self acc (by omega))
    have HACC := Lib.hid hacc
    clear h63 hacc
    go_wp2_with fail
    · have h : (128 : Int) ≤ (s[p + k].toNat : Int) := by assumption
      have hb' : 128 ≤ s[p + k].toNat := by omega
      clear h
      go_round
      case rel => exact ⟨k + 1, acc + s[p + k].toNat % 128 * 2 ^ (7 * k), by omega, by go_num, congrArg (Value.int .u64) HW.out, HA.out, by rw [HS.out, HCO.out, scan_more (by omega) hb']; rfl⟩
      case measure => simp [intOf]; omega
    · exfalso
      have h : (9223372036854775806 : Int) < IntKind.u64.wrap (acc : Int) := by assumption
      have h2 : k = 0 := by assumption
      have h3 := HACC.out
      rw [HWa.out] at h
      rw [h2] at h3
      simp at h3
      omega
    · have h : IntKind.u64.wrap (acc : Int) ≤ (9223372036854775806 : Int) := by assumption
      have h2 : k = 0 := by assumption
      have h0 : s[p + k].toNat = 0 := by assumption
      rw [HWa.out] at h ⊢
      have hle : acc ≤ maxZ := by unfold maxZ; omega
      have hsc : scan 0 0 (L.drop p) = some (acc, k + 1) := by
       rw [HS.out, HCO.out, scan_good (by omega) (by omega) (by omega) (by rw [h0]; simpa using hle), h0]
       simp
      have HSC := Lib.hid hsc
      have H2 := Lib.hid h2
      clear hsc h h2 h0
      refine (unfold_any acc hle _).mono ?_
      rintro e w' ⟨rfl, rfl⟩
      go_wp2
      go_ret3
      exact ⟨(out_eq p acc (k + 1) ((p : Int) + 1) (by rw [H2.out]; rfl)).trans (by rw [HSC.out]), rfl⟩
    · have h2 : ¬ k = 0 := by assumption
      have h0 : s[p + k].toNat = 0 := by assumption
      go_ret3
      exact ⟨by rw [HS.out, HCO.out, scan_bad0 h0 h2]; rfl, rfl⟩
    · have h : (9223372036854775806 : Int) < IntKind.u64.wrap ((acc : Int) + IntKind.u64.wrap ((s[p + k].toNat : Int) % 128 * 2 ^ (k * 7))) := by assumption
      have h1 : (s[p + k].toNat : Int) < 128 := by assumption
      rw [HW.out] at h
      go_ret3
      exact ⟨by rw [HS.out, HCO.out, scan_badz (by omega) (by unfold maxZ; omega)]; rfl, rfl⟩
    · have h : IntKind.u64.wrap ((acc : Int) + IntKind.u64.wrap ((s[p + k].toNat : Int) % 128 * 2 ^ (k * 7))) ≤ (9223372036854775806 : Int) := by assumption
      have h1 : (s[p + k].toNat : Int) < 128 := by assumption
      have h0 : ¬ s[p + k].toNat = 0 := by assumption
      rw [HW.out] at h ⊢
      have hle : acc + s[p + k].toNat % 128 * 2 ^ (7 * k) ≤ maxZ := by unfold maxZ; omega
      have hsc : scan 0 0 (L.drop p) = some (acc + s[p + k].toNat % 128 * 2 ^ (7 * k), k + 1) := by
       rw [HS.out, HCO.out, scan_good (by omega) (by omega) (by omega) hle]
      have HSC := Lib.hid hsc
      clear hsc h h1 h0
      refine (unfold_any _ hle _).mono ?_
      rintro e w' ⟨rfl, rfl⟩
      go_wp2
      go_ret3
      exact ⟨(out_eq p (acc + s[p + k].toNat % 128 * 2 ^ (7 * k)) (k + 1) ((p : Int) + (k : Int) + 1) (by omega)).trans (by rw [HSC.out]), rfl⟩
  · go_wp2
    go_ret3
    have hn : scan k acc (L.drop (p + k)) = none := by
     have hkN : k = N := by omega
     rcases HOR.out with h | h
     · cases hd : L.drop (p + k) with
       | nil => rfl
       | cons b l => simp only [scan]; rw [if_pos (by omega)]
     · have hLs : L.length = s.size := by rw [← HL.out]; simp
       rw [List.drop_of_length_le (by omega)]; rfl
    exact ⟨by rw [HS.out, hn]; rfl, rfl⟩
end Go.Proofs.YtnpfhcnjkekhbaaGreatDoor.W1
