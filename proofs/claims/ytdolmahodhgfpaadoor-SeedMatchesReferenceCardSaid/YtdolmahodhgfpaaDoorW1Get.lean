/-
  The contracts of wire.unfold and wire.Int: what is decoded at an offset.
-/
import Derived.Test.YtdolmahodhgfpaaDoorProg
import Derived.Test.YtdolmahodhgfpaaDoorW1Math
import Derived.WalkKit
import Derived.WalkLawsBesides
import Derived.Outline
import Derived.Lib.Hide
namespace Go.Proofs.YtdolmahodhgfpaaDoor.W1
open Go Go.Proofs Go.RowKit Go.Lib

theorem ret_i {k : IntKind} {a b : Int} (h : a = b) : Ending.returned (.int k a) = .returned (.int k b) := by rw [h]

theorem wrap_self (n : Nat) (h : n < 18446744073709551616) : IntKind.u64.wrap (n : Int) = (n : Int) := by
  rw [IntKind.wrap_u64]; omega
theorem acc_lt (acc b k : Nat) (ha : acc < 2 ^ (7 * k)) : acc + b % 128 * 2 ^ (7 * k) < 2 ^ (7 * (k + 1)) := by
  rw [pow_step]
  have h : b % 128 * 2 ^ (7 * k) ≤ 127 * 2 ^ (7 * k) := Nat.mul_le_mul_right _ (by omega)
  omega
theorem pow_le_63 (k : Nat) (hk : k ≤ 9) : 2 ^ (7 * k) ≤ 9223372036854775808 :=
  Nat.le_trans (Nat.pow_le_pow_right (by decide) (show 7 * k ≤ 63 by omega)) (by decide)
theorem wrap_acc (acc b k : Nat) (hk : k < 9) (ha : acc < 2 ^ (7 * k)) :
    IntKind.u64.wrap ((acc : Int) + IntKind.u64.wrap ((b : Int) % 128 * 2 ^ (k * 7))) = ((acc + b % 128 * 2 ^ (7 * k) : Nat) : Int) := by
  have h1 := acc_lt acc b k ha
  have h2 := pow_le_63 (k + 1) (by omega)
  have e : (b : Int) % 128 * 2 ^ (k * 7) = ((b % 128 * 2 ^ (7 * k) : Nat) : Int) := by
    rw [Nat.mul_comm k 7]; simp
  rw [e, wrap_self _ (by omega)]
  have e2 : (acc : Int) + ((b % 128 * 2 ^ (7 * k) : Nat) : Int) = ((acc + b % 128 * 2 ^ (7 * k) : Nat) : Int) := by simp
  rw [e2, wrap_self _ (by omega)]

theorem scan_more {k acc : Nat} {b : UInt8} {l : List UInt8} (hk : k < 9) (hb : 128 ≤ b.toNat) : scan k acc (b :: l) = scan (k + 1) (acc + b.toNat % 128 * 2 ^ (7 * k)) l := by
  simp only [scan]; rw [if_neg (by omega), if_pos hb]
theorem scan_bad0 {k acc : Nat} {b : UInt8} {l : List UInt8} (hb : b.toNat = 0) (h : ¬ k = 0) : scan k acc (b :: l) = none := by
  simp only [scan]
  by_cases h9 : 9 ≤ k
  · rw [if_pos h9]
  · rw [if_neg h9, if_neg (by omega), if_pos (.inl ⟨hb, by omega⟩)]
theorem scan_badz {k acc : Nat} {b : UInt8} {l : List UInt8} (hb : b.toNat < 128) (h : maxZ < acc + b.toNat % 128 * 2 ^ (7 * k)) : scan k acc (b :: l) = none := by
  simp only [scan]
  by_cases h9 : 9 ≤ k
  · rw [if_pos h9]
  · rw [if_neg h9, if_neg (by omega), if_pos (.inr (by rw [Nat.mod_eq_of_lt hb] at h; exact h))]
theorem scan_good {k acc : Nat} {b : UInt8} {l : List UInt8} (hk : k < 9) (hb : b.toNat < 128) (h0 : ¬ (b.toNat = 0 ∧ 0 < k)) (h : acc + b.toNat % 128 * 2 ^ (7 * k) ≤ maxZ) :
    scan k acc (b :: l) = some (acc + b.toNat % 128 * 2 ^ (7 * k), k + 1) := by
  simp only [scan]
  rw [Nat.mod_eq_of_lt hb] at h ⊢
  rw [if_neg (by omega), if_neg (by omega), if_neg]
  rintro (h1 | h1)
  · exact h0 h1
  · omega

theorem drop_byte (s : ByteArray) (L : List UInt8) (hL : s.data.toList = L) (i : Nat) (h : i < s.size) : L.drop i = s[i] :: L.drop (i + 1) := by
  subst hL
  rw [List.drop_eq_getElem_cons (by simpa using h)]
  rfl

/-- What Int returns. -/
def intOut (at_ : Nat) : Option (Nat × Nat) → Value
  | none => .tuple #[.int .i64 0, .int .i64 0, .int .i64 10]
  | some (z, n) => .tuple #[.int .i64 (unz z), .int .i64 ((at_ : Int) + (n : Int)), .int .i64 0]

theorem out_eq (p z n : Nat) (v : Int) (h : v = (p : Int) + (n : Int)) : Ending.returned (.tuple #[.int .i64 (unz z), .int .i64 v, .int .i64 0]) = .returned (intOut p (some (z, n))) := by
  subst h; rfl

end Go.Proofs.YtdolmahodhgfpaaDoor.W1
