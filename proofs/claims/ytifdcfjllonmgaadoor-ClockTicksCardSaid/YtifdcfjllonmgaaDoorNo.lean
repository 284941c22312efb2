/-
  Layer 8: which agents are believed: a set of agents against the mask of two events, plain.
-/
import Derived.Test.YtifdcfjllonmgaaDoorNm0
import Derived.Laws.Bits128
namespace Go.Proofs.YtifdcfjllonmgaaDoor
open Go Go.Proofs Go.RowKit Go.Lib

def bitM (m : Int) (p : Nat) : Bool := decide (m / 2 ^ p % 2 = 1)
theorem six_nat {p : Nat} (h : p ≤ 5) : p = 0 ∨ p = 1 ∨ p = 2 ∨ p = 3 ∨ p = 4 ∨ p = 5 := by omega
theorem lsb_bit (m : Int) {p : Nat} (hp : p ≤ 5) : (BitVec.ofInt 64 m).getLsbD p = bitM m p := by
  unfold BitVec.getLsbD bitM
  rw [BitVec.toNat_ofInt, Nat.testBit_eq_decide_div_mod_eq]
  rcases six_nat hp with rfl | rfl | rfl | rfl | rfl | rfl <;> (apply decide_eq_decide.2; omega)
theorem i64_and1 (n : Int) : bits .and .i64 n 1 = n % 2 := by
  have h1 : (BitVec.ofInt 64 1).toNat = 2 ^ 1 - 1 := by decide
  have key : (BitVec.ofInt 64 n &&& BitVec.ofInt 64 1).toNat = (n % ((2 ^ 64 : Nat) : Int)).toNat % 2 ^ 1 := by
    rw [BitVec.toNat_and, BitVec.toNat_ofInt, h1, Nat.and_two_pow_sub_one_eq_mod]
  show IntKind.i64.wrap ((BitVec.ofInt 64 n &&& BitVec.ofInt 64 1).toNat : Nat) = n % 2
  rw [key, IntKind.wrap_i64]
  omega
theorem bel_bit (m : Int) (p : Nat) : belB m (p : Int) = bitM m p := by
  unfold belB bitM
  rw [i64_and1, Int.toNat_natCast]
  have : m / 2 ^ p % 2 = 0 ∨ m / 2 ^ p % 2 = 1 := by omega
  rcases this with h | h <;> simp [h]
def maskN (p q : Nat) : Int := if p = q then (2 : Int) ^ p else (2 : Int) ^ p + (2 : Int) ^ q
theorem mask_lsb {p q : Nat} (hp : p ≤ 5) (hq : q ≤ 5) : ∀ i : Fin 64, (BitVec.ofInt 64 (maskN p q)).getLsbD i = (i.val == p || i.val == q) := by
  rcases six_nat hp with rfl | rfl | rfl | rfl | rfl | rfl <;> rcases six_nat hq with rfl | rfl | rfl | rfl | rfl | rfl <;> decide +kernel
theorem wrap_zero (t : Nat) (h : t < 2 ^ 64) : (IntKind.i64.wrap (t : Int) == 0) = (t == 0) := by
  rw [IntKind.wrap_i64, Bool.eq_iff_iff]
  simp only [beq_iff_eq]
  omega
theorem andNot_mask (m : Int) {p q : Nat} (hp : p ≤ 5) (hq : q ≤ 5) : (bits .andNot .i64 (maskN p q) m == 0) = (bitM m p && bitM m q) := by
  show (IntKind.i64.wrap ((BitVec.ofInt 64 (maskN p q) &&& ~~~BitVec.ofInt 64 m).toNat : Nat) == 0) = _
  rw [wrap_zero _ (BitVec.isLt _), ← lsb_bit m hp, ← lsb_bit m hq, Bool.eq_iff_iff, beq_iff_eq]
  have hK := mask_lsb hp hq
  generalize BitVec.ofInt 64 (maskN p q) = K at *
  generalize BitVec.ofInt 64 m = M at *
  constructor
  · intro h
    have h0 : K &&& ~~~M = 0#64 := by rw [← BitVec.toNat_inj]; exact h
    have at_ : ∀ i : Nat, i ≤ 5 → K.getLsbD i = true → M.getLsbD i = true := fun i hi hk => by
      have := congrArg (fun v => BitVec.getLsbD v i) h0
      simp [hk] at this
      exact this (by omega)
    rw [Bool.and_eq_true]
    exact ⟨at_ p hp (by rw [hK ⟨p, by omega⟩]; simp), at_ q hq (by rw [hK ⟨q, by omega⟩]; simp)⟩
  · intro h
    rw [Bool.and_eq_true] at h
    have h0 : K &&& ~~~M = 0#64 := by
      apply BitVec.eq_of_getLsbD_eq
      intro i hi
      simp only [BitVec.getLsbD_and, BitVec.getLsbD_not, BitVec.getLsbD_zero]
      rw [hK ⟨i, hi⟩]
      by_cases e1 : i = p
      · subst e1; simp [h.1]
      · by_cases e2 : i = q
        · subst e2; simp [h.2]
        · simp [e1, e2]
    rw [h0]
    rfl
/-- The mask of two events lies within the believed agents exactly if both agents are believed. -/
theorem bel_mask (m : Int) {a b : Ev} (a0 : 0 ≤ a.ag) (a1 : a.ag ≤ 5) (b0 : 0 ≤ b.ag) (b1 : b.ag ≤ 5) : (bits .andNot .i64 (mask8 a b) m == 0) = (belB m a.ag && belB m b.ag) := by
  obtain ⟨p, hp⟩ := Int.eq_ofNat_of_zero_le a0
  obtain ⟨q, hq⟩ := Int.eq_ofNat_of_zero_le b0
  have e : mask8 a b = maskN p q := by
    unfold mask8 maskN
    rw [hp, hq, Int.toNat_natCast, Int.toNat_natCast]
    by_cases h : p = q
    · subst h; simp
    · rw [if_neg (by omega), if_neg h]
  rw [e, andNot_mask m (by omega) (by omega), hp, hq, bel_bit, bel_bit]
end Go.Proofs.YtifdcfjllonmgaaDoor
