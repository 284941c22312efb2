/-
  Plain mathematics of the limits' law: texts of nines, and how long a product is.
-/
import Derived.Test.YtildgpahacaglaaDoorNines
namespace Go.Proofs.YtildgpahacaglaaDoor
open Go Go.Proofs

theorem rep_dig (n : Nat) : IsDig (List.replicate n 9) := by intro d hd; rw [List.mem_replicate] at hd; omega
theorem rep_canon (n : Nat) : Canon (List.replicate n 9) := by
  unfold Canon
  cases n with
  | zero => simp
  | succ n => rw [List.replicate_succ', List.getLast?_append]; simp
theorem digs_nines (n : Nat) : digs (10 ^ n - 1) = List.replicate n 9 := by
  have h := digs_valD (rep_dig n) (rep_canon n)
  rwa [valD_nines] at h
theorem pow1 (n : Nat) : 1 ≤ 10 ^ n := Nat.pow_pos (by decide)
theorem pow10 {n : Nat} (h : 1 ≤ n) : 10 ≤ 10 ^ n := by have := Nat.pow_le_pow_right (n := 10) (by decide) h; simpa using this
theorem textI_nat (N : Nat) : textI (N : Int) = byteL (textN N) := by
  unfold textI
  rw [if_neg (by omega), Int.natAbs_natCast, List.nil_append]
theorem textI_neg {N : Nat} (h : 0 < N) : textI (-(N : Int)) = byteL (45 :: textN N) := by
  unfold textI
  rw [if_pos (by omega), Int.natAbs_neg, Int.natAbs_natCast]; rfl
theorem textN_nines {n : Nat} (h : 1 ≤ n) : textN (10 ^ n - 1) = List.replicate n 57 := by
  have := pow10 h
  unfold textN
  rw [if_neg (by omega), digs_nines, List.reverse_replicate, List.map_replicate]
theorem nines_text {n : Nat} (h : 1 ≤ n) : ninesT n = textI ((10 ^ n - 1 : Nat) : Int) := by rw [textI_nat, textN_nines h]; rfl
theorem nines_neg {n : Nat} (h : 1 ≤ n) : ⟨#[45]⟩ ++ ninesT n = textI (-((10 ^ n - 1 : Nat) : Int)) := by
  have := pow10 h
  rw [textI_neg (by omega), textN_nines h, show (⟨#[45]⟩ : ByteArray) = byteL [45] from rfl]
  unfold ninesT
  rw [byteL_append]; rfl
theorem digs_two (n : Nat) : digs (2 * 10 ^ n - 1) = List.replicate n 9 ++ [1] := by
  have hd : IsDig (List.replicate n 9 ++ [1]) := isDig_append (rep_dig n) (by intro d hd; simp at hd; omega)
  have hc : Canon (List.replicate n 9 ++ [1]) := by unfold Canon; simp
  have h := digs_valD hd hc
  rw [valD_snoc, valD_nines, List.length_replicate] at h
  have := pow1 n
  rwa [show 10 ^ n - 1 + 10 ^ n * 1 = 2 * 10 ^ n - 1 by omega] at h
theorem one_nines (n : Nat) : ⟨#[49]⟩ ++ ninesT n = textI ((2 * 10 ^ n - 1 : Nat) : Int) := by
  have := pow1 n
  rw [textI_nat, show (⟨#[49]⟩ : ByteArray) = byteL [49] from rfl]
  unfold ninesT textN
  rw [byteL_append, if_neg (by omega), digs_two, List.reverse_append, List.reverse_replicate, List.map_append, List.map_replicate]; rfl
theorem size_text {N k : Nat} (h1 : 10 ^ k ≤ N) (h2 : N < 10 ^ (k + 1)) : (textI (N : Int)).size = k + 1 := by
  have := pow1 k
  have a := digs_length_le _ _ h2
  have b : ¬ (digs N).length ≤ k := fun h => by have := lt_of_digs_length h; omega
  rw [textI_nat, byteL_size]
  unfold textN
  rw [if_neg (by omega), List.length_map, List.length_reverse]
  omega
/-- The product of a power of ten and a one with nines behind it. -/
def prodN (m n : Nat) : Nat := 10 ^ m * (2 * 10 ^ n - 1)
theorem prod_ge (m n : Nat) : 10 ^ (m + n) ≤ prodN m n := by
  unfold prodN
  rw [Nat.pow_add]
  have := pow1 n
  exact Nat.mul_le_mul_left _ (by omega)
theorem prod_lt (m n : Nat) : prodN m n < 10 ^ (m + n + 1) := by
  unfold prodN
  rw [Nat.pow_succ, Nat.pow_add, Nat.mul_assoc]
  have := pow1 n
  exact Nat.mul_lt_mul_of_pos_left (by omega) (pow1 m)
theorem prod_cast (m n : Nat) : ((10 ^ m : Nat) : Int) * ((2 * 10 ^ n - 1 : Nat) : Int) = ((prodN m n : Nat) : Int) := by unfold prodN; rw [Int.natCast_mul]
theorem prod_fits {m n : Nat} (h : m + n < 200) : Fits (prodN m n : Int) := by
  unfold Fits
  rw [Int.natAbs_natCast]
  exact Nat.lt_of_lt_of_le (prod_lt m n) (Nat.pow_le_pow_right (by decide) (by omega))
theorem prod_over {m n : Nat} (h : ¬ m + n < 200) : ¬ Fits (prodN m n : Int) := by
  unfold Fits
  rw [Int.natAbs_natCast]
  have := Nat.le_trans (Nat.pow_le_pow_right (show 0 < 10 by decide) (show 200 ≤ m + n by omega)) (prod_ge m n)
  omega
set_option maxRecDepth 100000 in
theorem most9 : validB (ninesT 201) = false := by decide +kernel
end Go.Proofs.YtildgpahacaglaaDoor
