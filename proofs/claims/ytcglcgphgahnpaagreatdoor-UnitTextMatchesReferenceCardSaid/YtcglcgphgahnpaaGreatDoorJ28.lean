/-
  Plain mathematics of layer 1: the groups of seven bits of a number, its LEB128 encoding, zigzag.
-/
import Derived.Test.YtcglcgphgahnpaaGreatDoorJ00
set_option maxRecDepth 100000
set_option maxHeartbeats 16000000
namespace Go.Proofs.YtcglcgphgahnpaaGreatDoor.W1
open Go Go.Lib
theorem scan_enc : ∀ (y i acc : Nat) (q : List UInt8), i + (uvarint y).length ≤ 9 → acc + y * 2 ^ (7 * i) ≤ maxZ → (0 < i → 0 < y) →
 scan i acc (uvarint y ++ q) = some (acc + y * 2 ^ (7 * i), i + (uvarint y).length) := by
 intro y
 induction y using digs.induct with
 | case1 y hy =>
  intro i acc q h9 hm hp
  rw [uvarint_small hy] at h9 ⊢
  have e : (y.toUInt8).toNat = y := by simp; omega
  simp only [List.cons_append, List.nil_append, scan, e]
  simp only [List.length_cons, List.length_nil] at h9 ⊢
  rw [if_neg (by omega), if_neg (by omega), if_neg]
  intro h
  rcases h with ⟨h1, h2⟩ | h
  · have := hp h2; omega
  omega
 | case2 y hy ih =>
  intro i acc q h9 hm hp
  rw [uvarint_big (by omega)] at h9 ⊢
  have e : ((y % 128 + 128).toUInt8).toNat = y % 128 + 128 := by simp; omega
  simp only [List.cons_append, scan, e]
  simp only [List.length_cons] at h9 ⊢
  have hs : acc + (y % 128 + 128) % 128 * 2 ^ (7 * i) + y / 128 * 2 ^ (7 * (i + 1)) = acc + y * 2 ^ (7 * i) := by
   rw [pow_step, show (y % 128 + 128) % 128 = y % 128 by omega]
   have : y * 2 ^ (7 * i) = (y % 128 + 128 * (y / 128)) * 2 ^ (7 * i) := by rw [Nat.mod_add_div]
   rw [this, Nat.add_mul, show 128 * (y / 128) * 2 ^ (7 * i) = y / 128 * (128 * 2 ^ (7 * i)) by rw [← Nat.mul_assoc]; congr 1; omega]
   omega
  rw [if_neg (by omega), if_pos (by omega), ih (i + 1) _ q (by omega) (by rw [hs]; exact hm) (by intro _; omega), hs]
  congr 2
  omega
theorem uvarint_length9 {z : Nat} (h : z ≤ maxZ) : (uvarint z).length ≤ 9 := by
 rw [uvarint_size]; exact digs_length9 (by unfold maxZ at h; omega)
theorem scan_of_enc {z : Nat} (h : z ≤ maxZ) (q : List UInt8) : scan 0 0 (uvarint z ++ q) = some (z, (uvarint z).length) := by
 have := scan_enc z 0 0 q (by have := uvarint_length9 h; omega) (by simpa using h) (by omega)
 simpa using this
end Go.Proofs.YtcglcgphgahnpaaGreatDoor.W1
