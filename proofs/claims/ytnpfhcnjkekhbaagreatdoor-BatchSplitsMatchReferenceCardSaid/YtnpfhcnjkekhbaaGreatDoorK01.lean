/-
  Plain mathematics of layer 1: the groups of seven bits of a number, its LEB128 encoding, zigzag.
-/
import Derived.Lib.Varint
set_option maxRecDepth 100000
set_option maxHeartbeats 16000000
namespace Go.Proofs.YtnpfhcnjkekhbaaGreatDoor.W1
open Go Go.Lib
def digs (z : Nat) : List Nat := if h : z < 128 then [z] else z % 128 :: digs (z / 128)
termination_by z
decreasing_by omega
theorem digs_small {z : Nat} (h : z < 128) : digs z = [z] := by rw [digs, dif_pos h]
theorem digs_big {z : Nat} (h : 128 ≤ z) : digs z = z % 128 :: digs (z / 128) := by rw [digs, dif_neg (by omega)]
theorem digs_lt (z : Nat) : ∀ x ∈ digs z, x < 128 := by
 induction z using digs.induct with
 | case1 z h => rw [digs_small h]; simp; exact h
 | case2 z h ih =>
  rw [digs_big (by omega)]
  intro x hx
  rcases List.mem_cons.1 hx with rfl | hx
  · omega
  · exact ih x hx
theorem digs_length : ∀ (k z : Nat), z < 128 ^ (k + 1) → (digs z).length ≤ k + 1
 | 0, z, h => by rw [digs_small (by simpa using h)]; simp
 | k + 1, z, h => by
  by_cases hx : z < 128
  · rw [digs_small hx]; simp
  · rw [digs_big (by omega), List.length_cons]
    have := digs_length k (z / 128) (by rw [Nat.pow_succ] at h; exact Nat.div_lt_of_lt_mul (by rw [Nat.mul_comm]; exact h))
    omega
theorem digs_pos (z : Nat) : 1 ≤ (digs z).length := by
 by_cases hx : z < 128
 · rw [digs_small hx]; simp
 · rw [digs_big (by omega)]; simp
theorem digs_length9 {z : Nat} (h : z < 9223372036854775808) : (digs z).length ≤ 9 :=
 digs_length 8 z (Nat.lt_of_lt_of_le h (by decide))
theorem digs_last (z : Nat) : ∃ m d, (digs z).length = m + 1 ∧ (digs z)[m]? = some d := by
 have h := digs_pos z
 obtain ⟨m, hm⟩ : ∃ m, (digs z).length = m + 1 := ⟨(digs z).length - 1, by omega⟩
 exact ⟨m, (digs z)[m], hm, List.getElem?_eq_getElem _⟩
theorem uvarint_get (z : Nat) : (uvarint z).length = (digs z).length ∧
 ∀ i (h : i < (digs z).length) (h' : i < (uvarint z).length), ((uvarint z)[i].toNat : Nat) = if i + 1 < (digs z).length then (digs z)[i] + 128 else (digs z)[i] := by
 induction z using digs.induct with
 | case1 z hz =>
  rw [digs_small hz, uvarint_small hz]
  refine ⟨rfl, fun i h h' => ?_⟩
  have : i = 0 := by simpa using h
  subst this
  simp
  omega
 | case2 z hz ih =>
  rw [digs_big (by omega), uvarint_big (by omega)]
  refine ⟨by simp [ih.1], fun i h h' => ?_⟩
  cases i with
  | zero =>
   have := digs_pos (z / 128)
   simp only [List.getElem_cons_zero, List.length_cons]
   rw [if_pos (by omega)]
   simp
   omega
  | succ i =>
   simp only [List.getElem_cons_succ, List.length_cons]
   rw [ih.2 i (by simpa using h) (by simpa using h')]
   simp
theorem uvarint_size (z : Nat) : (uvarint z).length = (digs z).length := (uvarint_get z).1
def maxZ : Nat := 9223372036854775806
def scan (i acc : Nat) : List UInt8 → Option (Nat × Nat)
 | [] => none
 | b :: l =>
  if 9 ≤ i then none
  else if 128 ≤ b.toNat then scan (i + 1) (acc + b.toNat % 128 * 2 ^ (7 * i)) l
  else if (b.toNat = 0 ∧ 0 < i) ∨ maxZ < acc + b.toNat * 2 ^ (7 * i) then none
  else some (acc + b.toNat * 2 ^ (7 * i), i + 1)
theorem pow_step (i : Nat) : 2 ^ (7 * (i + 1)) = 128 * 2 ^ (7 * i) := by
 rw [show 7 * (i + 1) = 7 * i + 7 by omega, Nat.pow_add]; omega
theorem scan_enc : ∀ (y i acc : Nat) (q : List UInt8), i + (uvarint y).length ≤ 9 → acc + y * 2 ^ (7 * i) ≤ maxZ → (0 < i → 0 < y) →
 scan i acc (uvarint y ++ q) = some (acc + y * 2 ^ (7 * i), i + (uvarint y).length) := by
 intro y
 induction y using digs.induct with
 | case1 y hy =>
  intro i acc q h9 hm hp
  rw [uvarint_small hy] at h9 ⊢
  have e : (y.toUInt8).toNat = y := by simp; omega
  simp only [List.cons_append, List.nil_append, scan, e]
  simp only [List.length_cons, List.length_nil] at h9 ⊢
  rw [if_neg (by omega), if_neg (by omega), if_neg]
  intro h
  rcases h with ⟨h1, h2⟩ | h
  · have := hp h2; omega
  · omega
 | case2 y hy ih =>
  intro i acc q h9 hm hp
  rw [uvarint_big (by omega)] at h9 ⊢
  have e : ((y % 128 + 128).toUInt8).toNat = y % 128 + 128 := by simp; omega
  simp only [List.cons_append, scan, e]
  simp only [List.length_cons] at h9 ⊢
  have hs : acc + (y % 128 + 128) % 128 * 2 ^ (7 * i) + y / 128 * 2 ^ (7 * (i + 1)) = acc + y * 2 ^ (7 * i) := by
   rw [pow_step, show (y % 128 + 128) % 128 = y % 128 by omega]
   have : y * 2 ^ (7 * i) = (y % 128 + 128 * (y / 128)) * 2 ^ (7 * i) := by rw [Nat.mod_add_div]
   rw [this, Nat.add_mul, show 128 * (y / 128) * 2 ^ (7 * i) = y / 128 * (128 * 2 ^ (7 * i)) by rw [← Nat.mul_assoc]; congr 1; omega]
   omega
  rw [if_neg (by omega), if_pos (by omega), ih (i + 1) _ q (by omega) (by rw [hs]; exact hm) (by intro _; omega), hs]
  congr 2
  omega
theorem scan_sound : ∀ (l : List UInt8) (i acc z n : Nat), scan i acc l = some (z, n) →
 ∃ y, z = acc + y * 2 ^ (7 * i) ∧ n = i + (uvarint y).length ∧ uvarint y <+: l ∧ (0 < i → 0 < y) ∧ z ≤ maxZ ∧ n ≤ 9 := by
 intro l
 induction l with
 | nil => intro i acc z n h; simp [scan] at h
 | cons b l ih =>
  intro i acc z n h
  have hb : b.toNat < 256 := b.toNat_lt
  simp only [scan] at h
  by_cases h9 : 9 ≤ i
  · rw [if_pos h9] at h; cases h
  · rw [if_neg h9] at h
    by_cases hbig : 128 ≤ b.toNat
    · rw [if_pos hbig] at h
      obtain ⟨y, hz, hn, hp, hpos, hm, hn9⟩ := ih _ _ _ _ h
      have hy : 0 < y := hpos (by omega)
      have hby : uvarint (y * 128 + b.toNat % 128) = b :: uvarint y := by
       rw [uvarint_big (by omega), show (y * 128 + b.toNat % 128) / 128 = y by omega, show (y * 128 + b.toNat % 128) % 128 + 128 = b.toNat by omega]
       simp
      refine ⟨y * 128 + b.toNat % 128, ?_, ?_, ?_, ?_, hm, hn9⟩
      · rw [hz, pow_step, Nat.add_mul, show y * (128 * 2 ^ (7 * i)) = y * 128 * 2 ^ (7 * i) by rw [Nat.mul_assoc]]
        omega
      · rw [hby, List.length_cons]; omega
      · rw [hby]; exact List.cons_prefix_cons.2 ⟨rfl, hp⟩
      · intro _; omega
    · rw [if_neg hbig] at h
      by_cases hbad : (b.toNat = 0 ∧ 0 < i) ∨ maxZ < acc + b.toNat * 2 ^ (7 * i)
      · rw [if_pos hbad] at h; cases h
      · rw [if_neg hbad] at h
        simp only [Option.some.injEq, Prod.mk.injEq] at h
        obtain ⟨rfl, rfl⟩ := h
        refine ⟨b.toNat, rfl, ?_, ?_, ?_, ?_, ?_⟩
        · rw [uvarint_small (by omega)]; rfl
        · rw [uvarint_small (by omega)]; simp
        · intro hi
          rcases Nat.eq_zero_or_pos b.toNat with h0 | h0
          · exact absurd (.inl ⟨h0, hi⟩) hbad
          · exact h0
        · rcases Nat.lt_or_ge maxZ (acc + b.toNat * 2 ^ (7 * i)) with h0 | h0
          · exact absurd (.inr h0) hbad
          · exact h0
        · omega
theorem uvarint_length9 {z : Nat} (h : z ≤ maxZ) : (uvarint z).length ≤ 9 := by
 rw [uvarint_size]; exact digs_length9 (by unfold maxZ at h; omega)
theorem scan_of_enc {z : Nat} (h : z ≤ maxZ) (q : List UInt8) : scan 0 0 (uvarint z ++ q) = some (z, (uvarint z).length) := by
 have := scan_enc z 0 0 q (by have := uvarint_length9 h; omega) (by simpa using h) (by omega)
 simpa using this
theorem scan_is_enc {l : List UInt8} {z n : Nat} (h : scan 0 0 l = some (z, n)) : z ≤ maxZ ∧ n = (uvarint z).length ∧ uvarint z <+: l := by
 obtain ⟨y, hz, hn, hp, _, hm, _⟩ := scan_sound l 0 0 z n h
 have : z = y := by simpa using hz
 subst this
 exact ⟨hm, by simpa using hn, hp⟩
def unz (u : Nat) : Int := if u % 2 = 0 then ((u / 2 : Nat) : Int) else -((u / 2 : Nat) : Int) - 1
theorem unz_zigzag (x : Int) : unz (zigzag x) = x := by
 unfold unz zigzag
 split <;> split <;> omega
theorem zigzag_unz (u : Nat) : zigzag (unz u) = u := by
 unfold unz zigzag
 split <;> split <;> omega
theorem zigzag_le {x : Int} (h0 : -4611686018427387903 ≤ x) (h1 : x ≤ 4611686018427387903) : zigzag x ≤ maxZ := by
 unfold zigzag maxZ; split <;> omega
theorem unz_range {u : Nat} (h : u ≤ maxZ) : -4611686018427387903 ≤ unz u ∧ unz u ≤ 4611686018427387903 := by
 unfold unz; unfold maxZ at h; split <;> omega
end Go.Proofs.YtnpfhcnjkekhbaaGreatDoor.W1
