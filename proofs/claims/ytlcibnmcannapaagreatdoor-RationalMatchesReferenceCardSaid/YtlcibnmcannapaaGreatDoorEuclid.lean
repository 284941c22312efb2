/-
  Plain mathematics of layer 4: comparing fractions by whole parts and remainders; what Print and Parse answer.
-/
import Derived.Test.YtlcibnmcannapaaGreatDoorRat
namespace Go.Proofs.YtlcibnmcannapaaGreatDoor

theorem sgZ_add (x y z : Int) : sgZ (x + z) (y + z) = sgZ x y := by unfold sgZ; split <;> (try split) <;> (try split) <;> (try split) <;> omega
theorem sgZ_swap (x y : Int) : sgZ x y = - sgZ y x := by unfold sgZ; split <;> (try split) <;> (try split) <;> omega
theorem sgZ_lt {x y : Int} (h : x < y) : sgZ x y = -1 := by unfold sgZ; rw [if_pos h]
theorem sgZ_gt {x y : Int} (h : y < x) : sgZ x y = 1 := by unfold sgZ; rw [if_neg (by omega), if_pos h]
theorem sgZ_self (x : Int) : sgZ x x = 0 := by unfold sgZ; rw [if_neg (by omega), if_neg (by omega)]
theorem sgZ_zero {x y : Int} : sgZ x y = 0 ↔ x = y := by unfold sgZ; split <;> (try split) <;> omega
theorem whole_lt {n d m c : Int} (hd : 0 < d) (hc : 0 < c) (h : n / d < m / c) : n * c < m * d := by
  have hn : n = n / d * d + n % d := (Int.ediv_mul_add_emod n d).symm
  have hm : m = m / c * c + m % c := (Int.ediv_mul_add_emod m c).symm
  have hr := Int.emod_lt_of_pos n hd
  have hs := Int.emod_nonneg m (show c ≠ 0 by omega)
  have h1 : n < (n / d + 1) * d := by rw [Int.add_mul]; omega
  have h2 : m / c * c ≤ m := by omega
  have h3 : n * c < (n / d + 1) * d * c := Int.mul_lt_mul_of_pos_right h1 hc
  have h4 : m / c * c * d ≤ m * d := Int.mul_le_mul_of_nonneg_right h2 (by omega)
  have h5 : (n / d + 1) * (d * c) ≤ m / c * (d * c) := Int.mul_le_mul_of_nonneg_right (by omega) (Int.le_of_lt (Int.mul_pos hd hc))
  have e1 : (n / d + 1) * d * c = (n / d + 1) * (d * c) := Int.mul_assoc _ _ _
  have e2 : m / c * c * d = m / c * (d * c) := by rw [Int.mul_assoc, Int.mul_comm c d]
  omega
theorem whole_ne {n d m c : Int} (hd : 0 < d) (hc : 0 < c) (h : n / d ≠ m / c) : sgZ (n * c) (m * d) = sgZ (n / d) (m / c) := by
  rcases Int.lt_or_gt_of_ne h with h1 | h1
  · rw [sgZ_lt h1, sgZ_lt (whole_lt hd hc h1)]
  · rw [sgZ_gt h1, sgZ_gt (whole_lt hc hd h1)]
theorem whole_eq {n d m c : Int} (h : n / d = m / c) : sgZ (n * c) (m * d) = sgZ (n % d * c) (m % c * d) := by
  have hn : n * c = n % d * c + n / d * d * c := by rw [← Int.add_mul, Int.add_comm, Int.ediv_mul_add_emod]
  have hm : m * d = m % c * d + m / c * c * d := by rw [← Int.add_mul, Int.add_comm, Int.ediv_mul_add_emod]
  have e : m / c * c * d = n / d * d * c := by rw [h, Int.mul_assoc, Int.mul_comm c d, Int.mul_assoc]
  rw [hn, hm, e, sgZ_add]
def zOr (x : Int) : Int := if x = 0 then 0 else 1
theorem rest_end {r s d c : Int} (hd : 0 < d) (hc : 0 < c) (hr : 0 ≤ r) (hs : 0 ≤ s) (h : r = 0 ∨ s = 0) : sgZ (r * c) (s * d) = sgZ (zOr r) (zOr s) := by
  by_cases h1 : r = 0
  · by_cases h2 : s = 0
    · subst h1; subst h2; simp [zOr, sgZ]
    · subst h1
      have : 0 < s * d := Int.mul_pos (by omega) hd
      rw [Int.zero_mul, sgZ_lt this]
      unfold zOr
      rw [if_pos rfl, if_neg h2]; rfl
  · have h2 : s = 0 := h.resolve_left h1
    subst h2
    have : 0 < r * c := Int.mul_pos (by omega) hc
    rw [Int.zero_mul, sgZ_gt this]
    unfold zOr
    rw [if_pos rfl, if_neg h1]; rfl
theorem rest_flip (r s d c : Int) : sgZ (r * c) (s * d) = - sgZ (d * s) (c * r) := by
  rw [sgZ_swap, Int.mul_comm s d, Int.mul_comm r c]

/-- A text of its own length without a slash, or what stands ahead of the first slash and behind it. -/
def slashAt (s : ByteArray) : Nat := (bytesL s).findIdx (· == 47)
def cutN (s : ByteArray) : ByteArray := if slashAt s < s.size then s.extract 0 (slashAt s) else s
def cutD (s : ByteArray) : ByteArray := if slashAt s < s.size then s.extract (slashAt s + 1) s.size else ⟨#[49]⟩
/-- What Print returns. -/
def printB (n d : ByteArray) : ByteArray := if validQ n d then (if d = ⟨#[49]⟩ then n else n ++ ⟨#[47]⟩ ++ d) else ByteArray.empty
/-- What Parse accepts. -/
def parseB (s : ByteArray) : Bool := validQ (cutN s) (cutD s) && decide (printB (cutN s) (cutD s) = s)
theorem slashAt_le (s : ByteArray) : slashAt s ≤ s.size := by
  unfold slashAt
  rw [← bytesL_length]
  exact List.findIdx_le_length
theorem no_slash {s : ByteArray} (h : ∀ i (hi : i < s.size), (s[i]'hi).toNat ≠ 47) : slashAt s = s.size := by
  unfold slashAt
  rw [← bytesL_length, List.findIdx_eq_length]
  intro x hx
  obtain ⟨i, hi, rfl⟩ := List.getElem_of_mem hx
  rw [bytesL_length] at hi
  rw [bytesL_get s i hi]
  simpa using h i hi
theorem slash_here {s : ByteArray} {k : Nat} (hk : k < s.size) (h : ∀ i (hi : i < s.size), i < k → (s[i]'hi).toNat ≠ 47) (h1 : (s[k]'hk).toNat = 47) : slashAt s = k := by
  unfold slashAt
  rw [List.findIdx_eq (by rw [bytesL_length]; exact hk)]
  refine ⟨by rw [bytesL_get s k hk]; simp [h1], fun j hj => ?_⟩
  rw [bytesL_get s j (by omega)]
  simpa using h j (by omega) hj
theorem cutN_size (s : ByteArray) : (cutN s).size ≤ s.size := by unfold cutN; split <;> (try rw [ByteArray.size_extract]) <;> omega
theorem cutD_size (s : ByteArray) : (cutD s).size ≤ s.size + 1 := by
  unfold cutD; split
  · rw [ByteArray.size_extract]; omega
  · show 1 ≤ _; omega
theorem textI_bytes (x : Int) : ∀ z ∈ bytesL (textI x), z = 45 ∨ 48 ≤ z ∧ z < 58 := by
  intro z hz
  rw [bytesL_textI] at hz
  rcases List.mem_append.1 hz with h | h
  · split at h
    · left; simpa using h
    · simp at h
  · right; exact textN_dig _ z h
theorem bytesL_append (s t : ByteArray) : bytesL (s ++ t) = bytesL s ++ bytesL t := by simp [bytesL]
theorem bytesL_inj {s t : ByteArray} (h : bytesL s = bytesL t) : s = t := by rw [← byteL_bytesL s, ← byteL_bytesL t, h]
/-- A valid fraction is parsed from its text. -/
theorem parse_print {n d : ByteArray} (h : validQ n d = true) : parseB (printB n d) = true ∧ cutN (printB n d) = n ∧ cutD (printB n d) = d := by
  obtain ⟨_, hn, hd⟩ := text_validQ h
  have hN : ∀ z ∈ bytesL n, z ≠ 47 := by
    intro z hz; rw [hn] at hz; have := textI_bytes _ z hz; omega
  have key : cutN (printB n d) = n ∧ cutD (printB n d) = d := by
    by_cases h1 : d = ⟨#[49]⟩
    · have e : printB n d = n := by unfold printB; rw [if_pos h, if_pos h1]
      have e2 : slashAt n = n.size := by
        unfold slashAt
        rw [← bytesL_length, List.findIdx_eq_length]
        intro x hx
        simpa using hN x hx
      rw [e]
      unfold cutN cutD
      rw [if_neg (by omega), if_neg (by omega)]
      exact ⟨rfl, h1.symm⟩
    · have e : printB n d = n ++ ⟨#[47]⟩ ++ d := by unfold printB; rw [if_pos h, if_neg h1]
      have el : bytesL (n ++ ⟨#[47]⟩ ++ d) = bytesL n ++ 47 :: bytesL d := by rw [bytesL_append, bytesL_append, List.append_assoc]; rfl
      have e2 : slashAt (n ++ ⟨#[47]⟩ ++ d) = n.size := by
        unfold slashAt
        rw [el, List.findIdx_append, List.findIdx_eq_length.2 (fun x hx => by simpa using hN x hx), bytesL_length, List.findIdx_cons]
        simp
      have e3 : (n ++ ⟨#[47]⟩ ++ d).size = n.size + (1 + d.size) := by rw [ByteArray.size_append, ByteArray.size_append, Nat.add_assoc]; rfl
      rw [e]
      unfold cutN cutD
      rw [e2, e3, if_pos (by omega), if_pos (by omega)]
      refine ⟨?_, ?_⟩
      · rw [ByteArray.append_assoc, ByteArray.extract_append_eq_left rfl]
      · rw [ByteArray.extract_append_eq_right (by rw [ByteArray.size_append]; rfl) (by rw [ByteArray.size_append, Nat.add_assoc]; rfl)]
  refine ⟨?_, key⟩
  unfold parseB
  rw [key.1, key.2, h]
  simp
end Go.Proofs.YtlcibnmcannapaaGreatDoor
