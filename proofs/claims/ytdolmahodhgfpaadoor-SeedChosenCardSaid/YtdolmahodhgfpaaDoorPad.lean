/-
  Plain mathematics of digest.blocks: where the blocks of the extended list come from.
-/
import Derived.Test.YtdolmahodhgfpaaDoorCells
namespace Go.Proofs.YtdolmahodhgfpaaDoor

theorem cutB_length : ∀ (n : Nat) (l : List Nat), (cutB l n).length = n
  | 0, _ => rfl
  | n + 1, l => by simp [cutB, cutB_length n]
theorem cutB_succ : ∀ (n : Nat) (l : List Nat), cutB l (n + 1) = cutB l n ++ [(l.drop (64 * n)).take 64]
  | 0, l => by simp [cutB]
  | n + 1, l => by
    rw [cutB, cutB_succ n (l.drop 64), cutB, List.drop_drop, List.cons_append]
    rw [show 64 + 64 * n = 64 * (n + 1) by omega]
theorem cutB_prefix (l : List Nat) (m : Nat) : ∀ n, m ≤ n → cutB l m <+: cutB l n
  | 0, h => by
    have : m = 0 := by omega
    subst this; exact List.prefix_refl _
  | n + 1, h => by
    by_cases e : m = n + 1
    · subst e; exact List.prefix_refl _
    · rw [cutB_succ n l]
      exact (cutB_prefix l m n (by omega)).trans (List.prefix_append _ _)

/-- Block e of the extended list. -/
def blk (M : List Nat) (e : Nat) : List Nat := ((shaPad M).drop (64 * e)).take 64
/-- The number of blocks. -/
def nblk (M : List Nat) : Nat := (shaPad M).length / 64
theorem nblk_eq (M : List Nat) : nblk M = M.length / 64 + (if M.length % 64 < 56 then 1 else 2) := by
  unfold nblk; rw [shaPad_length]; unfold padZ; split <;> omega
theorem blocks_step (M : List Nat) (e : Nat) (h : e < nblk M) : cutB (shaPad M) e ++ [blk M e] <+: shaBlocks M := by
  unfold blk; rw [← cutB_succ]; exact cutB_prefix _ _ _ h
theorem blocks_all (M : List Nat) : cutB (shaPad M) (nblk M) = shaBlocks M := rfl
theorem blk_next (M : List Nat) (e : Nat) : cutB (shaPad M) (e + 1) = cutB (shaPad M) e ++ [blk M e] := cutB_succ _ _

/-- A block inside the list. -/
theorem blk_in (M : List Nat) (e : Nat) (h : 64 * (e + 1) ≤ M.length) : blk M e = (M.drop (64 * e)).take 64 := by
  unfold blk shaPad
  rw [List.drop_append_of_le_length (by omega), List.take_append_of_le_length (by simp; omega)]
/-- The block in which the list ends. -/
theorem blk_end_lo (M : List Nat) (h : M.length % 64 < 56) : blk M (M.length / 64) = M.drop (64 * (M.length / 64)) ++ (128 :: (List.replicate (55 - M.length % 64) 0 ++ be8 (8 * M.length))) := by
  have h1 : padZ M.length = 55 - M.length % 64 := by unfold padZ; omega
  unfold blk shaPad
  rw [List.drop_append_of_le_length (by omega), h1]
  exact List.take_of_length_le (by simp [be8]; omega)
theorem blk_end_hi (M : List Nat) (h : 56 ≤ M.length % 64) : blk M (M.length / 64) = M.drop (64 * (M.length / 64)) ++ (128 :: List.replicate (63 - M.length % 64) 0) := by
  have h1 : padZ M.length = 119 - M.length % 64 := by unfold padZ; omega
  have e : List.replicate (119 - M.length % 64) 0 = List.replicate (63 - M.length % 64) 0 ++ List.replicate 56 0 := by rw [List.replicate_append_replicate]; congr 1; omega
  unfold blk shaPad
  rw [List.drop_append_of_le_length (by omega), h1, e]
  rw [show M.drop (64 * (M.length / 64)) ++ (128 :: (List.replicate (63 - M.length % 64) 0 ++ List.replicate 56 0 ++ be8 (8 * M.length))) = (M.drop (64 * (M.length / 64)) ++ (128 :: List.replicate (63 - M.length % 64) 0)) ++ (List.replicate 56 0 ++ be8 (8 * M.length)) by simp [List.append_assoc]]
  rw [List.take_append_of_le_length (by simp; omega)]
  exact List.take_of_length_le (by simp; omega)
theorem blk_last_hi (M : List Nat) (h : 56 ≤ M.length % 64) : blk M (M.length / 64 + 1) = List.replicate 56 0 ++ be8 (8 * M.length) := by
  have h1 : padZ M.length = 119 - M.length % 64 := by unfold padZ; omega
  have e : List.replicate (119 - M.length % 64) 0 = List.replicate (63 - M.length % 64) 0 ++ List.replicate 56 0 := by rw [List.replicate_append_replicate]; congr 1; omega
  unfold blk shaPad
  rw [h1, e]
  rw [show M ++ (128 :: (List.replicate (63 - M.length % 64) 0 ++ List.replicate 56 0 ++ be8 (8 * M.length))) = (M ++ (128 :: List.replicate (63 - M.length % 64) 0)) ++ (List.replicate 56 0 ++ be8 (8 * M.length)) by simp [List.append_assoc]]
  rw [List.drop_left' (by simp; omega)]
  exact List.take_of_length_le (by simp [be8])
theorem blk_length (M : List Nat) (e : Nat) (h : e < nblk M) : (blk M e).length = 64 := by
  unfold blk
  have := shaPad_mod M
  unfold nblk at h
  simp; omega
theorem be8_lt (n : Nat) : ∀ x ∈ be8 n, x < 256 := by
  intro x hx
  simp only [be8, List.mem_map] at hx
  obtain ⟨i, _, rfl⟩ := hx
  exact Nat.mod_lt _ (by decide)
theorem shaPad_lt {M : List Nat} (h : ∀ x ∈ M, x < 256) : ∀ x ∈ shaPad M, x < 256 := by
  intro x hx
  simp only [shaPad, List.mem_append, List.mem_cons, List.mem_replicate] at hx
  rcases hx with hx | rfl | ⟨_, rfl⟩ | hx
  · exact h x hx
  · decide
  · decide
  · exact be8_lt _ x hx
theorem blk_lt {M : List Nat} (h : ∀ x ∈ M, x < 256) (e : Nat) : ∀ x ∈ blk M e, x < 256 := fun x hx => shaPad_lt h x (List.mem_of_mem_drop (List.mem_of_mem_take hx))
theorem mem_blocks {M : List Nat} (h : ∀ x ∈ M, x < 256) : ∀ b ∈ shaBlocks M, b.length = 64 ∧ ∀ x ∈ b, x < 256 := by
  have : ∀ n, n ≤ nblk M → ∀ b ∈ cutB (shaPad M) n, b.length = 64 ∧ ∀ x ∈ b, x < 256 := by
    intro n
    induction n with
    | zero => intro _ b hb; simp [cutB] at hb
    | succ n ih =>
      intro hn b hb
      rw [cutB_succ] at hb
      rcases List.mem_append.1 hb with hb | hb
      · exact ih (by omega) b hb
      · have : b = blk M n := by simpa [blk] using hb
        subst this
        exact ⟨blk_length M n (by omega), blk_lt h n⟩
  exact this _ (Nat.le_refl _)

/-- The last eight bytes, the last i of them set. -/
def tailB (l : List Nat) (n i : Nat) : List Nat := l.take (64 - i) ++ (be8 n).drop (8 - i)
theorem tailB_zero (l : List Nat) (n : Nat) (h : l.length = 64) : tailB l n 0 = l := by
  unfold tailB; rw [List.take_of_length_le (by omega), List.drop_of_length_le (by simp [be8]), List.append_nil]
theorem tailB_length (l : List Nat) (n i : Nat) (h : l.length = 64) (hi : i ≤ 8) : (tailB l n i).length = 64 := by
  simp [tailB, be8]; omega
theorem tailB_step (l : List Nat) (n i : Nat) (h : l.length = 64) (hi : i < 8) : (tailB l n i).set (63 - i) (n / 2 ^ (8 * i) % 256) = tailB l n (i + 1) := by
  unfold tailB
  have e1 : l.take (64 - i) = l.take (64 - (i + 1)) ++ [l[63 - i]'(by omega)] := by
    rw [show 64 - i = (63 - i) + 1 by omega, List.take_succ_eq_append_getElem (by omega), show 64 - (i + 1) = 63 - i by omega]
  have e2 : (be8 n).drop (8 - (i + 1)) = (n / 2 ^ (8 * i) % 256) :: (be8 n).drop (8 - i) := by
    rw [List.drop_eq_getElem_cons (by simp [be8]; omega), show 8 - (i + 1) + 1 = 8 - i by omega]
    congr 1
    simp only [be8, List.getElem_map, List.getElem_range]
    rw [show 7 - (8 - (i + 1)) = i by omega, show (256 : Nat) = 2 ^ 8 by rfl, ← Nat.pow_mul]
  rw [e1, e2, List.append_assoc, List.set_append_right _ _ (by simp; omega)]
  rw [show 63 - i - (l.take (64 - (i + 1))).length = 0 by simp; omega]
  rfl
theorem tailB_end (l : List Nat) (n : Nat) : tailB l n 8 = l.take 56 ++ be8 n := by unfold tailB; simp
end Go.Proofs.YtdolmahodhgfpaaDoor
