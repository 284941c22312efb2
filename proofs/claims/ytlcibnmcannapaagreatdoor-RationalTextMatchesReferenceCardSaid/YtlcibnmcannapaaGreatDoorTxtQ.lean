/-
  Facts of texts of fractions: what RationalTextMatchesReference compares.
-/
import Derived.Test.YtlcibnmcannapaaGreatDoorFourQ
import Derived.Test.YtlcibnmcannapaaGreatDoorTextQ
import Derived.Test.YtlcibnmcannapaaGreatDoorRefP
import Derived.Test.YtlcibnmcannapaaGreatDoorCutQ
namespace Go.Proofs.YtlcibnmcannapaaGreatDoor
open Go Go.Proofs Go.RowKit Go.Lib

theorem printB_size (n d : ByteArray) : (printB n d).size ≤ n.size + d.size + 1 := by
  unfold printB
  split
  · split
    · omega
    · simp only [ByteArray.size_append]
      show n.size + 1 + d.size ≤ _
      omega
  · show (ByteArray.empty).size ≤ _
    exact Nat.zero_le _
theorem valid_pos {n d : ByteArray} (h : validQ n d = true) : 0 < n.size := by
  obtain ⟨h1, _⟩ := validQ_parts h
  rcases Nat.eq_zero_or_pos n.size with h0 | h0
  · have e : n = ⟨#[]⟩ := ByteArray.ext (Array.eq_empty_of_size_eq_zero h0)
    rw [e] at h1
    exact absurd h1 (by decide +kernel)
  · exact h0
theorem printB_pos {n d : ByteArray} (h : validQ n d = true) : 0 < (printB n d).size := by
  have := valid_pos h
  unfold printB
  rw [if_pos h]
  split
  · exact this
  · simp only [ByteArray.size_append]
    omega
/-- What Print and Parse answer of a fraction's texts. -/
theorem text_yes {n d : ByteArray} (h : validQ n d = true) : parN (printB n d) = n ∧ parD (printB n d) = d ∧ parE (printB n d) = 0 := by
  obtain ⟨h1, h2, h3⟩ := parse_print h
  unfold parN parD parE
  rw [h1, h2, h3]
  exact ⟨rfl, rfl, rfl⟩
theorem parse_empty : parN ⟨#[]⟩ = ⟨#[]⟩ ∧ parD ⟨#[]⟩ = ⟨#[]⟩ ∧ parE ⟨#[]⟩ = 40 := by
  have h : parseB ⟨#[]⟩ = false := by decide +kernel
  unfold parN parD parE
  rw [h]
  exact ⟨rfl, rfl, rfl⟩
theorem text_no {n d : ByteArray} (h : validQ n d = false) : printB n d = ⟨#[]⟩ := by unfold printB; rw [h]; rfl
theorem list_ne {s : ByteArray} (h : 0 < s.size) : ¬ s.toList = [] ∧ s.toList.isEmpty = false := by
  rw [ByteArray.toList_eq]
  have h2 : s.data.toList ≠ [] := by
    intro e
    have : s.data.toList.length = 0 := by rw [e]; rfl
    rw [Array.length_toList] at this
    have h3 : s.data.size = 0 := this
    have : s.size = 0 := h3
    omega
  exact ⟨h2, by cases hx : s.data.toList with | nil => exact absurd hx h2 | cons => rfl⟩
/-- What Parse accepts is the text of what it returns. -/
theorem par_yes {s : ByteArray} (h : parseB s = true) : parE s = 0 ∧ printB (parN s) (parD s) = s := by
  have h2 := h
  unfold parseB at h2
  rw [Bool.and_eq_true] at h2
  unfold parE parN parD
  rw [h]
  exact ⟨rfl, of_decide_eq_true h2.2⟩
theorem par_no {s : ByteArray} (h : parseB s = false) : parE s = 40 := by unfold parE; rw [h]; rfl
theorem par_size (s : ByteArray) : (parN s).size ≤ s.size ∧ (parD s).size ≤ s.size + 1 := by
  have h1 := cutN_size s
  have h2 := cutD_size s
  unfold parN parD
  split
  · exact ⟨h1, h2⟩
  · exact ⟨Nat.zero_le _, Nat.zero_le _⟩

end Go.Proofs.YtlcibnmcannapaaGreatDoor
