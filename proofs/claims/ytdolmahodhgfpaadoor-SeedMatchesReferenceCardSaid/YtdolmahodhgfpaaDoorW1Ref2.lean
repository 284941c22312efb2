/-
  The contracts of the reference implementation's Int, PutString and String.
-/
import Derived.Test.YtdolmahodhgfpaaDoorW1Ref1
import Derived.Test.YtdolmahodhgfpaaDoorW1Base
namespace Go.Proofs.YtdolmahodhgfpaaDoor.W1
open Go Go.Proofs Go.RowKit Go.Lib

/-- The bytes read are those of the number's encoding exactly if they are an encoding. -/
theorem ref_same (s : ByteArray) (L : List UInt8) (hL : s.data.toList = L) (p k Z : Nat) (hz : Z ≤ maxZ) {E X : ByteArray} (hE : encS (unz Z) = E) (hX : s.extract p (p + k + 1) = X)
    {c : Prop} [Decidable c] (h : scan 0 0 (L.drop p) = if c then none else some (Z, k + 1)) :
    (E = X → scan 0 0 (L.drop p) = some (Z, k + 1)) ∧ (¬ E = X → scan 0 0 (L.drop p) = none) := by
  subst hE hX hL
  have hX : (s.extract p (p + k + 1)).data.toList = (s.data.toList.drop p).take (k + 1) := by
    rw [Lib.extract_data]; simp; congr 1; omega
  have hE : (encS (unz Z)).data.toList = uvarint Z := by
    show uvarint (zigzag (unz Z)) = _
    rw [zigzag_unz]
  constructor
  · intro e
    have e2 := congrArg (fun b => b.data.toList) e
    simp only [hX, hE] at e2
    have e3 : s.data.toList.drop p = uvarint Z ++ (s.data.toList.drop p).drop (k + 1) := by rw [e2, List.take_append_drop]
    have e4 := scan_of_enc hz ((s.data.toList.drop p).drop (k + 1))
    rw [← e3] at e4
    by_cases hc : c
    · rw [if_pos hc, e4] at h; cases h
    · rw [if_neg hc] at h; exact h
  · intro e
    by_cases hc : c
    · rw [if_pos hc] at h; exact h
    · rw [if_neg hc] at h
      obtain ⟨_, hn, hp⟩ := scan_is_enc h
      exact absurd (bytes_ext (by rw [hX, hE, hn]; exact List.prefix_iff_eq_take.1 hp)) e

set_option maxHeartbeats 1000000 in
theorem refPutString_ok (s : ByteArray) (h : s.size ≤ 65536) (w : World) :
    Calls Tryd.prog 33 #[.string s] w fun e w' => e = .returned (.tuple #[.string (encS s.size ++ s), .int .i64 0]) ∧ Below w.heap.size w w' := by
  have h' : (s.size : Int) ≤ 65536 := by omega
  have hcat : (encS (s.size : Int)).size + s.size ≤ 9223372036854775807 := by have := encS_size_le (s.size : Int) (by omega) (by omega); omega
  go_enter Tryd.func33, Tryd.ntmps33
  go_wp2_with (go_at_call 34; refine (refPut_yes (s.size : Int) (by omega) (by omega) _).mono ?_; rintro e w' ⟨rfl, hb⟩)
  go_ret2
  exact ⟨rfl, hb⟩
end Go.Proofs.YtdolmahodhgfpaaDoor.W1
