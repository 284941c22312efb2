/-
  The contracts of digest.areDigests, value and twoValues.
-/
import Derived.Test.YtdolmahodhgfpaaDoorRoot
namespace Go.Proofs.YtdolmahodhgfpaaDoor
open Go Go.Proofs Go.RowKit Go.Lib

/-- What a slice of strings holds. -/
def Holds (W : World) (ad : Option Addr) (cap : Nat) (l : List ByteArray) : Prop :=
  l.length ≤ cap ∧ l.length ≤ 1099511627776 ∧ (l = [] ∨ ∃ b o, ad = some ⟨b, o, none⟩ ∧ b < W.heap.size ∧ StrsAt W b o l)
theorem Holds.below {n : Nat} {W W' : World} {ad : Option Addr} {cap : Nat} {l : List ByteArray} (h : Holds W ad cap l) (hb : Below n W W') (hn : W.heap.size ≤ n) : Holds W' ad cap l := by
  obtain ⟨h1, h2, h3⟩ := h
  refine ⟨h1, h2, h3.imp id ?_⟩
  rintro ⟨b, o, rfl, hlt, hs⟩
  exact ⟨b, o, rfl, Nat.lt_of_lt_of_le hlt hb.size, hs.below hb (by omega)⟩
theorem Holds.nil (W : World) (ad : Option Addr) : Holds W ad 0 [] := ⟨Nat.le_refl _, by simp, .inl rfl⟩
theorem Holds.at {W : World} {ad : Option Addr} {cap : Nat} {l : List ByteArray} (h : Holds W ad cap l) (h0 : 0 < l.length) : ∃ b o, ad = some ⟨b, o, none⟩ ∧ b < W.heap.size ∧ StrsAt W b o l := by
  rcases h.2.2 with rfl | h
  · simp at h0
  · exact h

theorem allDig_take (l : List ByteArray) (k : Nat) (h : k < l.length) : allDig (l.take (k + 1)) = (allDig (l.take k) && decide ((l[k]).size = 32)) := by
  rw [List.take_succ_eq_append_getElem h]
  simp only [allDig, List.all_append, List.all_cons, List.all_nil, Bool.and_true]
  congr 1
theorem allDig_false (l : List ByteArray) (k : Nat) (h : k < l.length) (hs : ¬ (l[k]).size = 32) : allDig l = false := by
  unfold allDig
  rw [List.all_eq_false]
  exact ⟨l[k], List.getElem_mem _, by simpa using hs⟩

theorem ret_bool {a b : Bool} (h : a = b) : Ending.returned (.bool a) = .returned (.bool b) := by rw [h]
/-- What value leaves. -/
def ValPost (w : World) (n i : Nat) (s : ByteArray) (p : List ByteArray) (e : Ending) (w' : World) : Prop :=
  ∃ (v : ByteArray) (ok : Bool), e = .returned (.tuple #[.string v, .bool ok]) ∧ valF n i s p = (if ok then some v else none) ∧ v.size ≤ 32 ∧ Below w.heap.size w w'
theorem valF_nil (n i : Nat) (s : ByteArray) : valF n i s [] = if n = 1 then some (leafF s) else none := rfl
theorem valF_snoc (n i : Nat) (s : ByteArray) (q : List ByteArray) (x : ByteArray) : valF n i s (q ++ [x]) = if n ≤ 1 then none
    else if i < splitN n then (valF (splitN n) i s q).map fun v => nodeF v x else (valF (n - splitN n) (i - splitN n) s q).map fun v => nodeF x v := by
  unfold valF; rw [List.reverse_append]; rfl
theorem last_of {l : List ByteArray} (h : 0 < l.length) : ∃ q x, l = q ++ [x] ∧ q.length = l.length - 1 := by
  have hne : l ≠ [] := by intro e; subst e; simp at h
  exact ⟨l.dropLast, l.getLast hne, (List.dropLast_concat_getLast hne).symm, by simp⟩

end Go.Proofs.YtdolmahodhgfpaaDoor
