/-
  The contract of the statements' helper sane: its fixed examples all hold.
-/
import Derived.Test.YtoaaelnmbpmbeaaDoorHelp
namespace Go.Proofs.YtoaaelnmbpmbeaaDoor
open Go Go.Proofs Go.RowKit Go.Lib

/-! ### The examples, by the kernel -/
def sA : ByteArray := ⟨#[97]⟩
def sB : ByteArray := ⟨#[98]⟩
def sC : ByteArray := ⟨#[99]⟩
def sD : ByteArray := ⟨#[100]⟩
def L3 : List ByteArray := [sA, sB, sC]
theorem split3 : splitN 3 = 2 := by decide
theorem split2 : splitN 2 = 1 := by decide
theorem root2 (a b : ByteArray) : rootF [a, b] = nodeF (leafF a) (leafF b) := by
  have h := rootF_big (l := [a, b]) (by simp)
  rw [show splitN ([a, b] : List ByteArray).length = 1 from split2] at h
  rw [h]
  show nodeF (rootF [a]) (rootF [b]) = _
  rw [rootF_one, rootF_one]
theorem root3 : rootF L3 = nodeF (nodeF (leafF sA) (leafF sB)) (leafF sC) := by
  have h := rootF_big (l := L3) (by decide)
  rw [show splitN L3.length = 2 from split3] at h
  rw [h]
  show nodeF (rootF [sA, sB]) (rootF [sC]) = _
  rw [rootF_one, root2]
theorem proof3 : proofF L3 2 = [nodeF (leafF sA) (leafF sB)] := by
  have h := proofF_hi (l := L3) (by decide) (i := 2) (by rw [show splitN L3.length = 2 from split3]; decide)
  rw [show splitN L3.length = 2 from split3] at h
  rw [h]
  show proofF [sC] 0 ++ [rootF [sA, sB]] = _
  rw [root2, proofF_small (by simp)]; rfl
theorem part3 : partF L3 1 true = [leafF sB, leafF sC] := by
  have h := partF_lo (l := L3) (m := 1) (by decide) (by decide) (by rw [show splitN L3.length = 2 from split3]; decide) true
  rw [show splitN L3.length = 2 from split3] at h
  have h2 := partF_lo (l := [sA, sB]) (m := 1) (by decide) (by simp) (by rw [show splitN ([sA, sB] : List ByteArray).length = 1 from split2]; decide) true
  rw [show splitN ([sA, sB] : List ByteArray).length = 1 from split2] at h2
  have h1 : partF [sA] 1 true = [] := partF_whole (l := [sA])
  rw [h]
  show partF [sA, sB] 1 true ++ [rootF [sC]] = _
  rw [h2]
  show (partF [sA] 1 true ++ [rootF [sB]]) ++ [rootF [sC]] = _
  rw [h1, rootF_one, rootF_one]; rfl
theorem ver_yes : verB (rootF L3) 3 2 sC (proofF L3 2) = true := by
  have h := valF_proof L3 2 (by simp [L3])
  have hd := proofF_dig 3 L3 2 (by simp [L3])
  have e : valF 3 2 sC (proofF L3 2) = some (rootF L3) := h
  unfold verB
  rw [hd]
  simp [e]
theorem val_d : valF 3 2 sD [nodeF (leafF sA) (leafF sB)] = some (nodeF (nodeF (leafF sA) (leafF sB)) (leafF sD)) := by
  simp [valF, valR, split3]
set_option maxRecDepth 100000 in
theorem ne_d : ¬ nodeF (nodeF (leafF sA) (leafF sB)) (leafF sD) = nodeF (nodeF (leafF sA) (leafF sB)) (leafF sC) := by decide +kernel
theorem ver_no : verB (rootF L3) 3 2 sD (proofF L3 2) = false := by
  unfold verB
  rw [proof3, root3]
  have e : valF (3 : Int).toNat (2 : Int).toNat sD [nodeF (leafF sA) (leafF sB)] = some (nodeF (nodeF (leafF sA) (leafF sB)) (leafF sD)) := val_d
  rw [e]
  simp [ne_d]
theorem ext_yes : verX (rootF [sA]) 1 (rootF L3) 3 (partF L3 1 true) = true := by
  have h := twoF_part L3 1 (by decide) (by simp [L3])
  have hd := partF_dig 3 L3 1 true (by simp [L3])
  have e : twoF (rootF [sA]) 1 3 true (partF L3 1 true) = some (rootF [sA], rootF L3) := h
  unfold verX
  rw [hd]
  simp [e, rootF_size]
theorem two_ab : twoF (rootF [sA, sB]) 1 3 true [leafF sB, leafF sC] = some (rootF [sA, sB], nodeF (nodeF (rootF [sA, sB]) (leafF sB)) (leafF sC)) := by
  have h := twoF_snoc (rootF [sA, sB]) (m := 1) (n := 3) (by decide) true [leafF sB] (leafF sC)
  have h2 := twoF_snoc (rootF [sA, sB]) (m := 1) (n := 2) (by decide) true [] (leafF sB)
  have h3 := twoF_whole_nil (rootF [sA, sB]) 1
  simp only [split3, split2, List.cons_append, List.nil_append] at h h2
  rw [h, if_pos (by decide), h2, if_pos (by decide), h3]; rfl
set_option maxRecDepth 100000 in
theorem ne_ab : ¬ nodeF (nodeF (nodeF (leafF sA) (leafF sB)) (leafF sB)) (leafF sC) = nodeF (nodeF (leafF sA) (leafF sB)) (leafF sC) := by decide +kernel
theorem ext_no : verX (rootF [sA, sB]) 1 (rootF L3) 3 (partF L3 1 true) = false := by
  unfold verX
  rw [part3]
  have e : twoF (rootF [sA, sB]) (1 : Int).toNat (3 : Int).toNat true [leafF sB, leafF sC] = some (rootF [sA, sB], nodeF (nodeF (rootF [sA, sB]) (leafF sB)) (leafF sC)) := two_ab
  rw [e, root3, root2]
  simp [ne_ab]
def hexE : ByteArray := ⟨#[101, 51, 98, 48, 99, 52, 52, 50, 57, 56, 102, 99, 49, 99, 49, 52, 57, 97, 102, 98, 102, 52, 99, 56, 57, 57, 54, 102, 98, 57, 50, 52, 50, 55, 97, 101, 52, 49, 101, 52, 54, 52, 57, 98, 57, 51, 52, 99, 97, 52, 57, 53, 57, 57, 49, 98, 55, 56, 53, 50, 98, 56, 53, 53]⟩
def hexABC : ByteArray := ⟨#[98, 97, 55, 56, 49, 54, 98, 102, 56, 102, 48, 49, 99, 102, 101, 97, 52, 49, 52, 49, 52, 48, 100, 101, 53, 100, 97, 101, 50, 50, 50, 51, 98, 48, 48, 51, 54, 49, 97, 51, 57, 54, 49, 55, 55, 97, 57, 99, 98, 52, 49, 48, 102, 102, 54, 49, 102, 50, 48, 48, 49, 53, 97, 100]⟩
set_option maxRecDepth 100000 in
theorem hex_e : hexTo (sha ⟨#[]⟩) 32 = hexE := by decide +kernel
set_option maxRecDepth 100000 in
theorem hex_abc : hexTo (sha ⟨#[97, 98, 99]⟩) 32 = hexABC := by decide +kernel

theorem own_holds {W : World} {base : Nat} {v : Value} {p : List ByteArray} (n : Nat) (h : OwnStrs W base v p) (hn : p.length = n) (hl : n ≤ 1000000) : ∃ ad cap, v = .slice ad n cap ∧ Holds W ad cap p := by
  subst hn
  obtain ⟨_, ⟨rfl, h0⟩ | ⟨g, cap, cur, rfl, hg, hh, h1, h2, h3, h4⟩⟩ := h
  · have hp : p = [] := List.eq_nil_of_length_eq_zero h0
    subst hp
    exact ⟨none, 0, rfl, Nat.le_refl _, by simp, .inl rfl⟩
  · refine ⟨_, cap, rfl, h1, by omega, .inr ⟨g, 0, rfl, (Array.getElem?_eq_some_iff.1 hh).1, fun i hi => ?_⟩⟩
    rw [Nat.zero_add, cell_of_row W g i cur _ _ hh]
    have e : (cur.toList.take (p.length * 1))[i]? = some (.string p[i]) := by rw [h4]; simp [strVals, hi]
    rw [List.getElem?_take_of_lt (by omega)] at e
    simpa using e
theorem L3_small : Small L3 := by
  intro s hs
  simp only [L3, List.mem_cons, List.not_mem_nil, or_false] at hs
  rcases hs with rfl | rfl | rfl <;> decide
theorem small_dig {l : List ByteArray} (h : allDig l = true) : Small l := by
  intro s hs
  have := List.all_eq_true.1 h s hs
  simp at this; omega
end Go.Proofs.YtoaaelnmbpmbeaaDoor
