/-
  Layer 8: the reference's Find, plain: anchors collected one event after the other.
-/
import Derived.Test.YtamefmojocegkaaDoorK08
import Derived.Test.YtamefmojocegkaaDoorE05
namespace Go.Proofs.YtamefmojocegkaaDoor
open Go Go.Proofs Go.RowKit Go.Lib

/-- The anchors of the first k events. -/
def anK8 (l : List Ev) (x : List Int) (a : Int) (k : Nat) : List An := ((List.range k).filter fun i => (evD l i).ag == a).map fun i => ⟨(evD l i).tm + 1, xD x i + 1⟩
theorem anK8_zero (l : List Ev) (x : List Int) (a : Int) : anK8 l x a 0 = [] := rfl
theorem anK8_all (l : List Ev) (x : List Int) (a : Int) : anK8 l x a l.length = fdAn l x a := rfl
theorem anK8_no {l : List Ev} {x : List Int} {a : Int} {k : Nat} (h : (evD l k).ag ≠ a) : anK8 l x a (k + 1) = anK8 l x a k := by
  unfold anK8
  rw [List.range_succ, List.filter_append]
  simp [h]
theorem anK8_yes {l : List Ev} {x : List Int} {a : Int} {k : Nat} (h : (evD l k).ag = a) : anK8 l x a (k + 1) = anK8 l x a k ++ [⟨(evD l k).tm + 1, xD x k + 1⟩] := by
  unfold anK8
  rw [List.range_succ, List.filter_append]
  simp [h]
theorem anK8_len (l : List Ev) (x : List Int) (a : Int) (k : Nat) : (anK8 l x a k).length ≤ k := by
  unfold anK8
  rw [List.length_map]
  exact Nat.le_trans (List.length_filter_le _ _) (by simp)
/-- The pairs that begin below k are fitted. -/
def PairsK (f : Fl) (l : List Ev) (x : List Int) (a : Int) (k : Nat) : Prop := ∀ i j, i < k → i < j → j < l.length → (evD l i).ag = a → (evD l j).ag = a → shB (f.drOf a) ((evD l j).tm - (evD l i).tm) (xD x i) (xD x j) = true
theorem pairsK_zero (f : Fl) (l : List Ev) (x : List Int) (a : Int) : PairsK f l x a 0 := fun _ _ h => absurd h (Nat.not_lt_zero _)
theorem pairsK_no {f : Fl} {l : List Ev} {x : List Int} {a : Int} {k : Nat} (h : PairsK f l x a k) (hn : (evD l k).ag ≠ a) : PairsK f l x a (k + 1) := fun i j hi hij hj e1 e2 => by
  rcases Nat.lt_or_ge i k with h9 | h9
  · exact h i j h9 hij hj e1 e2
  · obtain rfl : i = k := by omega
    exact absurd e1 hn
theorem pairsK_yes {f : Fl} {l : List Ev} {x : List Int} {a : Int} {k q : Nat} (he : EvsOk f l) (h : PairsK f l x a k) (hk : (evD l k).ag = a) (hkl : k < l.length) (hkq : k < q) (hq : ∀ j, k < j → j < q → (evD l j).ag = a ∧ shB (f.drOf a) ((evD l j).tm - (evD l k).tm) (xD x k) (xD x j) = true)
    (hend : q < l.length → (evD l q).ag ≠ a) : PairsK f l x a (k + 1) := fun i j hi hij hj e1 e2 => by
  rcases Nat.lt_or_ge i k with h9 | h9
  · exact h i j h9 hij hj e1 e2
  · obtain rfl : i = k := by omega
    rcases Nat.lt_or_ge j q with h8 | h8
    · exact (hq j hij h8).2
    · have hql : q < l.length := by omega
      have h1 := evs_sorted he q hql i hkq
      have h2 := hend hql
      rcases Nat.lt_or_ge q j with h7 | h7
      · have h3 := evs_sorted he j hj q h7
        omega
      · obtain rfl : j = q := by omega
        exact absurd e2 h2
theorem fd_of_all {f : Fl} {l : List Ev} {x : List Int} {a : Int} (he : evsB f l = true) (ht : timesB l.length x = true) (a0 : 0 ≤ a) (a1 : a < (f.dr.length : Int)) (hp : PairsK f l x a l.length) (hc : ckB ⟨f.drOf a, anK8 l x a l.length⟩ = true) : fdB f l x a = true :=
  fdB_yes ⟨he, ht, a0, a1, hc, fun i j hij hj e1 e2 => hp i j (by omega) hij hj e1 e2⟩
end Go.Proofs.YtamefmojocegkaaDoor
