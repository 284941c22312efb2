/-
  Layer 8: what Find asks, as the program asks it: plain.
-/
import Derived.Test.YtifdcfjllonmgaaDoorNq
import Derived.Test.YtifdcfjllonmgaaDoorLb
namespace Go.Proofs.YtifdcfjllonmgaaDoor
open Go Go.Proofs Go.RowKit Go.Lib

def fdK (l : List Ev) (x : List Int) (a : Int) (k : Nat) : List An := ((List.range k).filter fun i => (evD l i).ag == a).map fun i => ⟨(evD l i).tm + 1, xD x i + 1⟩
theorem fdK_step (l : List Ev) (x : List Int) (a : Int) (k : Nat) : fdK l x a (k + 1) = fdK l x a k ++ if (evD l k).ag = a then [⟨(evD l k).tm + 1, xD x k + 1⟩] else [] := by
  unfold fdK
  rw [List.range_succ, List.filter_append, List.map_append]
  congr 1
  by_cases h : (evD l k).ag = a
  · simp [h]
  · simp [h]
theorem fdK_all (l : List Ev) (x : List Int) (a : Int) : fdK l x a l.length = fdAn l x a := rfl
theorem fdK_le (l : List Ev) (x : List Int) (a : Int) (k : Nat) : (fdK l x a k).length ≤ k := by
  unfold fdK
  rw [List.length_map]
  exact Nat.le_trans (List.length_filter_le _ _) (by rw [List.length_range]; exact Nat.le_refl _)
theorem bel_pow {a g : Int} (a0 : 0 ≤ a) (a1 : a ≤ 5) (g0 : 0 ≤ g) (g1 : g ≤ 5) : belB ((2 : Int) ^ a.toNat) g = decide (g = a) := by
  have ha : a = 0 ∨ a = 1 ∨ a = 2 ∨ a = 3 ∨ a = 4 ∨ a = 5 := by omega
  have hg : g = 0 ∨ g = 1 ∨ g = 2 ∨ g = 3 ∨ g = 4 ∨ g = 5 := by omega
  rcases ha with rfl | rfl | rfl | rfl | rfl | rfl <;> rcases hg with rfl | rfl | rfl | rfl | rfl | rfl <;> decide
theorem rowC0_eq {f : Fl} {l : List Ev} (h : EvsOk f l) {i j : Nat} (hi : i < l.length) (hj : j < l.length) (hij : i ≠ j) : rowC (s0S f) l i j = conA f l i j := by
  have ga := ev_good h hi
  have gb := ev_good h hj
  obtain ⟨⟨a0, a1⟩, _, ⟨t0, t1⟩, _⟩ := evB_of ga.1
  obtain ⟨_, _, ⟨s0, s1⟩, _⟩ := evB_of gb.1
  obtain ⟨r0, r1⟩ := drOf_bd h.1 a0 ga.2
  unfold rowC conA s0S
  dsimp only
  by_cases hl : lateB (evD l i) (evD l j) = true
  · rw [if_pos hl, if_pos ((late_eq h hi hj hij).1 hl), if_neg (hiV_ne (by omega) (by omega) r0 r1)]
    rfl
  · rw [if_neg hl, if_neg (fun h2 => hl ((late_eq h hi hj hij).2 h2))]
theorem mem_conW0 {f : Fl} {l : List Ev} (h : evsB f l = true) {c : C4} : c ∈ conW [s0S f] l ↔ ∃ i j, i < l.length ∧ j < l.length ∧ i ≠ j ∧ c ∈ conA f l i j := by
  have he := of_evsB h
  unfold conW conU
  simp only [List.mem_flatMap]
  constructor
  · rintro ⟨p, hp, hc⟩
    have hm := mem_pairK hp
    have hne : p.1 ≠ p.2 := by
      unfold pairK rowP at hp
      simp only [List.mem_flatMap, List.mem_range] at hp
      obtain ⟨a, _, b, _, hp⟩ := hp
      split at hp
      · cases hp
      · rename_i e
        obtain rfl : p = (a, b) := by simpa using hp
        exact e
    refine ⟨p.1, p.2, hm.1, hm.2, hne, ?_⟩
    rw [← rowC0_eq he hm.1 hm.2 hne]
    simpa [conS] using hc
  · rintro ⟨i, j, hi, hj, e, hc⟩
    refine ⟨(i, j), ?_, ?_⟩
    · unfold pairK rowP
      simp only [List.mem_flatMap, List.mem_range]
      exact ⟨i, hi, j, hj, by rw [if_neg e]; simp⟩
    · rw [← rowC0_eq he hi hj e] at hc
      simpa [conS] using hc
theorem con0_okx {f : Fl} {l : List Ev} (h : evsB f l = true) : ∀ c ∈ conW [s0S f] l, c.okx l.length := by
  intro c hc
  obtain ⟨i, j, hi, hj, e, hc⟩ := (mem_conW0 h).1 hc
  exact con_okx h c ((mem_conW h).2 ⟨i, j, hi, hj, e, List.mem_append_left _ hc⟩)
/-- The agent's own readings fit the times. -/
theorem own_fit {f : Fl} {l : List Ev} (h : evsB f l = true) (x : List Int) {a : Int} (a0 : 0 ≤ a) (a1 : a < (f.dr.length : Int)) :
    (!((conW [s0S f] l).any (brkB ((2 : Int) ^ a.toNat) x))) = true ↔ ∀ i j, i < j → j < l.length → (evD l i).ag = a → (evD l j).ag = a → shB (f.drOf a) ((evD l j).tm - (evD l i).tm) (xD x i) (xD x j) = true := by
  have he := of_evsB h
  obtain ⟨⟨_, d6⟩, _⟩ := flB_of he.1
  rw [Bool.not_eq_true', List.any_eq_false]
  have key : ∀ (i j : Nat), i < l.length → j < l.length → ∀ (w : Int) (f' t' : Nat), brkB ((2 : Int) ^ a.toNat) x ⟨f', t', w, mask8 (evD l i) (evD l j)⟩ = ((decide ((evD l i).ag = a) && decide ((evD l j).ag = a)) && decide (w < xD x t' - xD x f')) := fun i j hi hj w f' t' => by
    obtain ⟨g0, g1⟩ := good_ag (ev_good he hi)
    obtain ⟨k0, k1⟩ := good_ag (ev_good he hj)
    unfold brkB
    dsimp only
    rw [bel_mask _ g0 g1 k0 k1, bel_pow a0 (by omega) g0 g1, bel_pow a0 (by omega) k0 k1]
    rfl
  obtain ⟨r0, r1⟩ := drOf_bd he.1 a0 a1
  constructor
  · intro hc i j hij hj ei ej
    have hi : i < l.length := by omega
    have c1 := hc ⟨j, i, -(low8 (f.drOf (evD l i).ag) ((evD l j).tm - (evD l i).tm)), mask8 (evD l i) (evD l j)⟩ ((mem_conW0 h).2 ⟨i, j, hi, hj, by omega, by unfold conA; rw [if_pos ⟨by rw [ei, ej], hij⟩]; simp⟩)
    have c2 := hc ⟨i, j, ((evD l j).tm - (evD l i).tm + 1) * (1000000 + f.drOf (evD l i).ag) - 1, mask8 (evD l i) (evD l j)⟩ ((mem_conW0 h).2 ⟨i, j, hi, hj, by omega, by unfold conA; rw [if_pos ⟨by rw [ei, ej], hij⟩]; simp⟩)
    rw [key i j hi hj, decide_eq_true ei, decide_eq_true ej, Bool.and_true, Bool.true_and, decide_eq_true_eq] at c1 c2
    rw [ei] at c1 c2
    exact (sh_eq r1).2 ⟨by omega, by omega⟩
  · intro hs c hc
    obtain ⟨i, j, hi, hj, _, hc⟩ := (mem_conW0 h).1 hc
    unfold conA at hc
    split at hc
    · rename_i hl
      by_cases ei : (evD l i).ag = a
      · have ej : (evD l j).ag = a := by rw [← hl.1]; exact ei
        have hs := (sh_eq r1).1 (hs i j hl.2 hj ei ej)
        rw [ei] at hc
        simp only [List.mem_cons, List.not_mem_nil, or_false] at hc
        rcases hc with rfl | rfl
        · rw [key i j hi hj, decide_eq_true ei, decide_eq_true ej, Bool.and_true, Bool.true_and, decide_eq_true_eq]
          omega
        · rw [key i j hi hj, decide_eq_true ei, decide_eq_true ej, Bool.and_true, Bool.true_and, decide_eq_true_eq]
          omega
      · simp only [List.mem_cons, List.not_mem_nil, or_false] at hc
        rcases hc with rfl | rfl <;> (rw [key i j hi hj, decide_eq_false ei]; simp)
    · cases hc
theorem fd_iff {f : Fl} {l : List Ev} (h : evsB f l = true) {x : List Int} (ht : timesB l.length x = true) {a : Int} (a0 : 0 ≤ a) (a1 : a < (f.dr.length : Int)) :
    fdB f l x a = (ckB (fdC f l x a) && !((conW [s0S f] l).any (brkB ((2 : Int) ^ a.toNat) x))) := by
  rw [Bool.eq_iff_iff, Bool.and_eq_true, own_fit h x a0 a1]
  constructor
  · intro hb
    have := of_fdB hb
    exact ⟨this.2.2.2.2.1, this.2.2.2.2.2⟩
  · rintro ⟨h1, h2⟩
    exact fdB_yes ⟨h, ht, a0, a1, h1, h2⟩
end Go.Proofs.YtifdcfjllonmgaaDoor
