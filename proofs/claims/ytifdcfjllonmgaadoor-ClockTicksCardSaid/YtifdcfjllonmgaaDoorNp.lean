/-
  Layer 8: the program's constraints are the chapter's, and times agree exactly if they break none: plain.
-/
import Derived.Test.YtifdcfjllonmgaaDoorNn
namespace Go.Proofs.YtifdcfjllonmgaaDoor
open Go Go.Proofs Go.RowKit Go.Lib

theorem flatMap_congr8 {α β : Type} : ∀ (l : List α) (f g : α → List β), (∀ x ∈ l, f x = g x) → l.flatMap f = l.flatMap g
  | [], _, _, _ => rfl
  | x :: l, f, g, h => by
    rw [List.flatMap_cons, List.flatMap_cons, h x List.mem_cons_self, flatMap_congr8 l f g (fun y hy => h y (List.mem_cons_of_mem _ hy))]
theorem flatMap_two8 {α β γ : Type} (f : α → List β) (g : β → List γ) : ∀ l : List α, (l.flatMap f).flatMap g = l.flatMap fun x => (f x).flatMap g
  | [] => rfl
  | x :: l => by rw [List.flatMap_cons, List.flatMap_append, List.flatMap_cons, flatMap_two8 f g l]
theorem evs_sorted {f : Fl} {l : List Ev} (h : EvsOk f l) : ∀ j, j < l.length → ∀ i, i < j → (evD l i).ag < (evD l j).ag ∨ ((evD l i).ag = (evD l j).ag ∧ (evD l i).sq < (evD l j).sq)
  | 0, _, _, hi => absurd hi (Nat.not_lt_zero _)
  | j + 1, hj, i, hi => by
    have hs := (h.2.2 (j + 1) hj).2.2.2.2 (Nat.succ_pos _)
    rw [Nat.add_sub_cancel] at hs
    obtain ⟨h1, h2⟩ := hs
    have step : (evD l j).ag < (evD l (j + 1)).ag ∨ ((evD l j).ag = (evD l (j + 1)).ag ∧ (evD l j).sq < (evD l (j + 1)).sq) := by
      by_cases e : (evD l (j + 1)).ag = (evD l j).ag
      · exact .inr ⟨e.symm, by have := fun h => h2 ⟨e, h⟩; omega⟩
      · exact .inl (by omega)
    by_cases e : i = j
    · subst e; exact step
    · have := evs_sorted h j (by omega) i (by omega)
      omega
theorem late_eq {f : Fl} {l : List Ev} (h : EvsOk f l) {i j : Nat} (hi : i < l.length) (hj : j < l.length) (hij : i ≠ j) : lateB (evD l i) (evD l j) = true ↔ (evD l i).ag = (evD l j).ag ∧ i < j := by
  unfold lateB
  rw [Bool.and_eq_true, beq_iff_eq, decide_eq_true_eq]
  rcases Nat.lt_or_ge i j with h1 | h1
  · have := evs_sorted h j hj i h1
    omega
  · have := evs_sorted h i hi j (by omega)
    omega
theorem fol_eq (a b : Ev) : folB a b = (msgB a b || grtB a b || chdB a b) := by
  unfold folB msgB grtB chdB
  rw [Bool.eq_iff_iff]
  simp only [Bool.or_eq_true, Bool.and_eq_true, beq_iff_eq]
  omega
theorem folN_eq (lat : Int) (a b : Ev) : folN lat a b = if msgB a b = true then lat else 0 := rfl
theorem msg_alone {a b : Ev} (h : msgB a b = true) : grtB a b = false ∧ chdB a b = false := by
  unfold msgB at h
  simp only [Bool.and_eq_true, beq_iff_eq] at h
  obtain ⟨⟨h1, h2⟩, _⟩ := h
  unfold grtB chdB
  rw [h1, h2]
  constructor <;> simp
theorem grt_alone {a b : Ev} (h : grtB a b = true) : chdB a b = false := by
  unfold grtB at h
  simp only [Bool.and_eq_true, Bool.or_eq_true, beq_iff_eq] at h
  unfold chdB
  have : a.kd ≠ 1 := by omega
  simp [this]
theorem hiV_ne {d dr : Int} (d0 : -1000000 ≤ d) (d1 : d ≤ 1000000) (r0 : 0 ≤ dr) (r1 : dr ≤ 1000) : hiV dr d ≠ nB := by
  obtain ⟨_, p1⟩ := prod_bd8 (a := d + 1) (b := 1000000 + dr) (by omega) (by omega) (by omega) (by omega)
  unfold hiV nB
  omega
theorem ev_good {f : Fl} {l : List Ev} (h : EvsOk f l) {i : Nat} (hi : i < l.length) : Good f (evD l i) := ⟨(h.2.2 i hi).1, (h.2.2 i hi).2.1⟩
theorem good_ag {f : Fl} {e : Ev} (h : Good f e) : 0 ≤ e.ag ∧ e.ag ≤ 5 := (evB_of h.1).1
theorem conS_eq {f : Fl} {l : List Ev} (h : EvsOk f l) {i j : Nat} (hi : i < l.length) (hj : j < l.length) (hij : i ≠ j) : conS (rlS f) l i j = conA f l i j ++ conB f l i j := by
  have ga := ev_good h hi
  have gb := ev_good h hj
  obtain ⟨⟨a0, a1⟩, _, ⟨t0, t1⟩, _⟩ := evB_of ga.1
  obtain ⟨_, _, ⟨s0, s1⟩, _⟩ := evB_of gb.1
  obtain ⟨r0, r1⟩ := drOf_bd h.1 a0 ga.2
  have e0 : rowC (s0S f) l i j = conA f l i j := by
    unfold rowC conA s0S
    dsimp only
    by_cases hl : lateB (evD l i) (evD l j) = true
    · rw [if_pos hl, if_pos ((late_eq h hi hj hij).1 hl), if_neg (hiV_ne (by omega) (by omega) r0 r1)]
      rfl
    · rw [if_neg hl, if_neg (fun h2 => hl ((late_eq h hi hj hij).2 h2))]
  have e1 : rowC (s1S f) l i j ++ (rowC s2S l i j ++ (rowC s3S l i j ++ [])) = conB f l i j := by
    unfold rowC conB s1S s2S s3S
    dsimp only
    rw [fol_eq, folN_eq, if_pos rfl]
    by_cases hm : msgB (evD l i) (evD l j) = true
    · obtain ⟨h2, h3⟩ := msg_alone hm
      simp [hm, h2, h3]
    · by_cases hg : grtB (evD l i) (evD l j) = true
      · simp [hm, hg, grt_alone hg]
      · by_cases hc : chdB (evD l i) (evD l j) = true
        · simp [hm, hg, hc]
        · simp [hm, hg, hc]
  unfold conS rlS
  rw [List.flatMap_cons, List.flatMap_cons, List.flatMap_cons, List.flatMap_cons, List.flatMap_nil, e0, e1]
theorem conW_eq {f : Fl} {l : List Ev} (h : evsB f l = true) : conW (rlS f) l = conN f l l.length := by
  have h := of_evsB h
  unfold conW conU pairK conN conR
  rw [flatMap_two8]
  refine flatMap_congr8 _ _ _ fun i hi => ?_
  unfold rowP
  rw [flatMap_two8]
  refine flatMap_congr8 _ _ _ fun j hj => ?_
  unfold conP
  by_cases e : i = j
  · rw [if_pos e, if_pos e]; rfl
  · rw [if_neg e, if_neg e]
    simp only [List.flatMap_cons, List.flatMap_nil, List.append_nil]
    exact conS_eq h (List.mem_range.1 hi) (List.mem_range.1 hj) e
/-- Where a constraint comes from. -/
theorem mem_conW {f : Fl} {l : List Ev} (h : evsB f l = true) {c : C4} : c ∈ conW (rlS f) l ↔ ∃ i j, i < l.length ∧ j < l.length ∧ i ≠ j ∧ c ∈ conA f l i j ++ conB f l i j := by
  rw [conW_eq h]
  unfold conN conR
  simp only [List.mem_flatMap, List.mem_range]
  constructor
  · rintro ⟨i, hi, j, hj, hc⟩
    unfold conP at hc
    split at hc
    · cases hc
    · rename_i e; exact ⟨i, j, hi, hj, e, hc⟩
  · rintro ⟨i, j, hi, hj, e, hc⟩
    refine ⟨i, hi, j, hj, ?_⟩
    unfold conP
    rw [if_neg e]
    exact hc
theorem con_okx {f : Fl} {l : List Ev} (h : evsB f l = true) : ∀ c ∈ conW (rlS f) l, c.okx l.length := by
  intro c hc
  obtain ⟨i, j, hi, hj, _, hc⟩ := (mem_conW h).1 hc
  unfold conA conB at hc
  rw [List.mem_append] at hc
  rcases hc with hc | hc
  · split at hc
    · simp only [List.mem_cons, List.not_mem_nil, or_false] at hc
      rcases hc with rfl | rfl <;> (unfold C4.okx; dsimp only; omega)
    · cases hc
  · split at hc
    · simp only [List.mem_cons, List.not_mem_nil, or_false] at hc
      subst hc
      unfold C4.okx; dsimp only; omega
    · cases hc
theorem sh_eq {dr d s t : Int} (r1 : dr ≤ 1000) : shB dr d s t = true ↔ low8 dr d ≤ t - s ∧ t - s ≤ (d + 1) * (1000000 + dr) - 1 := by
  unfold shB low8
  simp only [Bool.and_eq_true, Bool.not_eq_true', decide_eq_false_iff_not, decide_eq_true_eq, Bool.and_eq_false_imp]
  have hP : 1 ≤ d → 0 ≤ (d - 1) * (1000000 - dr) := fun h => Int.mul_nonneg (by omega) (by omega)
  by_cases hd : 1 ≤ d
  · have := hP hd
    rw [if_pos hd]
    constructor
    · rintro ⟨⟨_, h2⟩, h3⟩
      have := h2 hd
      omega
    · rintro ⟨h1, h2⟩
      exact ⟨⟨by omega, fun _ => by omega⟩, by omega⟩
  · rw [if_neg hd]
    constructor
    · rintro ⟨⟨h1, _⟩, h3⟩
      omega
    · rintro ⟨h1, h2⟩
      exact ⟨⟨by omega, fun h => absurd h hd⟩, by omega⟩
theorem pair_brk {f : Fl} {l : List Ev} (h : EvsOk f l) (x : List Int) (m : Int) {i j : Nat} (hi : i < l.length) (hj : j < l.length) (hij : i ≠ j) : PairOk f l x m i j ↔ ∀ c ∈ conA f l i j ++ conB f l i j, brkB m x c = false := by
  have ga := ev_good h hi
  have gb := ev_good h hj
  obtain ⟨a0, a1⟩ := good_ag ga
  obtain ⟨b0, b1⟩ := good_ag gb
  have hm := bel_mask m a0 a1 b0 b1
  obtain ⟨r0, r1⟩ := drOf_bd h.1 a0 ga.2
  have key : ∀ (w : Int) (f' t' : Nat), brkB m x ⟨f', t', w, mask8 (evD l i) (evD l j)⟩ = ((belB m (evD l i).ag && belB m (evD l j).ag) && decide (w < xD x t' - xD x f')) := fun w f' t' => by
    unfold brkB
    dsimp only
    rw [hm]
    rfl
  unfold PairOk
  cases hp : belB m (evD l i).ag with
  | false =>
    refine ⟨fun _ c hc => ?_, fun _ => .inr (.inl rfl)⟩
    simp only [hp, Bool.false_and] at key
    unfold conA conB at hc
    rw [List.mem_append] at hc
    rcases hc with hc | hc <;> split at hc
    · simp only [List.mem_cons, List.not_mem_nil, or_false] at hc
      rcases hc with rfl | rfl <;> rw [key]
    · cases hc
    · simp only [List.mem_cons, List.not_mem_nil, or_false] at hc
      subst hc
      rw [key]
    · cases hc
  | true =>
    cases hq : belB m (evD l j).ag with
    | false =>
      refine ⟨fun _ c hc => ?_, fun _ => .inr (.inr (.inl rfl))⟩
      simp only [hq, Bool.and_false, Bool.false_and] at key
      unfold conA conB at hc
      rw [List.mem_append] at hc
      rcases hc with hc | hc <;> split at hc
      · simp only [List.mem_cons, List.not_mem_nil, or_false] at hc
        rcases hc with rfl | rfl <;> rw [key]
      · cases hc
      · simp only [List.mem_cons, List.not_mem_nil, or_false] at hc
        subst hc
        rw [key]
      · cases hc
    | true =>
      simp only [hp, hq, Bool.true_and] at key
      constructor
      · rintro (e | e | e | ⟨e1, e2⟩) c hc
        · exact absurd e hij
        · cases e
        · cases e
        · unfold conA conB at hc
          rw [List.mem_append] at hc
          rcases hc with hc | hc <;> split at hc
          · rename_i hl
            have hs := (sh_eq r1).1 (e1 hl.1 hl.2)
            simp only [List.mem_cons, List.not_mem_nil, or_false] at hc
            rcases hc with rfl | rfl <;> (rw [key]; exact decide_eq_false (by omega))
          · cases hc
          · rename_i hl
            have hs := e2 hl
            simp only [List.mem_cons, List.not_mem_nil, or_false] at hc
            subst hc
            rw [key]
            exact decide_eq_false (by omega)
          · cases hc
      · intro hc
        refine .inr (.inr (.inr ⟨fun h1 h2 => ?_, fun h1 => ?_⟩))
        · have c1 := hc ⟨j, i, -(low8 (f.drOf (evD l i).ag) ((evD l j).tm - (evD l i).tm)), mask8 (evD l i) (evD l j)⟩ (by unfold conA; rw [if_pos ⟨h1, h2⟩]; simp)
          have c2 := hc ⟨i, j, ((evD l j).tm - (evD l i).tm + 1) * (1000000 + f.drOf (evD l i).ag) - 1, mask8 (evD l i) (evD l j)⟩ (by unfold conA; rw [if_pos ⟨h1, h2⟩]; simp)
          rw [key] at c1 c2
          have c1 := of_decide_eq_false c1
          have c2 := of_decide_eq_false c2
          exact (sh_eq r1).2 ⟨by omega, by omega⟩
        · have c1 := hc ⟨j, i, -(folN f.lat (evD l i) (evD l j)), mask8 (evD l i) (evD l j)⟩ (by unfold conB; rw [if_pos h1]; simp)
          rw [key] at c1
          have c1 := of_decide_eq_false c1
          omega
theorem agB_eq {f : Fl} {l : List Ev} (h : evsB f l = true) (x : List Int) (m : Int) : agB f l x m = (timesB l.length x && !((conW (rlS f) l).any (brkB m x))) := by
  have he := of_evsB h
  rw [Bool.eq_iff_iff, Bool.and_eq_true, Bool.not_eq_true', List.any_eq_false]
  constructor
  · intro h1
    obtain ⟨_, h2, h3⟩ := of_agB h1
    refine ⟨h2, fun c hc => ?_⟩
    obtain ⟨i, j, hi, hj, e, hc⟩ := (mem_conW h).1 hc
    rw [(pair_brk he x m hi hj e).1 (h3 i j hi hj) c hc]
    decide
  · rintro ⟨h1, h2⟩
    refine agB_yes ⟨h, h1, fun i j hi hj => ?_⟩
    by_cases e : i = j
    · exact .inl e
    · exact (pair_brk he x m hi hj e).2 fun c hc => by
        have := h2 c ((mem_conW h).2 ⟨i, j, hi, hj, e, hc⟩)
        simpa using this
end Go.Proofs.YtifdcfjllonmgaaDoor
