/-
  Layer 8: what a valid event holds; whether times agree, plain.
-/
import Derived.Test.YtifdcfjllonmgaaDoorHk
namespace Go.Proofs.YtifdcfjllonmgaaDoor
open Go Go.Proofs Go.RowKit Go.Lib

theorem evB_of {e : Ev} (h : evB e = true) : (0 ≤ e.ag ∧ e.ag ≤ 5) ∧ (0 ≤ e.sq ∧ e.sq ≤ 999) ∧ (0 ≤ e.tm ∧ e.tm ≤ 1000000) ∧ (0 ≤ e.tr ∧ e.tr ≤ 999) ∧ (0 ≤ e.sp ∧ e.sp ≤ 9) ∧ (0 ≤ e.bt ∧ e.bt ≤ 1000) ∧ (0 ≤ e.gn ∧ e.gn ≤ 99) := by
  unfold evB at h
  simp only [Bool.and_eq_true] at h
  obtain ⟨⟨⟨⟨⟨⟨h1, h2⟩, h3⟩, h4⟩, h5⟩, h6⟩, h7⟩ := h
  refine ⟨of_inB h1, of_inB h2, of_inB h3, of_inB h4, of_inB h5, of_inB h6, ?_⟩
  split at h7
  · simp only [Bool.and_eq_true, beq_iff_eq] at h7
    omega
  · rw [Bool.and_eq_true] at h7
    have h7 := h7.2
    split at h7
    · simp only [Bool.and_eq_true, beq_iff_eq] at h7; omega
    · split at h7
      · simp only [Bool.and_eq_true, beq_iff_eq] at h7; omega
      · split at h7
        · rw [Bool.and_eq_true] at h7; exact of_inB h7.2
        · split at h7
          · simp only [Bool.and_eq_true, beq_iff_eq] at h7; omega
          · cases h7
theorem flB_of {f : Fl} (h : flB f = true) : (1 ≤ f.dr.length ∧ f.dr.length ≤ 6) ∧ (∀ x ∈ f.dr, 0 ≤ x ∧ x ≤ 1000) ∧ (0 ≤ f.lat ∧ f.lat ≤ 1000000) ∧ (0 ≤ f.lia ∧ f.lia ≤ 2) ∧ f.lia < (f.dr.length : Int) ∧ (1 ≤ f.tm.length ∧ f.tm.length ≤ 8) ∧ (1 ≤ f.sv.length ∧ f.sv.length ≤ 12) := by
  unfold flB at h
  simp only [Bool.and_eq_true] at h
  obtain ⟨⟨⟨⟨⟨h1, h2⟩, h3⟩, h4⟩, h5⟩, ⟨⟨h6, h7⟩, h8⟩, h9⟩ := h
  have a1 := of_inB h1
  have a6 := of_inB h6
  have a8 := of_inB h8
  refine ⟨by omega, fun x hx => of_inB (List.all_eq_true.1 h2 x hx), of_inB h3, of_inB h4, of_decide_eq_true h5, by omega, by omega⟩
theorem drOf_bd {f : Fl} (h : flB f = true) {ag : Int} (h0 : 0 ≤ ag) (h1 : ag < (f.dr.length : Int)) : 0 ≤ f.drOf ag ∧ f.drOf ag ≤ 1000 := by
  unfold Fl.drOf
  have hl : ag.toNat < f.dr.length := by omega
  rw [List.getD_eq_getElem?_getD, List.getElem?_eq_getElem hl]
  exact (flB_of h).2.1 _ (List.getElem_mem hl)
theorem folN_bd {lat : Int} (h0 : 0 ≤ lat) (h1 : lat ≤ 1000000) (a b : Ev) : 0 ≤ folN lat a b ∧ folN lat a b ≤ 1000000 := by
  unfold folN
  split <;> omega
def xD (x : List Int) (i : Nat) : Int := x.getD i 0
theorem xD_of {x : List Int} {i : Nat} (h : i < x.length) : xD x i = x[i] := by unfold xD; rw [List.getD_eq_getElem?_getD, List.getElem?_eq_getElem h]; rfl
theorem timesB_of {n : Nat} {x : List Int} (h : timesB n x = true) : (∀ i, -17592186044416 ≤ xD x i ∧ xD x i ≤ 17592186044416) ∧ x.length = n := by
  unfold timesB at h
  rw [Bool.and_eq_true] at h
  refine ⟨fun i => ?_, of_decide_eq_true h.2⟩
  rcases Nat.lt_or_ge i x.length with hi | hi
  · rw [xD_of hi]
    exact of_inB (List.all_eq_true.1 h.1 _ (List.getElem_mem hi))
  · unfold xD
    rw [List.getD_eq_getElem?_getD, List.getElem?_eq_none hi]
    exact ⟨by decide, by decide⟩
/-- The bit of an agent. -/
def belB (m ag : Int) : Bool := !(bits .and .i64 (m / 2 ^ ag.toNat) 1 == 0)
/-- Two events of believed agents fit their times. -/
def PairOk (f : Fl) (l : List Ev) (x : List Int) (m : Int) (i j : Nat) : Prop :=
  i = j ∨ belB m (evD l i).ag = false ∨ belB m (evD l j).ag = false ∨
  (((evD l i).ag = (evD l j).ag → i < j → shB (f.drOf (evD l i).ag) ((evD l j).tm - (evD l i).tm) (xD x i) (xD x j) = true) ∧
   (folB (evD l i) (evD l j) = true → folN f.lat (evD l i) (evD l j) ≤ xD x j - xD x i))
def AgOk (f : Fl) (l : List Ev) (x : List Int) (m : Int) : Prop := evsB f l = true ∧ timesB l.length x = true ∧ ∀ i j, i < l.length → j < l.length → PairOk f l x m i j
noncomputable def agB (f : Fl) (l : List Ev) (x : List Int) (m : Int) : Bool := @decide (AgOk f l x m) (Classical.propDecidable _)
theorem agB_yes {f : Fl} {l : List Ev} {x : List Int} {m : Int} (h : AgOk f l x m) : agB f l x m = true := @decide_eq_true _ (Classical.propDecidable _) h
theorem agB_no {f : Fl} {l : List Ev} {x : List Int} {m : Int} (h : ¬ AgOk f l x m) : agB f l x m = false := @decide_eq_false _ (Classical.propDecidable _) h
theorem of_agB {f : Fl} {l : List Ev} {x : List Int} {m : Int} (h : agB f l x m = true) : AgOk f l x m := @of_decide_eq_true _ (Classical.propDecidable _) h
end Go.Proofs.YtifdcfjllonmgaaDoor
