/-
  Facts of fractions as texts that the laws of order, grid and field want.
-/
import Derived.Test.YtlcibnmcannapaaGreatDoorHelpQ
namespace Go.Proofs.YtlcibnmcannapaaGreatDoor
open Go Go.Proofs Go.RowKit Go.Lib

theorem both_texts {x y : Rat} (hx : FitsQ x) (hy : FitsQ y) : bothB (nT x) (dT x) (nT y) (dT y) = true := by unfold bothB; rw [(validQ_text hx).1, (validQ_text hy).1]; rfl
theorem cmp_rats {x y : Rat} (hx : FitsQ x) (hy : FitsQ y) : cmpQ (nT x) (dT x) (nT y) (dT y) = cmpR x y := by
  unfold cmpQ
  rw [both_texts hx hy, (validQ_text hx).2, (validQ_text hy).2]
  rfl
theorem text_size {q : Rat} (h : FitsQ q) : (nT q).size ≤ 1099511627776 ∧ (dT q).size ≤ 1099511627776 := by
  have := nT_size h
  have := dT_size h
  omega
theorem addB_fits {an ad bn bd : ByteArray} (h : addB an ad bn bd = true) : FitsQ (valQ an ad + valQ bn bd) := by
  simp only [addB, Bool.and_eq_true] at h
  obtain ⟨hb, ⟨_, _, h3⟩, h4⟩ := h
  rw [← add_val hb]
  exact divInt_fits ((fitB_iff _).1 h4) ((fitB_iff _).1 h3) (Int.mul_ne_zero (den_ne (both_parts hb).1) (den_ne (both_parts hb).2))
theorem subB_fits {an ad bn bd : ByteArray} (h : subB an ad bn bd = true) : FitsQ (valQ an ad - valQ bn bd) := by
  simp only [subB, Bool.and_eq_true] at h
  obtain ⟨hb, ⟨_, _, h3⟩, h4⟩ := h
  rw [← sub_val hb]
  exact divInt_fits ((fitB_iff _).1 h4) ((fitB_iff _).1 h3) (Int.mul_ne_zero (den_ne (both_parts hb).1) (den_ne (both_parts hb).2))
theorem mulB_fits {an ad bn bd : ByteArray} (h : mulB an ad bn bd = true) : FitsQ (valQ an ad * valQ bn bd) := by
  simp only [mulB, Bool.and_eq_true] at h
  obtain ⟨hb, h3, h4⟩ := h
  rw [← mul_val]
  exact divInt_fits ((fitB_iff _).1 h3) ((fitB_iff _).1 h4) (Int.mul_ne_zero (den_ne (both_parts hb).1) (den_ne (both_parts hb).2))
theorem divB_fits {an ad bn bd : ByteArray} (h : divB an ad bn bd = true) : FitsQ (valQ an ad / valQ bn bd) := by
  simp only [divB, Bool.and_eq_true] at h
  obtain ⟨hb, ⟨h3, h4⟩, h5⟩ := h
  rw [← div_val]
  exact divInt_fits ((fitB_iff _).1 h3) ((fitB_iff _).1 h4) (Int.mul_ne_zero (den_ne (both_parts hb).1) (of_decide_eq_true h5))
theorem out_size {b : Bool} {x : Rat} (h : b = true → FitsQ x) : (outN b x).size ≤ 1099511627776 ∧ (outD b x).size ≤ 1099511627776 := by
  cases b with
  | false => exact ⟨show (ByteArray.empty).size ≤ 1099511627776 by decide, show (ByteArray.empty).size ≤ 1099511627776 by decide⟩
  | true => exact text_size (h rfl)
theorem zero_fits : FitsQ 0 := ⟨show Fits 0 from Nat.pow_pos (by decide), show Fits 1 from one_fits⟩
theorem zero_texts : (⟨#[48]⟩ : ByteArray) = nT 0 ∧ (⟨#[49]⟩ : ByteArray) = dT 0 := by decide +kernel
/-- Three comparisons of three fractions: what they can be. -/
theorem cmp_three (x y z : Rat) : (cmpR x y = -1 ∨ cmpR x y = 0 ∨ cmpR x y = 1) ∧ (cmpR y z = -1 ∨ cmpR y z = 0 ∨ cmpR y z = 1) ∧ (cmpR x z = -1 ∨ cmpR x z = 0 ∨ cmpR x z = 1) ∧
    ¬ (cmpR x y ≤ 0 ∧ cmpR y z ≤ 0 ∧ 0 < cmpR x z) ∧ ¬ (cmpR x y ≤ 0 ∧ cmpR y z < 0 ∧ 0 ≤ cmpR x z) := by
  have r1 := cmpR_range x y
  have r2 := cmpR_range y z
  have r3 := cmpR_range x z
  refine ⟨by omega, by omega, by omega, fun ⟨a, b, c⟩ => ?_, fun ⟨a, b, c⟩ => ?_⟩
  · have := cmpR_trans a b; omega
  · have := cmpR_trans' a b; omega
theorem same_texts (x y : Rat) : cmpR x y = 0 ↔ (nT x = nT y ∧ dT x = dT y) := by
  rw [cmpR_eq]
  exact ⟨fun h => by rw [h]; exact ⟨rfl, rfl⟩, fun h => textQ_inj h.1 h.2⟩

end Go.Proofs.YtlcibnmcannapaaGreatDoor
