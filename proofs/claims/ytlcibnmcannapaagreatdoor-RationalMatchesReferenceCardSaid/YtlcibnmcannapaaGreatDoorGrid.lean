/-
  Plain mathematics of layer 4: rounding to a grid, and the order of fractions.
-/
import Derived.Test.YtlcibnmcannapaaGreatDoorEuclid
namespace Go.Proofs.YtlcibnmcannapaaGreatDoor

def ceilI (X D : Int) : Int := X / D + (if X % D = 0 then 0 else 1)
theorem floor_le {X D : Int} (hD : 0 < D) : X / D * D ≤ X ∧ (X / D * D = X ↔ X % D = 0) := by
  have h1 := Int.ediv_mul_add_emod X D
  have h2 := Int.emod_nonneg X (show D ≠ 0 by omega)
  exact ⟨by omega, by omega⟩
theorem le_ceil {X D : Int} (hD : 0 < D) : X ≤ ceilI X D * D ∧ (ceilI X D * D = X ↔ X % D = 0) := by
  have h1 := Int.ediv_mul_add_emod X D
  have h2 := Int.emod_lt_of_pos X hD
  unfold ceilI
  by_cases h : X % D = 0
  · rw [if_pos h]
    rw [Int.add_zero]
    exact ⟨by omega, by omega⟩
  · rw [if_neg h, Int.add_mul]
    exact ⟨by omega, by omega⟩
theorem ceil_neg {X D : Int} (hD : 0 < D) : ceilI X D = -(-X / D) := by
  have h1 := Int.ediv_mul_add_emod X D
  have h2 := Int.emod_lt_of_pos X hD
  have h3 := Int.emod_nonneg X (show D ≠ 0 by omega)
  unfold ceilI
  by_cases h : X % D = 0
  · rw [if_pos h]
    have := (ediv_of (x := -X) (y := D) (q := -(X / D)) (r := 0) (by omega) (by rw [Int.neg_mul]; omega) (by omega) (by omega)).1
    omega
  · rw [if_neg h]
    have := (ediv_of (x := -X) (y := D) (q := -(X / D) - 1) (r := D - X % D) (by omega) (by rw [Int.sub_mul, Int.neg_mul]; omega) (by omega) (by omega)).1
    omega
theorem divInt_back (C : Int) {T : Int} (hT : 0 < T) : (Rat.divInt C T).num * T = C * (Rat.divInt C T).den := by
  have h : Rat.divInt (Rat.divInt C T).num ((Rat.divInt C T).den : Int) = Rat.divInt C T := by rw [Rat.divInt_ofNat]; exact Rat.mkRat_self _
  have h2 : ((Rat.divInt C T).den : Int) ≠ 0 := by have := (Rat.divInt C T).den_pos; omega
  exact (Rat.divInt_eq_divInt_iff h2 (by omega)).1 h
theorem grid_again (C : Int) {T : Int} (hT : 0 < T) : (Rat.divInt C T).num * T / ((Rat.divInt C T).den : Int) = C ∧ (Rat.divInt C T).num * T % ((Rat.divInt C T).den : Int) = 0 ∧ ceilI ((Rat.divInt C T).num * T) ((Rat.divInt C T).den : Int) = C := by
  rw [divInt_back C hT]
  have h2 : ((Rat.divInt C T).den : Int) ≠ 0 := by have := (Rat.divInt C T).den_pos; omega
  unfold ceilI
  rw [Int.mul_ediv_cancel _ h2, Int.mul_emod_left]
  exact ⟨rfl, rfl, by simp⟩
theorem rat_self (x : Rat) : Rat.divInt x.num (x.den : Int) = x := by rw [Rat.divInt_ofNat]; exact Rat.mkRat_self _
theorem sgZ_le {x y : Int} (h : x ≤ y) : sgZ x y ≤ 0 ∧ (sgZ x y = 0 ↔ x = y) := by
  refine ⟨?_, sgZ_zero⟩
  unfold sgZ; split <;> (try split) <;> omega
theorem sgZ_ge {x y : Int} (h : y ≤ x) : 0 ≤ sgZ x y ∧ (sgZ x y = 0 ↔ x = y) := by
  refine ⟨?_, sgZ_zero⟩
  unfold sgZ; split <;> (try split) <;> omega
theorem down_cmp (x : Rat) {T : Int} (hT : 0 < T) : cmpR (Rat.divInt (x.num * T / x.den) T) x ≤ 0 ∧ (cmpR (Rat.divInt (x.num * T / x.den) T) x = 0 ↔ x.num * T % x.den = 0) := by
  have hD : (0 : Int) < x.den := by have := x.den_pos; omega
  have e : cmpR (Rat.divInt (x.num * T / x.den) T) x = sgZ (x.num * T / x.den * x.den) (x.num * T) := by
    have := cmpR_divInt (a := x.num * T / x.den) (c := x.num) hT hD
    rw [rat_self] at this
    exact this
  rw [e]
  obtain ⟨h1, h2⟩ := floor_le (X := x.num * T) hD
  exact ⟨(sgZ_le h1).1, sgZ_zero.trans h2⟩
theorem up_cmp (x : Rat) {T : Int} (hT : 0 < T) : 0 ≤ cmpR (Rat.divInt (ceilI (x.num * T) x.den) T) x ∧ (cmpR (Rat.divInt (ceilI (x.num * T) x.den) T) x = 0 ↔ x.num * T % x.den = 0) := by
  have hD : (0 : Int) < x.den := by have := x.den_pos; omega
  have e : cmpR (Rat.divInt (ceilI (x.num * T) x.den) T) x = sgZ (ceilI (x.num * T) x.den * x.den) (x.num * T) := by
    have := cmpR_divInt (a := ceilI (x.num * T) x.den) (c := x.num) hT hD
    rw [rat_self] at this
    exact this
  rw [e]
  obtain ⟨h1, h2⟩ := le_ceil (X := x.num * T) hD
  exact ⟨(sgZ_ge h1).1, sgZ_zero.trans h2⟩
theorem divInt_same_sub (a b : Int) {T : Int} (hT : T ≠ 0) : Rat.divInt a T - Rat.divInt b T = Rat.divInt (a - b) T := by
  rw [Rat.divInt_sub_divInt _ _ hT hT, ← Int.sub_mul, Rat.divInt_mul_right hT]
theorem width_val (X D : Int) {T : Int} (hT : 0 < T) : Rat.divInt (ceilI X D) T - Rat.divInt (X / D) T = if X % D = 0 then 0 else Rat.divInt 1 T := by
  rw [divInt_same_sub _ _ (by omega)]
  unfold ceilI
  split
  · rw [show X / D + 0 - X / D = 0 by omega]; exact Rat.zero_divInt _
  · rw [show X / D + 1 - X / D = 1 by omega]
theorem grid_whole (C : Int) {T : Int} (hT : 0 < T) : Rat.divInt C T * (T : Rat) = (C : Rat) := by
  rw [Rat.divInt_eq_div, Rat.div_mul_cancel (by
    intro h
    have : (T : Rat) = ((0 : Int) : Rat) := by rw [h]; rfl
    have := Rat.intCast_inj.1 this
    omega)]
theorem down_neg (x : Rat) (T : Int) : (-x).num * T / (-x).den = -(x.num * T) / x.den := by rw [Rat.neg_num, Rat.neg_den, Int.neg_mul]
theorem minus_down (x : Rat) (T : Int) : -Rat.divInt ((-x).num * T / (-x).den) T = Rat.divInt (ceilI (x.num * T) x.den) T := by
  rw [Rat.neg_divInt, down_neg, ceil_neg (by have := x.den_pos; omega)]

theorem lt_of_le_lt {a b c : Rat} (h1 : a ≤ b) (h2 : b < c) : a < c := by
  by_cases h : a < c
  · exact h
  · exact absurd h2 (Rat.not_lt.2 (Rat.le_trans (Rat.not_lt.1 h) h1))
theorem cmpR_lt {x y : Rat} (h : x < y) : cmpR x y = -1 := by unfold cmpR; rw [if_pos h]
theorem cmpR_gt {x y : Rat} (h : y < x) : cmpR x y = 1 := by unfold cmpR; rw [if_neg (Rat.not_lt.2 (Rat.le_of_lt h)), if_pos h]
theorem cmpR_self (x : Rat) : cmpR x x = 0 := by unfold cmpR; rw [if_neg Rat.lt_irrefl, if_neg Rat.lt_irrefl]
theorem cmpR_cases (x y : Rat) : (x < y ∧ cmpR x y = -1) ∨ (x = y ∧ cmpR x y = 0) ∨ (y < x ∧ cmpR x y = 1) := by
  by_cases h : x < y
  · exact .inl ⟨h, cmpR_lt h⟩
  · by_cases h2 : y < x
    · exact .inr (.inr ⟨h2, cmpR_gt h2⟩)
    · have e := Rat.le_antisymm (Rat.not_lt.1 h2) (Rat.not_lt.1 h)
      subst e
      exact .inr (.inl ⟨rfl, cmpR_self x⟩)
theorem cmpR_swap (x y : Rat) : cmpR y x = - cmpR x y := by
  rcases cmpR_cases x y with ⟨h, e⟩ | ⟨h, e⟩ | ⟨h, e⟩
  · rw [e, cmpR_gt h]; rfl
  · subst h; rw [cmpR_self]; rfl
  · rw [e, cmpR_lt h]
theorem cmpR_eq (x y : Rat) : cmpR x y = 0 ↔ x = y := by
  rcases cmpR_cases x y with ⟨h, e⟩ | ⟨h, e⟩ | ⟨h, e⟩
  · rw [e]; exact ⟨fun h2 => by omega, fun h2 => by subst h2; exact absurd h Rat.lt_irrefl⟩
  · rw [e]; exact ⟨fun _ => h, fun _ => rfl⟩
  · rw [e]; exact ⟨fun h2 => by omega, fun h2 => by subst h2; exact absurd h Rat.lt_irrefl⟩
theorem cmpR_range (x y : Rat) : -1 ≤ cmpR x y ∧ cmpR x y ≤ 1 := by rcases cmpR_cases x y with ⟨_, e⟩ | ⟨_, e⟩ | ⟨_, e⟩ <;> rw [e] <;> omega
theorem cmpR_le (x y : Rat) : cmpR x y ≤ 0 ↔ x ≤ y := by
  rcases cmpR_cases x y with ⟨h, e⟩ | ⟨h, e⟩ | ⟨h, e⟩
  · rw [e]; exact ⟨fun _ => Rat.le_of_lt h, fun _ => by omega⟩
  · subst h; rw [e]; exact ⟨fun _ => Rat.le_refl, fun _ => by omega⟩
  · rw [e]; exact ⟨fun h2 => by omega, fun h2 => absurd h (Rat.not_lt.2 h2)⟩
theorem cmpR_neg (x y : Rat) : cmpR x y < 0 ↔ x < y := by
  rcases cmpR_cases x y with ⟨h, e⟩ | ⟨h, e⟩ | ⟨h, e⟩
  · rw [e]; exact ⟨fun _ => h, fun _ => by omega⟩
  · subst h; rw [e]; exact ⟨fun h2 => by omega, fun h2 => absurd h2 Rat.lt_irrefl⟩
  · rw [e]; exact ⟨fun h2 => by omega, fun h2 => absurd h2 (Rat.not_lt.2 (Rat.le_of_lt h))⟩
theorem cmpR_trans {x y z : Rat} (h1 : cmpR x y ≤ 0) (h2 : cmpR y z ≤ 0) : cmpR x z ≤ 0 := (cmpR_le _ _).2 (Rat.le_trans ((cmpR_le _ _).1 h1) ((cmpR_le _ _).1 h2))
theorem cmpR_trans' {x y z : Rat} (h1 : cmpR x y ≤ 0) (h2 : cmpR y z < 0) : cmpR x z < 0 := (cmpR_neg _ _).2 (lt_of_le_lt ((cmpR_le _ _).1 h1) ((cmpR_neg _ _).1 h2))
theorem cmpR_add (x y t : Rat) : cmpR (x + t) (y + t) = cmpR x y := by
  unfold cmpR
  simp only [Rat.add_lt_add_right]
theorem cmpR_sub (x y : Rat) : cmpR (x - y) 0 = cmpR x y := by
  have := cmpR_add (x - y) 0 y
  rw [Rat.sub_add_cancel, Rat.zero_add] at this
  exact this.symm
theorem cmpR_mul (x y t : Rat) : cmpR (x * t) (y * t) = cmpR x y * cmpR t 0 := by
  rcases cmpR_cases t 0 with ⟨h, e⟩ | ⟨h, e⟩ | ⟨h, e⟩
  · have hp : 0 < -t := by have := Rat.neg_lt_neg h; simpa using this
    have h1 : cmpR (x * -t) (y * -t) = cmpR x y := by
      unfold cmpR
      rw [Rat.mul_comm x, Rat.mul_comm y]
      simp only [Rat.mul_lt_mul_left hp]
    have h2 : cmpR (x * -t) (y * -t) = - cmpR (x * t) (y * t) := by
      rw [← cmpR_swap]
      unfold cmpR
      simp only [Rat.mul_neg, Rat.neg_lt_neg_iff]
    rw [e]; omega
  · subst h
    rw [Rat.mul_zero, Rat.mul_zero, e]; simp
  · have h1 : cmpR (x * t) (y * t) = cmpR x y := by
      unfold cmpR
      rw [Rat.mul_comm x, Rat.mul_comm y]
      simp only [Rat.mul_lt_mul_left h]
    rw [h1, e]; omega
end Go.Proofs.YtlcibnmcannapaaGreatDoor
