/-
  Facts of roundings of fractions of at most 100 digits: what RationalGrid compares.
-/
import Derived.Test.YtlcibnmcannapaaGreatDoorOrdQ
import Derived.Test.YtlcibnmcannapaaGreatDoorLongQ
namespace Go.Proofs.YtlcibnmcannapaaGreatDoor
open Go Go.Proofs Go.RowKit Go.Lib

theorem num_self {q : Rat} (h : FitsQ q) : numB (nT q) = q.num ∧ numB (dT q) = (q.den : Int) := ⟨(valid_text h.1).2, (valid_text h.2).2⟩
theorem fits_pow {x : Int} {k : Nat} (hk : k ≤ 199) (h : x.natAbs ≤ 10 ^ k) : Fits x := Nat.lt_of_le_of_lt h (Nat.pow_lt_pow_right (by decide) (by omega))
theorem fitB_pow {x : Int} {k : Nat} (hk : k ≤ 199) (h : x.natAbs ≤ 10 ^ k) : fitB x = true := (fitB_iff _).2 (fits_pow hk h)
def MidQ (x : Rat) : Prop := x.num.natAbs ≤ 10 ^ 131 ∧ x.den ≤ 10 ^ 100
def GridQ (x : Rat) : Prop := x.num.natAbs ≤ 10 ^ 131 ∧ x.den ≤ 10 ^ 30
theorem den_abs (x : Rat) : ((x.den : Int)).natAbs = x.den := Int.natAbs_natCast _
theorem GridQ.mid {x : Rat} (h : GridQ x) : MidQ x := ⟨h.1, Nat.le_trans h.2 (Nat.pow_le_pow_right (by decide) (by decide))⟩
theorem MidQ.fits {x : Rat} (h : MidQ x) : FitsQ x := ⟨fits_pow (k := 131) (by decide) h.1, fits_pow (k := 100) (by decide) (by rw [den_abs]; exact h.2)⟩
theorem LongQ.mid {x : Rat} (h : LongQ x) : MidQ x := ⟨Nat.le_trans (Nat.le_of_lt h.1) (Nat.pow_le_pow_right (by decide) (by decide)), Nat.le_of_lt h.2⟩
theorem LongQ.neg {x : Rat} (h : LongQ x) : LongQ (-x) := by
  unfold LongQ
  rw [Rat.neg_num, Rat.neg_den, Int.natAbs_neg]
  exact h
theorem nabs_ten (k : Nat) : ((10 : Int) ^ k).natAbs = 10 ^ k := by rw [Int.natAbs_pow]; rfl
theorem ten_pos (k : Nat) : (0 : Int) < 10 ^ k := Int.pow_pos (by decide)
theorem mul_abs {x y : Int} {a b : Nat} (h1 : x.natAbs ≤ 10 ^ a) (h2 : y.natAbs ≤ 10 ^ b) : (x * y).natAbs ≤ 10 ^ (a + b) := by
  rw [Int.natAbs_mul, Nat.pow_add]; exact Nat.mul_le_mul h1 h2
theorem grid_of {C : Int} {p : Nat} (hp : p ≤ 30) (h : C.natAbs ≤ 10 ^ 131) : GridQ (Rat.divInt C (10 ^ p)) := by
  obtain ⟨h1, h2⟩ := divInt_num_le C (10 ^ p) (by have := ten_pos p; omega)
  rw [nabs_ten] at h2
  exact ⟨Nat.le_trans h1 h, Nat.le_trans h2 (Nat.pow_le_pow_right (by decide) hp)⟩
theorem floor_abs (X D : Int) (h : X.natAbs ≤ 10 ^ 130) : (X / D).natAbs ≤ 10 ^ 131 :=
  Nat.le_trans (Int.natAbs_ediv_le_natAbs X D) (Nat.le_trans h (Nat.pow_le_pow_right (by decide) (by decide)))
theorem ceil_abs (X D : Int) (h : X.natAbs ≤ 10 ^ 130) : (ceilI X D).natAbs ≤ 10 ^ 131 := by
  have h1 := Nat.le_trans (Int.natAbs_ediv_le_natAbs X D) h
  have h2 : 10 ^ 130 + 1 ≤ 10 ^ 131 := by decide +kernel
  have h3 : (ceilI X D).natAbs ≤ (X / D).natAbs + 1 := by unfold ceilI; split <;> omega
  omega
theorem long_times {q : Rat} (h : LongQ q) {p : Nat} (hp : p ≤ 30) : (q.num * 10 ^ p).natAbs ≤ 10 ^ 130 := by
  have := mul_abs (x := q.num) (y := 10 ^ p) (a := 100) (b := 30) (Nat.le_of_lt h.1) (by rw [nabs_ten]; exact Nat.pow_le_pow_right (by decide) hp)
  exact this
def lowQ (q : Rat) (p : Nat) : Rat := Rat.divInt (q.num * 10 ^ p / q.den) (10 ^ p)
def highQ (q : Rat) (p : Nat) : Rat := Rat.divInt (ceilI (q.num * 10 ^ p) q.den) (10 ^ p)
theorem low_grid {q : Rat} (h : LongQ q) {p : Nat} (hp : p ≤ 30) : GridQ (lowQ q p) := grid_of hp (floor_abs _ _ (long_times h hp))
theorem high_grid {q : Rat} (h : LongQ q) {p : Nat} (hp : p ≤ 30) : GridQ (highQ q p) := grid_of hp (ceil_abs _ _ (long_times h hp))
theorem gridB_mid {q : Rat} (h : MidQ q) {p : Nat} (hp : p ≤ 30) : gridB (nT q) (dT q) (p : Int) = true := by
  unfold gridB
  have h1 : (q.num * 10 ^ p).natAbs ≤ 10 ^ 161 := mul_abs (a := 131) (b := 30) h.1 (by rw [nabs_ten]; exact Nat.pow_le_pow_right (by decide) hp)
  rw [(validQ_text h.fits).1, (num_self h.fits).1, Int.toNat_natCast, fitB_pow (by decide) h1, decide_eq_true (show (0 : Int) ≤ p by omega), decide_eq_true (show (p : Int) ≤ 30 by omega)]
  rfl
theorem downV_mid {q : Rat} (h : MidQ q) (p : Nat) : downV (nT q) (dT q) (p : Int) = lowQ q p := by
  unfold downV lowQ
  rw [(num_self h.fits).1, (num_self h.fits).2, Int.toNat_natCast]
theorem upV_mid {q : Rat} (h : MidQ q) (p : Nat) : upV (nT q) (dT q) (p : Int) = highQ q p := by
  unfold upV upI highQ ceilI
  rw [(num_self h.fits).1, (num_self h.fits).2, Int.toNat_natCast]
theorem low_again (q : Rat) (p : Nat) : highQ (lowQ q p) p = lowQ q p := by
  have := (grid_again (q.num * 10 ^ p / q.den) (ten_pos p)).2.2
  unfold highQ
  rw [show (lowQ q p) = Rat.divInt (q.num * 10 ^ p / q.den) (10 ^ p) from rfl, this]
theorem high_again (q : Rat) (p : Nat) : lowQ (highQ q p) p = highQ q p := by
  have := (grid_again (ceilI (q.num * 10 ^ p) q.den) (ten_pos p)).1
  unfold lowQ
  rw [show (highQ q p) = Rat.divInt (ceilI (q.num * 10 ^ p) q.den) (10 ^ p) from rfl, this]
theorem neg_low (q : Rat) (p : Nat) : -(lowQ (-q) p) = highQ q p := minus_down q (10 ^ p)
theorem low_cmp (q : Rat) (p : Nat) : cmpR (lowQ q p) q ≤ 0 ∧ (cmpR (lowQ q p) q = 0 ↔ q.num * 10 ^ p % q.den = 0) := down_cmp q (ten_pos p)
theorem high_cmp (q : Rat) (p : Nat) : 0 ≤ cmpR (highQ q p) q ∧ (cmpR (highQ q p) q = 0 ↔ q.num * 10 ^ p % q.den = 0) := up_cmp q (ten_pos p)
theorem width_grid (q : Rat) (p : Nat) : highQ q p - lowQ q p = if q.num * 10 ^ p % q.den = 0 then 0 else Rat.divInt 1 (10 ^ p) := width_val _ _ (ten_pos p)
theorem one_part (p : Nat) : nT (Rat.divInt 1 (10 ^ p)) = ⟨#[49]⟩ ∧ dT (Rat.divInt 1 (10 ^ p)) = powT p := by
  obtain ⟨e1, e2⟩ := divInt_coprime (n := 1) (d := (10 : Int) ^ p) (ten_pos p) (by simp)
  unfold nT dT
  rw [e1, e2]
  exact ⟨by decide +kernel, rfl⟩
theorem one_num' : validB (⟨#[49]⟩ : ByteArray) = true ∧ numB ⟨#[49]⟩ = 1 := by decide +kernel
theorem pow_num {k : Nat} (h : k < 200) : validB (powT k) = true ∧ numB (powT k) = 10 ^ k := valid_text (powT_fits h)
theorem pow_valid {k : Nat} (h : k < 200) : validQ (powT k) ⟨#[49]⟩ = true := by
  unfold validQ
  rw [(pow_num h).1, one_num'.1, one_num'.2]
  simp
theorem fit_one' : fitB 1 = true := by rw [fitB_iff]; exact one_fits
theorem times_grid {x : Rat} (h : GridQ x) {p : Nat} (hp : p ≤ 30) : mulB (nT x) (dT x) (powT p) ⟨#[49]⟩ = true := by
  have h1 : (x.num * 10 ^ p).natAbs ≤ 10 ^ 161 := mul_abs (a := 131) (b := 30) h.1 (by rw [nabs_ten]; exact Nat.pow_le_pow_right (by decide) hp)
  have hf := h.mid.fits
  unfold mulB bothB
  rw [(validQ_text hf).1, pow_valid (by omega), (num_self hf).1, (num_self hf).2, (pow_num (by omega)).2, one_num'.2, Int.mul_one, fitB_pow (by decide) h1, (fitB_iff _).2 hf.2]
  rfl
theorem int_den (C : Int) : dT (Rat.divInt C 1) = ⟨#[49]⟩ := by
  obtain ⟨_, e2⟩ := divInt_coprime (n := C) (d := 1) (by decide) (by simp)
  unfold dT
  rw [e2]
  decide +kernel
theorem times_den (C : Int) {p : Nat} (hp : p ≤ 30) (hf : FitsQ (Rat.divInt C (10 ^ p))) : dT (valQ (nT (Rat.divInt C (10 ^ p))) (dT (Rat.divInt C (10 ^ p))) * valQ (powT p) ⟨#[49]⟩) = ⟨#[49]⟩ := by
  rw [← mul_val, (num_self hf).1, (num_self hf).2, (pow_num (by omega)).2, one_num'.2, Int.mul_one, divInt_back C (ten_pos p)]
  have h2 : ((Rat.divInt C (10 ^ p)).den : Int) ≠ 0 := by have := (Rat.divInt C (10 ^ p)).den_pos; omega
  have := Rat.divInt_mul_right (n := C) (d := 1) h2
  rw [Int.one_mul] at this
  rw [this]
  exact int_den C
theorem sub_grids {x y : Rat} (hx : GridQ x) (hy : GridQ y) : subB (nT x) (dT x) (nT y) (dT y) = true ∧ valQ (nT x) (dT x) - valQ (nT y) (dT y) = x - y := by
  have fx := hx.mid.fits; have fy := hy.mid.fits
  have dx : ((x.den : Int)).natAbs ≤ 10 ^ 30 := by rw [den_abs]; exact hx.2
  have dy : ((y.den : Int)).natAbs ≤ 10 ^ 30 := by rw [den_abs]; exact hy.2
  have h1 := mul_abs hx.1 dy
  have h2 := mul_abs hy.1 dx
  have h3 := mul_abs dx dy
  have h4 : (x.num * (y.den : Int) - y.num * (x.den : Int)).natAbs ≤ 10 ^ 162 := by
    have : 10 ^ (131 + 30) + 10 ^ (131 + 30) ≤ 10 ^ 162 := by decide +kernel
    omega
  unfold subB
  rw [both_texts fx fy, (num_self fx).1, (num_self fx).2, (num_self fy).1, (num_self fy).2, fitB_pow (by decide) h1, fitB_pow (by decide) h2, fitB_pow (by decide) h3, fitB_pow (by decide) h4, (validQ_text fx).2, (validQ_text fy).2]
  exact ⟨rfl, rfl⟩
theorem neg_text {x : Rat} (h : FitsQ x) : subB ⟨#[48]⟩ ⟨#[49]⟩ (nT x) (dT x) = true ∧ valQ ⟨#[48]⟩ ⟨#[49]⟩ - valQ (nT x) (dT x) = -x := by
  have hz := zero_fits
  have h0 : numB (⟨#[48]⟩ : ByteArray) = 0 := by decide +kernel
  have hv : validQ ⟨#[48]⟩ ⟨#[49]⟩ = true ∧ valQ ⟨#[48]⟩ ⟨#[49]⟩ = 0 := by rw [zero_texts.1, zero_texts.2]; exact validQ_text hz
  have hn : Fits (0 - x.num) := by unfold Fits; rw [Int.zero_sub, Int.natAbs_neg]; exact h.1
  refine ⟨?_, ?_⟩
  · unfold subB bothB
    rw [hv.1, (validQ_text h).1, (num_self h).1, (num_self h).2, h0, one_num'.2, Int.zero_mul, Int.mul_one, Int.one_mul, (fitB_iff _).2 h.1, (fitB_iff _).2 h.2, (fitB_iff _).2 hn, show fitB 0 = true from (fitB_iff _).2 hz.1]
    rfl
  · rw [hv.2, (validQ_text h).2, Rat.sub_eq_add_neg, Rat.zero_add]
theorem neg_fits {x : Rat} (h : FitsQ x) : FitsQ (-x) := by
  unfold FitsQ Fits
  rw [Rat.neg_num, Rat.neg_den, Int.natAbs_neg]
  exact h

end Go.Proofs.YtlcibnmcannapaaGreatDoor
