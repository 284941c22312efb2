/-
  Facts of sums, differences, products and quotients as texts: what RationalField compares.
-/
import Derived.Test.YtlcibnmcannapaaGreatDoorOrdQ
import Derived.Test.YtlcibnmcannapaaGreatDoorSmallQ
namespace Go.Proofs.YtlcibnmcannapaaGreatDoor
open Go Go.Proofs Go.RowKit Go.Lib

theorem both_comm (an ad bn bd : ByteArray) : bothB an ad bn bd = bothB bn bd an ad := by unfold bothB; exact Bool.and_comm _ _
theorem addB_comm (an ad bn bd : ByteArray) : addB an ad bn bd = addB bn bd an ad := by
  unfold addB
  rw [both_comm an ad bn bd, Int.mul_comm (numB ad) (numB bd), Int.add_comm (numB an * numB bd)]
  rw [Bool.and_left_comm (fitB (numB an * numB bd))]
theorem mulB_comm (an ad bn bd : ByteArray) : mulB an ad bn bd = mulB bn bd an ad := by
  unfold mulB
  rw [both_comm an ad bn bd, Int.mul_comm (numB ad) (numB bd), Int.mul_comm (numB an) (numB bn)]
theorem out_val {b : Bool} {x : Rat} (hb : b = true) (h : FitsQ x) : valQ (outN b x) (outD b x) = x := by subst hb; exact (validQ_text h).2
theorem out_texts {b c : Bool} {x y : Rat} (hb : b = true) (hc : c = true) (h : x = y) : outN b x = outN c y ∧ outD b x = outD c y := by subst hb hc h; exact ⟨rfl, rfl⟩
theorem out_nT {b : Bool} {x y : Rat} (hb : b = true) (h : x = y) : outN b x = nT y ∧ outD b x = dT y := by subst hb h; exact ⟨rfl, rfl⟩
theorem add_comm_texts (an ad bn bd : ByteArray) : outN (addB an ad bn bd) (valQ an ad + valQ bn bd) = outN (addB bn bd an ad) (valQ bn bd + valQ an ad) ∧ outD (addB an ad bn bd) (valQ an ad + valQ bn bd) = outD (addB bn bd an ad) (valQ bn bd + valQ an ad) := by
  rw [addB_comm an ad bn bd, Rat.add_comm]; exact ⟨rfl, rfl⟩
theorem mul_comm_texts (an ad bn bd : ByteArray) : outN (mulB an ad bn bd) (valQ an ad * valQ bn bd) = outN (mulB bn bd an ad) (valQ bn bd * valQ an ad) ∧ outD (mulB an ad bn bd) (valQ an ad * valQ bn bd) = outD (mulB bn bd an ad) (valQ bn bd * valQ an ad) := by
  rw [mulB_comm an ad bn bd, Rat.mul_comm]; exact ⟨rfl, rfl⟩
/-- The results of the operations, as texts. -/
def sumN (an ad bn bd : ByteArray) : ByteArray := outN (addB an ad bn bd) (valQ an ad + valQ bn bd)
def sumD (an ad bn bd : ByteArray) : ByteArray := outD (addB an ad bn bd) (valQ an ad + valQ bn bd)
def difN (an ad bn bd : ByteArray) : ByteArray := outN (subB an ad bn bd) (valQ an ad - valQ bn bd)
def difD (an ad bn bd : ByteArray) : ByteArray := outD (subB an ad bn bd) (valQ an ad - valQ bn bd)
def proN (an ad bn bd : ByteArray) : ByteArray := outN (mulB an ad bn bd) (valQ an ad * valQ bn bd)
def proD (an ad bn bd : ByteArray) : ByteArray := outD (mulB an ad bn bd) (valQ an ad * valQ bn bd)
def quoN (an ad bn bd : ByteArray) : ByteArray := outN (divB an ad bn bd) (valQ an ad / valQ bn bd)
def quoD (an ad bn bd : ByteArray) : ByteArray := outD (divB an ad bn bd) (valQ an ad / valQ bn bd)
theorem sum_size (an ad bn bd : ByteArray) : (sumN an ad bn bd).size ≤ 1099511627776 ∧ (sumD an ad bn bd).size ≤ 1099511627776 := out_size addB_fits
theorem dif_size (an ad bn bd : ByteArray) : (difN an ad bn bd).size ≤ 1099511627776 ∧ (difD an ad bn bd).size ≤ 1099511627776 := out_size subB_fits
theorem pro_size (an ad bn bd : ByteArray) : (proN an ad bn bd).size ≤ 1099511627776 ∧ (proD an ad bn bd).size ≤ 1099511627776 := out_size mulB_fits
theorem quo_size (an ad bn bd : ByteArray) : (quoN an ad bn bd).size ≤ 1099511627776 ∧ (quoD an ad bn bd).size ≤ 1099511627776 := out_size divB_fits
theorem sum_val {an ad bn bd : ByteArray} (h : addB an ad bn bd = true) : valQ (sumN an ad bn bd) (sumD an ad bn bd) = valQ an ad + valQ bn bd := out_val h (addB_fits h)
theorem dif_val {an ad bn bd : ByteArray} (h : subB an ad bn bd = true) : valQ (difN an ad bn bd) (difD an ad bn bd) = valQ an ad - valQ bn bd := out_val h (subB_fits h)
theorem pro_val {an ad bn bd : ByteArray} (h : mulB an ad bn bd = true) : valQ (proN an ad bn bd) (proD an ad bn bd) = valQ an ad * valQ bn bd := out_val h (mulB_fits h)
theorem quo_val {an ad bn bd : ByteArray} (h : divB an ad bn bd = true) : valQ (quoN an ad bn bd) (quoD an ad bn bd) = valQ an ad / valQ bn bd := out_val h (divB_fits h)
theorem sum_comm (an ad bn bd : ByteArray) : sumN an ad bn bd = sumN bn bd an ad ∧ sumD an ad bn bd = sumD bn bd an ad := add_comm_texts an ad bn bd
theorem pro_comm (an ad bn bd : ByteArray) : proN an ad bn bd = proN bn bd an ad ∧ proD an ad bn bd = proD bn bd an ad := mul_comm_texts an ad bn bd
theorem sum_assoc (an ad bn bd cn cd : ByteArray) (h1 : addB an ad bn bd = true) (h2 : addB bn bd cn cd = true)
    (h3 : addB (sumN an ad bn bd) (sumD an ad bn bd) cn cd = true) (h4 : addB an ad (sumN bn bd cn cd) (sumD bn bd cn cd) = true) :
    sumN (sumN an ad bn bd) (sumD an ad bn bd) cn cd = sumN an ad (sumN bn bd cn cd) (sumD bn bd cn cd) ∧ sumD (sumN an ad bn bd) (sumD an ad bn bd) cn cd = sumD an ad (sumN bn bd cn cd) (sumD bn bd cn cd) :=
  out_texts h3 h4 (by rw [sum_val h1, sum_val h2, Rat.add_assoc])
theorem pro_assoc (an ad bn bd cn cd : ByteArray) (h1 : mulB an ad bn bd = true) (h2 : mulB bn bd cn cd = true)
    (h3 : mulB (proN an ad bn bd) (proD an ad bn bd) cn cd = true) (h4 : mulB an ad (proN bn bd cn cd) (proD bn bd cn cd) = true) :
    proN an ad (proN bn bd cn cd) (proD bn bd cn cd) = proN (proN an ad bn bd) (proD an ad bn bd) cn cd ∧ proD an ad (proN bn bd cn cd) (proD bn bd cn cd) = proD (proN an ad bn bd) (proD an ad bn bd) cn cd :=
  out_texts h4 h3 (by rw [pro_val h1, pro_val h2, Rat.mul_assoc])
theorem distrib (an ad bn bd cn cd : ByteArray) (h1 : addB an ad bn bd = true) (h2 : mulB an ad cn cd = true) (h3 : mulB bn bd cn cd = true)
    (h4 : addB (proN an ad cn cd) (proD an ad cn cd) (proN bn bd cn cd) (proD bn bd cn cd) = true) (h5 : mulB (sumN an ad bn bd) (sumD an ad bn bd) cn cd = true) :
    sumN (proN an ad cn cd) (proD an ad cn cd) (proN bn bd cn cd) (proD bn bd cn cd) = proN (sumN an ad bn bd) (sumD an ad bn bd) cn cd ∧ sumD (proN an ad cn cd) (proD an ad cn cd) (proN bn bd cn cd) (proD bn bd cn cd) = proD (sumN an ad bn bd) (sumD an ad bn bd) cn cd :=
  out_texts h4 h5 (by rw [sum_val h1, pro_val h2, pro_val h3, Rat.add_mul])
theorem sum_back (x : Rat) (hx : FitsQ x) (bn bd : ByteArray) (h1 : addB (nT x) (dT x) bn bd = true) (h2 : subB (sumN (nT x) (dT x) bn bd) (sumD (nT x) (dT x) bn bd) bn bd = true) :
    difN (sumN (nT x) (dT x) bn bd) (sumD (nT x) (dT x) bn bd) bn bd = nT x ∧ difD (sumN (nT x) (dT x) bn bd) (sumD (nT x) (dT x) bn bd) bn bd = dT x :=
  out_nT h2 (by rw [sum_val h1, (validQ_text hx).2, Rat.add_sub_cancel])
theorem div_ne {an ad bn bd : ByteArray} (h : divB an ad bn bd = true) : valQ bn bd ≠ 0 := by
  simp only [divB, Bool.and_eq_true] at h
  obtain ⟨hb, _, h5⟩ := h
  intro e
  have := (validQ_num (both_parts hb).2).1
  rw [e] at this
  exact (of_decide_eq_true h5) this.symm
theorem quo_back (x : Rat) (hx : FitsQ x) (bn bd : ByteArray) (h1 : divB (nT x) (dT x) bn bd = true) (h2 : mulB (quoN (nT x) (dT x) bn bd) (quoD (nT x) (dT x) bn bd) bn bd = true) :
    proN (quoN (nT x) (dT x) bn bd) (quoD (nT x) (dT x) bn bd) bn bd = nT x ∧ proD (quoN (nT x) (dT x) bn bd) (quoD (nT x) (dT x) bn bd) bn bd = dT x :=
  out_nT h2 (by rw [quo_val h1, (validQ_text hx).2, Rat.div_mul_cancel (div_ne h1)])
def LowQ (x : Rat) : Prop := x.num.natAbs ≤ 999 ∧ x.den ≤ 60
theorem small_low (x y : Int) : LowQ (smallQ x y) := by
  have h1 := pickI_range x (n := 1999) (by decide)
  have h2 := pickI_range y (n := 60) (by decide)
  obtain ⟨h3, h4⟩ := divInt_num_le (pickI x 1999 - 999) (1 + pickI y 60) (by omega)
  exact ⟨show (smallQ x y).num.natAbs ≤ 999 from Nat.le_trans h3 (by omega), show (smallQ x y).den ≤ 60 from Nat.le_trans h4 (by omega)⟩
theorem LowQ.fits {x : Rat} (h : LowQ x) : FitsQ x := ⟨fits_of_le (k := 999) (by decide +kernel) h.1, fits_of_le (k := 60) (by decide +kernel) (by rw [Int.natAbs_natCast]; exact h.2)⟩
theorem low_mul {x y : Int} {a b : Nat} (h1 : x.natAbs ≤ a) (h2 : y.natAbs ≤ b) : (x * y).natAbs ≤ a * b := by rw [Int.natAbs_mul]; exact Nat.mul_le_mul h1 h2
theorem low_ops {x y : Rat} (hx : LowQ x) (hy : LowQ y) : addB (nT x) (dT x) (nT y) (dT y) = true ∧ mulB (nT x) (dT x) (nT y) (dT y) = true := by
  have fx := hx.fits; have fy := hy.fits
  have ex := (valid_text fx.1).2; have exd := (valid_text fx.2).2
  have ey := (valid_text fy.1).2; have eyd := (valid_text fy.2).2
  have dx : ((x.den : Int)).natAbs ≤ 60 := by rw [Int.natAbs_natCast]; exact hx.2
  have dy : ((y.den : Int)).natAbs ≤ 60 := by rw [Int.natAbs_natCast]; exact hy.2
  have h1 := low_mul hx.1 dy
  have h2 := low_mul hy.1 dx
  have h3 := low_mul dx dy
  have h4 : (x.num * (y.den : Int) + y.num * (x.den : Int)).natAbs ≤ 1000000 := by omega
  have h5 := low_mul hx.1 hy.1
  have K : ∀ {z : Int} {k : Nat}, k < 10 ^ 200 → z.natAbs ≤ k → fitB z = true := fun hk h => (fitB_iff _).2 (fits_of_le hk h)
  refine ⟨?_, ?_⟩
  · unfold addB
    rw [both_texts fx fy, show numB (nT x) = x.num from ex, show numB (dT x) = (x.den : Int) from exd, show numB (nT y) = y.num from ey, show numB (dT y) = (y.den : Int) from eyd]
    rw [K (by decide +kernel) h1, K (by decide +kernel) h2, K (by decide +kernel) h3, K (by decide +kernel) h4]
    rfl
  · unfold mulB
    rw [both_texts fx fy, show numB (nT x) = x.num from ex, show numB (dT x) = (x.den : Int) from exd, show numB (nT y) = y.num from ey, show numB (dT y) = (y.den : Int) from eyd]
    rw [K (by decide +kernel) h5, K (by decide +kernel) h3]
    rfl

end Go.Proofs.YtlcibnmcannapaaGreatDoor
