/-
  Plain mathematics of layer 4: which pairs of strings are fractions, and what the calls of rational answer.
-/
import Derived.Test.YtlcibnmcannapaaGreatDoorGdefs
namespace Go.Proofs.YtlcibnmcannapaaGreatDoor

/-- What rational.Valid returns. -/
def validQ (n d : ByteArray) : Bool := validB n && (validB d && (decide (0 < numB d) && decide (Nat.gcd (numB n).natAbs (numB d).natAbs = 1)))
/-- The value of a valid fraction. -/
def valQ (n d : ByteArray) : Rat := Rat.divInt (numB n) (numB d)
def FitsQ (x : Rat) : Prop := Fits x.num ∧ Fits (x.den : Int)
def nT (x : Rat) : ByteArray := textI x.num
def dT (x : Rat) : ByteArray := textI (x.den : Int)
theorem fits_of_le {a : Int} {k : Nat} (h : k < 10 ^ 200) (ha : a.natAbs ≤ k) : Fits a := Nat.lt_of_le_of_lt ha h
theorem divInt_pos (n : Int) {d : Int} (hd : 0 < d) : Rat.divInt n d = mkRat n d.natAbs := by
  have : (d.natAbs : Int) = d := by omega
  rw [← Rat.divInt_ofNat, this]
theorem divInt_num_le (n d : Int) (hd : d ≠ 0) : (Rat.divInt n d).num.natAbs ≤ n.natAbs ∧ (Rat.divInt n d).den ≤ d.natAbs := by
  constructor
  · rw [Rat.num_divInt]
    refine Nat.le_trans (Int.natAbs_ediv_le_natAbs _ _) ?_
    rw [Int.natAbs_mul]
    have : d.sign.natAbs ≤ 1 := by rcases Int.lt_trichotomy d 0 with h | h | h <;> simp [Int.sign_eq_neg_one_of_neg, Int.sign_eq_one_of_pos, h]
    calc d.sign.natAbs * n.natAbs ≤ 1 * n.natAbs := Nat.mul_le_mul_right _ this
      _ = n.natAbs := Nat.one_mul _
  · rw [Rat.den_divInt, if_neg hd]
    exact Nat.div_le_self _ _
theorem divInt_fits {n d : Int} (hn : Fits n) (hd : Fits d) (h0 : d ≠ 0) : FitsQ (Rat.divInt n d) := by
  obtain ⟨h1, h2⟩ := divInt_num_le n d h0
  unfold FitsQ Fits at *
  exact ⟨by omega, by omega⟩
theorem validQ_parts {n d : ByteArray} (h : validQ n d = true) : validB n = true ∧ validB d = true ∧ 0 < numB d ∧ Nat.gcd (numB n).natAbs (numB d).natAbs = 1 := by
  unfold validQ at h
  simp only [Bool.and_eq_true, decide_eq_true_eq] at h
  exact h
theorem divInt_coprime {n d : Int} (hd : 0 < d) (h : Nat.gcd n.natAbs d.natAbs = 1) : (Rat.divInt n d).num = n ∧ ((Rat.divInt n d).den : Int) = d := by
  have hz : d.natAbs ≠ 0 := by omega
  rw [divInt_pos n hd]
  rw [← Rat.mk_eq_mkRat n d.natAbs hz h]
  exact ⟨rfl, by show (d.natAbs : Int) = d; omega⟩
theorem validQ_num {n d : ByteArray} (h : validQ n d = true) : (valQ n d).num = numB n ∧ ((valQ n d).den : Int) = numB d := by
  obtain ⟨_, _, h3, h4⟩ := validQ_parts h
  exact divInt_coprime h3 h4
/-- A valid fraction is the text of its value, which fits. -/
theorem text_validQ {n d : ByteArray} (h : validQ n d = true) : FitsQ (valQ n d) ∧ n = nT (valQ n d) ∧ d = dT (valQ n d) := by
  obtain ⟨h1, h2, _, _⟩ := validQ_parts h
  obtain ⟨e1, e2⟩ := validQ_num h
  obtain ⟨a1, a2⟩ := text_valid h1
  obtain ⟨b1, b2⟩ := text_valid h2
  unfold FitsQ nT dT
  rw [e1, e2]
  exact ⟨⟨a1, b1⟩, a2, b2⟩
theorem validQ_text {x : Rat} (h : FitsQ x) : validQ (nT x) (dT x) = true ∧ valQ (nT x) (dT x) = x := by
  obtain ⟨a1, a2⟩ := valid_text h.1
  obtain ⟨b1, b2⟩ := valid_text h.2
  unfold validQ valQ nT dT
  rw [a1, b1, a2, b2]
  refine ⟨?_, ?_⟩
  · have := x.den_pos
    have h2 := x.reduced
    simp only [Bool.true_and, Bool.and_eq_true, decide_eq_true_eq]
    exact ⟨by omega, by simpa [Nat.Coprime] using h2⟩
  · rw [Rat.divInt_ofNat]
    exact (Rat.mkRat_self x)
theorem nT_size {x : Rat} (h : FitsQ x) : (nT x).size ≤ 1000 := fits_size h.1
theorem dT_size {x : Rat} (h : FitsQ x) : (dT x).size ≤ 1000 := fits_size h.2
theorem textQ_inj {x y : Rat} (h1 : nT x = nT y) (h2 : dT x = dT y) : x = y := by
  have := textI_inj h1
  have h3 := textI_inj h2
  exact Rat.ext this (by omega)

/-- The results of a call that returns a fraction. -/
def outN (b : Bool) (x : Rat) : ByteArray := if b then nT x else ByteArray.empty
def outD (b : Bool) (x : Rat) : ByteArray := if b then dT x else ByteArray.empty
def outE (b : Bool) : Int := if b then 0 else 40
def fitB (x : Int) : Bool := decide (x.natAbs < 10 ^ 200)
theorem fitB_iff (x : Int) : fitB x = true ↔ Fits x := by unfold fitB Fits; simp
/-- Make. -/
def makeB (s t : ByteArray) : Bool := validB s && (validB t && decide (numB t ≠ 0))
theorem make_fits {s t : ByteArray} (h : makeB s t = true) : FitsQ (valQ s t) := by
  unfold makeB at h
  simp only [Bool.and_eq_true, decide_eq_true_eq] at h
  exact divInt_fits (text_valid h.1).1 (text_valid h.2.1).1 h.2.2

def bothB (an ad bn bd : ByteArray) : Bool := validQ an ad && validQ bn bd
def addB (an ad bn bd : ByteArray) : Bool := bothB an ad bn bd && ((fitB (numB an * numB bd) && (fitB (numB bn * numB ad) && fitB (numB ad * numB bd))) && fitB (numB an * numB bd + numB bn * numB ad))
def subB (an ad bn bd : ByteArray) : Bool := bothB an ad bn bd && ((fitB (numB an * numB bd) && (fitB (numB bn * numB ad) && fitB (numB ad * numB bd))) && fitB (numB an * numB bd - numB bn * numB ad))
def mulB (an ad bn bd : ByteArray) : Bool := bothB an ad bn bd && (fitB (numB an * numB bn) && fitB (numB ad * numB bd))
def divB (an ad bn bd : ByteArray) : Bool := bothB an ad bn bd && ((fitB (numB an * numB bd) && fitB (numB ad * numB bn)) && decide (numB bn ≠ 0))
theorem both_parts {an ad bn bd : ByteArray} (h : bothB an ad bn bd = true) : validQ an ad = true ∧ validQ bn bd = true := by
  unfold bothB at h; simpa using h
theorem den_ne {n d : ByteArray} (h : validQ n d = true) : numB d ≠ 0 := by have := (validQ_parts h).2.2.1; omega
theorem add_val {an ad bn bd : ByteArray} (h : bothB an ad bn bd = true) : Rat.divInt (numB an * numB bd + numB bn * numB ad) (numB ad * numB bd) = valQ an ad + valQ bn bd := by
  obtain ⟨h1, h2⟩ := both_parts h
  unfold valQ
  rw [Rat.divInt_add_divInt _ _ (den_ne h1) (den_ne h2)]
theorem sub_val {an ad bn bd : ByteArray} (h : bothB an ad bn bd = true) : Rat.divInt (numB an * numB bd - numB bn * numB ad) (numB ad * numB bd) = valQ an ad - valQ bn bd := by
  obtain ⟨h1, h2⟩ := both_parts h
  unfold valQ
  rw [Rat.divInt_sub_divInt _ _ (den_ne h1) (den_ne h2)]
theorem mul_val (an ad bn bd : ByteArray) : Rat.divInt (numB an * numB bn) (numB ad * numB bd) = valQ an ad * valQ bn bd := by
  unfold valQ
  rw [Rat.divInt_mul_divInt]
theorem div_val (an ad bn bd : ByteArray) : Rat.divInt (numB an * numB bd) (numB ad * numB bn) = valQ an ad / valQ bn bd := by
  unfold valQ
  rw [Rat.div_def, Rat.inv_divInt, Rat.divInt_mul_divInt]

/-- Compare. -/
def cmpR (x y : Rat) : Int := if x < y then -1 else if y < x then 1 else 0
def cmpQ (an ad bn bd : ByteArray) : Int := if bothB an ad bn bd then cmpR (valQ an ad) (valQ bn bd) else 0
def sgZ (x y : Int) : Int := if x < y then -1 else if y < x then 1 else 0
theorem divInt_lt {a b c d : Int} (hb : 0 < b) (hd : 0 < d) : Rat.divInt a b < Rat.divInt c d ↔ a * d < c * b := by
  have h1 := Rat.div_def ((a : Rat)) ((b : Rat))
  have eb : Rat.divInt a b = (a : Rat) / (b : Rat) := Rat.divInt_eq_div a b
  have ed : Rat.divInt c d = (c : Rat) / (d : Rat) := Rat.divInt_eq_div c d
  have hb' : (0 : Rat) < (b : Rat) := Rat.intCast_pos.2 hb
  have hd' : (0 : Rat) < (d : Rat) := Rat.intCast_pos.2 hd
  rw [eb, ed, Rat.lt_div_iff hd', Rat.div_def, Rat.mul_assoc, Rat.mul_comm (b : Rat)⁻¹, ← Rat.mul_assoc, ← Rat.div_def, Rat.div_lt_iff hb', ← Rat.intCast_mul, ← Rat.intCast_mul, Rat.intCast_lt_intCast]
theorem cmpR_divInt {a b c d : Int} (hb : 0 < b) (hd : 0 < d) : cmpR (Rat.divInt a b) (Rat.divInt c d) = sgZ (a * d) (c * b) := by
  unfold cmpR sgZ
  by_cases h1 : a * d < c * b
  · rw [if_pos ((divInt_lt hb hd).2 h1), if_pos h1]
  · rw [if_neg (fun h => h1 ((divInt_lt hb hd).1 h)), if_neg h1]
    by_cases h2 : c * b < a * d
    · rw [if_pos ((divInt_lt hd hb).2 h2), if_pos h2]
    · rw [if_neg (fun h => h2 ((divInt_lt hd hb).1 h)), if_neg h2]
theorem cmpQ_both {an ad bn bd : ByteArray} (h : bothB an ad bn bd = true) : cmpQ an ad bn bd = sgZ (numB an * numB bd) (numB bn * numB ad) := by
  obtain ⟨h1, h2⟩ := both_parts h
  unfold cmpQ
  rw [if_pos h]
  exact cmpR_divInt (validQ_parts h1).2.2.1 (validQ_parts h2).2.2.1

/-- Down and Up. -/
def gridB (n d : ByteArray) (p : Int) : Bool := (validQ n d && (decide (0 ≤ p) && decide (p ≤ 30))) && fitB (numB n * 10 ^ p.toNat)
def downV (n d : ByteArray) (p : Int) : Rat := Rat.divInt (numB n * 10 ^ p.toNat / numB d) (10 ^ p.toNat)
def upI (n d : ByteArray) (p : Int) : Int := numB n * 10 ^ p.toNat / numB d + (if numB n * 10 ^ p.toNat % numB d = 0 then 0 else 1)
def upV (n d : ByteArray) (p : Int) : Rat := Rat.divInt (upI n d p) (10 ^ p.toNat)
end Go.Proofs.YtlcibnmcannapaaGreatDoor
