/-
  Facts of small fractions: what RationalMachine compares.
-/
import Derived.Test.YtlcibnmcannapaaGreatDoorFourQ
namespace Go.Proofs.YtlcibnmcannapaaGreatDoor
open Go Go.Proofs Go.RowKit Go.Lib

/-- A result of small numbers: what ToInt says of its texts. -/
def MachK (N D : ByteArray) (u v p r : Int) : Prop :=
  N.size ≤ 1099511627776 ∧ D.size ≤ 1099511627776 ∧ toT N = p ∧ toZ N = 0 ∧ toT D = r ∧ toZ D = 0 ∧ (1 ≤ r ∧ r ≤ 900000000 ∧ -1800000000 ≤ p ∧ p ≤ 1800000000) ∧ p * v = u * r ∧ validQ N D = true
theorem mach_of {q : Rat} {u v : Int} (h : q = Rat.divInt u v) (hv : v ≠ 0) (hu : u.natAbs ≤ 1800000000) (hv2 : v.natAbs ≤ 900000000) : MachK (nT q) (dT q) u v q.num q.den := by
  obtain ⟨h1, h2⟩ := divInt_num_le u v hv
  rw [← h] at h1 h2
  have h3 := q.den_pos
  have f1 : Fits q.num := fits_of_le (k := 1800000000) (by decide +kernel) (by omega)
  have f2 : Fits (q.den : Int) := fits_of_le (k := 900000000) (by decide +kernel) (by rw [Int.natAbs_natCast]; omega)
  have hf : FitsQ q := ⟨f1, f2⟩
  obtain ⟨s1, s2⟩ := text_size hf
  obtain ⟨v1, n1⟩ := valid_text f1
  obtain ⟨v2, n2⟩ := valid_text f2
  have g1 : fitM (nT q) = true := by
    unfold fitM
    rw [show validB (nT q) = true from v1, show numB (nT q) = q.num from n1, Bool.true_and, decide_eq_true_eq]
    omega
  have g2 : fitM (dT q) = true := by
    unfold fitM
    rw [show validB (dT q) = true from v2, show numB (dT q) = (q.den : Int) from n2, Bool.true_and, decide_eq_true_eq]
    omega
  refine ⟨s1, s2, ?_, ?_, ?_, ?_, ⟨by omega, by omega, by omega, by omega⟩, ?_, (validQ_text hf).1⟩
  · unfold toT; rw [if_pos g1]; exact n1
  · unfold toZ; rw [if_pos g1]
  · unfold toT; rw [if_pos g2]; exact n2
  · unfold toZ; rw [if_pos g2]
  · have e : Rat.divInt q.num (q.den : Int) = Rat.divInt u v := by rw [rat_self]; exact h
    exact (Rat.divInt_eq_divInt_iff (by omega) hv).1 e
def TenQ (x : Rat) : Prop := x.num.natAbs ≤ 30000 ∧ x.den ≤ 30000
theorem ten_of {u v : Int} (hv : v ≠ 0) (h1 : u.natAbs ≤ 30000) (h2 : v.natAbs ≤ 30000) : TenQ (Rat.divInt u v) := by
  obtain ⟨h3, h4⟩ := divInt_num_le u v hv
  exact ⟨Nat.le_trans h3 h1, Nat.le_trans h4 h2⟩
theorem TenQ.fits {x : Rat} (h : TenQ x) : FitsQ x := ⟨fits_of_le (k := 30000) (by decide +kernel) h.1, fits_of_le (k := 30000) (by decide +kernel) (by rw [Int.natAbs_natCast]; exact h.2)⟩
theorem ten_ops {x y : Rat} (hx : TenQ x) (hy : TenQ y) : addB (nT x) (dT x) (nT y) (dT y) = true ∧ subB (nT x) (dT x) (nT y) (dT y) = true ∧ mulB (nT x) (dT x) (nT y) (dT y) = true ∧ divB (nT x) (dT x) (nT y) (dT y) = decide (y.num ≠ 0) := by
  have fx := hx.fits; have fy := hy.fits
  have ex := (valid_text fx.1).2; have exd := (valid_text fx.2).2
  have ey := (valid_text fy.1).2; have eyd := (valid_text fy.2).2
  have dx : ((x.den : Int)).natAbs ≤ 30000 := by rw [Int.natAbs_natCast]; exact hx.2
  have dy : ((y.den : Int)).natAbs ≤ 30000 := by rw [Int.natAbs_natCast]; exact hy.2
  have h1 := low_mul hx.1 dy
  have h2 := low_mul hy.1 dx
  have h2' := low_mul dx hy.1
  have h3 := low_mul dx dy
  have h4 : (x.num * (y.den : Int) + y.num * (x.den : Int)).natAbs ≤ 2000000000 := by omega
  have h4' : (x.num * (y.den : Int) - y.num * (x.den : Int)).natAbs ≤ 2000000000 := by omega
  have h5 := low_mul hx.1 hy.1
  have K : ∀ {z : Int} {k : Nat}, k < 10 ^ 200 → z.natAbs ≤ k → fitB z = true := fun hk h => (fitB_iff _).2 (fits_of_le hk h)
  have E : numB (nT x) = x.num ∧ numB (dT x) = (x.den : Int) ∧ numB (nT y) = y.num ∧ numB (dT y) = (y.den : Int) := ⟨ex, exd, ey, eyd⟩
  refine ⟨?_, ?_, ?_, ?_⟩
  · unfold addB
    rw [both_texts fx fy, E.1, E.2.1, E.2.2.1, E.2.2.2, K (by decide +kernel) h1, K (by decide +kernel) h2, K (by decide +kernel) h3, K (by decide +kernel) h4]
    rfl
  · unfold subB
    rw [both_texts fx fy, E.1, E.2.1, E.2.2.1, E.2.2.2, K (by decide +kernel) h1, K (by decide +kernel) h2, K (by decide +kernel) h3, K (by decide +kernel) h4']
    rfl
  · unfold mulB
    rw [both_texts fx fy, E.1, E.2.1, E.2.2.1, E.2.2.2, K (by decide +kernel) h5, K (by decide +kernel) h3]
    rfl
  · unfold divB
    rw [both_texts fx fy, E.1, E.2.1, E.2.2.1, E.2.2.2, K (by decide +kernel) h1, K (by decide +kernel) h2']
    rfl
theorem ten_texts {x y : Rat} (hx : TenQ x) (hy : TenQ y) :
    (sumN (nT x) (dT x) (nT y) (dT y) = nT (x + y) ∧ sumD (nT x) (dT x) (nT y) (dT y) = dT (x + y)) ∧ (difN (nT x) (dT x) (nT y) (dT y) = nT (x - y) ∧ difD (nT x) (dT x) (nT y) (dT y) = dT (x - y)) ∧
      (proN (nT x) (dT x) (nT y) (dT y) = nT (x * y) ∧ proD (nT x) (dT x) (nT y) (dT y) = dT (x * y)) ∧ (y.num ≠ 0 → quoN (nT x) (dT x) (nT y) (dT y) = nT (x / y) ∧ quoD (nT x) (dT x) (nT y) (dT y) = dT (x / y)) ∧
      (y.num = 0 → quoN (nT x) (dT x) (nT y) (dT y) = ⟨#[]⟩ ∧ quoD (nT x) (dT x) (nT y) (dT y) = ⟨#[]⟩) := by
  obtain ⟨o1, o2, o3, o4⟩ := ten_ops hx hy
  have vx := (validQ_text hx.fits).2; have vy := (validQ_text hy.fits).2
  refine ⟨?_, ?_, ?_, fun h => ?_, fun h => ?_⟩
  · unfold sumN sumD; rw [o1, vx, vy]; exact ⟨rfl, rfl⟩
  · unfold difN difD; rw [o2, vx, vy]; exact ⟨rfl, rfl⟩
  · unfold proN proD; rw [o3, vx, vy]; exact ⟨rfl, rfl⟩
  · unfold quoN quoD; rw [o4, decide_eq_true h, vx, vy]; exact ⟨rfl, rfl⟩
  · unfold quoN quoD; rw [o4, decide_eq_false (fun h2 => h2 h)]; exact ⟨rfl, rfl⟩
theorem num_zero {u v : Int} (hv : v ≠ 0) : (Rat.divInt u v).num = 0 ↔ u = 0 := by
  have e : Rat.divInt (Rat.divInt u v).num ((Rat.divInt u v).den : Int) = Rat.divInt u v := rat_self _
  have hd : ((Rat.divInt u v).den : Int) ≠ 0 := by have := (Rat.divInt u v).den_pos; omega
  have h := (Rat.divInt_eq_divInt_iff hd hv).1 e
  constructor
  · intro h0
    rw [h0, Int.zero_mul] at h
    rcases Int.mul_eq_zero.1 h.symm with h1 | h1
    · exact h1
    · exact absurd h1 hd
  · intro h0
    rw [h0, Int.zero_mul] at h
    rcases Int.mul_eq_zero.1 h with h1 | h1
    · rw [h0]; exact h1
    · exact absurd h1 hv
/-- All that the walk asks of the four results. -/
theorem mach_all (n d m c : Int) (hn : n.natAbs ≤ 30000) (hm : m.natAbs ≤ 30000) (hd : 1 ≤ d) (hd2 : d ≤ 30000) (hc : 1 ≤ c) (hc2 : c ≤ 30000) :
    ∃ (xn xd yn yd n0 d0 n1 d1 n2 d2 n3 d3 : ByteArray) (e3 p0 r0 p1 r1 p2 r2 p3 r3 : Int),
      (xn.size ≤ 1099511627776 ∧ xd.size ≤ 1099511627776 ∧ yn.size ≤ 1099511627776 ∧ yd.size ≤ 1099511627776) ∧
      (xn = nT (Rat.divInt n d) ∧ xd = dT (Rat.divInt n d) ∧ yn = nT (Rat.divInt m c) ∧ yd = dT (Rat.divInt m c)) ∧
      cmpQ xn xd yn yd = sgZ (n * c) (m * d) ∧
      (sumN xn xd yn yd = n0 ∧ sumD xn xd yn yd = d0 ∧ difN xn xd yn yd = n1 ∧ difD xn xd yn yd = d1 ∧ proN xn xd yn yd = n2 ∧ proD xn xd yn yd = d2 ∧ quoN xn xd yn yd = n3 ∧ quoD xn xd yn yd = d3) ∧
      (addB xn xd yn yd = true ∧ subB xn xd yn yd = true ∧ mulB xn xd yn yd = true ∧ outE (divB xn xd yn yd) = e3) ∧
      MachK n0 d0 (n * c + m * d) (d * c) p0 r0 ∧ MachK n1 d1 (n * c - m * d) (d * c) p1 r1 ∧ MachK n2 d2 (n * m) (d * c) p2 r2 ∧
      (m = 0 → n3 = ⟨#[]⟩ ∧ d3 = ⟨#[]⟩ ∧ e3 = 40) ∧ (m ≠ 0 → e3 = 0 ∧ MachK n3 d3 (n * c) (d * m) p3 r3) := by
  have hd0 : d ≠ 0 := by omega
  have hc0 : c ≠ 0 := by omega
  have hx : TenQ (Rat.divInt n d) := ten_of hd0 hn (by omega)
  have hy : TenQ (Rat.divInt m c) := ten_of hc0 hm (by omega)
  obtain ⟨o1, o2, o3, o4⟩ := ten_ops hx hy
  obtain ⟨⟨t0, t1⟩, ⟨t2, t3⟩, ⟨t4, t5⟩, t6, t7⟩ := ten_texts hx hy
  have hdc : d * c ≠ 0 := Int.mul_ne_zero hd0 hc0
  have bnc := low_mul (a := 30000) (b := 30000) hn (show c.natAbs ≤ 30000 by omega)
  have bmd := low_mul (a := 30000) (b := 30000) hm (show d.natAbs ≤ 30000 by omega)
  have bdc := low_mul (a := 30000) (b := 30000) (show d.natAbs ≤ 30000 by omega) (show c.natAbs ≤ 30000 by omega)
  have bnm := low_mul (a := 30000) (b := 30000) hn hm
  have bdm := low_mul (a := 30000) (b := 30000) (show d.natAbs ≤ 30000 by omega) hm
  obtain ⟨s1, s2⟩ := text_size hx.fits
  obtain ⟨s3, s4⟩ := text_size hy.fits
  refine ⟨_, _, _, _, _, _, _, _, _, _, _, _, _, _, _, _, _, _, _, (Rat.divInt n d / Rat.divInt m c).num, ((Rat.divInt n d / Rat.divInt m c).den : Int), ⟨s1, s2, s3, s4⟩, ⟨rfl, rfl, rfl, rfl⟩, ?_, ⟨t0, t1, t2, t3, t4, t5, rfl, rfl⟩, ⟨o1, o2, o3, rfl⟩, mach_of (Rat.divInt_add_divInt _ _ hd0 hc0) hdc (by omega) bdc, mach_of (Rat.divInt_sub_divInt _ _ hd0 hc0) hdc (by omega) bdc, mach_of (Rat.divInt_mul_divInt ..) hdc (by omega) bdc, fun h => ?_, fun h => ?_⟩
  · rw [cmp_rats hx.fits hy.fits]
    exact cmpR_divInt (by omega) (by omega)
  · have hz := (num_zero (u := m) hc0).2 h
    obtain ⟨q1, q2⟩ := t7 hz
    refine ⟨q1, q2, ?_⟩
    rw [o4, decide_eq_false (fun h2 => h2 hz)]
    rfl
  · have hz : (Rat.divInt m c).num ≠ 0 := fun h2 => h ((num_zero (u := m) hc0).1 h2)
    obtain ⟨q1, q2⟩ := t6 hz
    refine ⟨?_, ?_⟩
    · rw [o4, decide_eq_true hz]; rfl
    · rw [q1, q2]
      exact mach_of (by rw [Rat.div_def, Rat.inv_divInt, Rat.divInt_mul_divInt]) (Int.mul_ne_zero hd0 h) (by omega) bdm
theorem mach_wrap {p r u v : Int} (h : 1 ≤ r ∧ r ≤ 900000000 ∧ -1800000000 ≤ p ∧ p ≤ 1800000000) (hv : v.natAbs ≤ 900000000) (e : p * v = u * r) : ∃ x, IntKind.i64.wrap (p * v) = x ∧ IntKind.i64.wrap (u * r) = x := by
  have hb : (p * v).natAbs ≤ 1800000000 * 900000000 := low_mul (by omega) hv
  refine ⟨p * v, IntWalk.i64_in _ (by omega), ?_⟩
  rw [← e]
  exact IntWalk.i64_in _ (by omega)

end Go.Proofs.YtlcibnmcannapaaGreatDoor
