/-
  Layer 8: what ClockTicks asks, plain: readings of a valid clock; the made clocks are valid.
-/
import Derived.Test.YtifdcfjllonmgaaDoorHs
import Derived.Test.YtifdcfjllonmgaaDoorHh
namespace Go.Proofs.YtifdcfjllonmgaaDoor
open Go Go.Proofs Go.RowKit Go.Lib

theorem read_ex {c : Cl} (h : ckB c = true) {t : Int} (h0 : -17592186044416 ≤ t) (h1 : t ≤ 17592186044416) : ∃ r, IsRead c t r := by
  obtain ⟨l0, l1⟩ := begN_low h
  refine Classical.byContradiction fun hno => ?_
  have hall : ∀ k : Nat, begN c.dr (-134217728 + (k : Int)) c.an ≤ t := by
    intro k
    induction k with
    | zero => simp; omega
    | succ k ih =>
      refine Classical.byContradiction fun hk => hno ⟨-134217728 + (k : Int), ih, ?_⟩
      have e : (-134217728 + (k : Int) + 1) = -134217728 + ((k + 1 : Nat) : Int) := by omega
      rw [e]
      omega
  have := hall 268435456
  rw [show (-134217728 + ((268435456 : Nat) : Int)) = 134217728 by decide] at this
  omega
theorem readV_is {c : Cl} {t : Int} (hb : readB c t = true) : IsRead c t (readV c t) := by
  have hv := hb
  unfold readB at hv
  rw [Bool.and_eq_true] at hv
  obtain ⟨h0, h1⟩ := of_inB hv.2
  obtain ⟨r, hr⟩ := read_ex hv.1 h0 h1
  rw [readV_of hb hr]
  exact hr
theorem readB_yes {c : Cl} {t : Int} (h : ckB c = true) (h0 : -17592186044416 ≤ t) (h1 : t ≤ 17592186044416) : readB c t = true := by
  unfold readB
  rw [h, inB_yes h0 h1]
  rfl
theorem readE_yes {c : Cl} {t : Int} (h : readB c t = true) : readE c t = 0 := by unfold readE; rw [if_pos h]
/-- Readings never decrease. -/
theorem read_mono {c : Cl} (h : ckB c = true) {a b x y : Int} (hx : IsRead c a x) (hy : IsRead c b y) (hab : a ≤ b) : x ≤ y := by
  obtain ⟨_, ⟨d0, d1⟩, _, hne⟩ := ckB_of h
  refine Classical.byContradiction fun hn => ?_
  have := begN_mono c.dr (y + 1) x c.an d0 d1 hne (by omega)
  have h1 := hx.1; have h2 := hy.2
  omega
/-- The next tick is shown after at most the greatest length of a tick. -/
theorem read_next {c : Cl} (h : ckB c = true) {a x r : Int} (hx : IsRead c a x) (hr : IsRead c (a + 1000000 + c.dr) r) : x + 1 ≤ r := by
  obtain ⟨_, ⟨d0, d1⟩, _, hne⟩ := ckB_of h
  refine Classical.byContradiction fun hn => ?_
  have h1 := (begN_step1 c.dr x c.an d0 hne).2
  have h2 := begN_mono c.dr (r + 1) (x + 1) c.an d0 d1 hne (by omega)
  have h3 := hx.1; have h4 := hr.2
  omega
/-- The next but one is not shown before the least one has passed. -/
theorem read_soon {c : Cl} (h : ckB c = true) {a x r : Int} (hx : IsRead c a x) (hr : IsRead c (a + 1000000 - c.dr - 1) r) : r ≤ x + 1 := by
  obtain ⟨_, ⟨d0, d1⟩, _, hne⟩ := ckB_of h
  refine Classical.byContradiction fun hn => ?_
  have h1 := (begN_step1 c.dr (x + 1) c.an d0 hne).1
  have h2 := begN_mono c.dr (x + 1 + 1) r c.an d0 d1 hne (by omega)
  have h3 := hx.2; have h4 := hr.1
  omega
theorem lt_mul_div {d k m : Int} (hk : 0 < k) (h : d < (m + 1) * k) : d / k ≤ m := by
  have := (Int.ediv_lt_iff_lt_mul hk).2 h
  omega
theorem mul_lt_div {d k m : Int} (hk : 0 < k) (h : m * k ≤ d) : m ≤ d / k := (Int.le_ediv_iff_mul_le hk).2 h
/-- How many ticks there are between two times. -/
theorem read_span {c : Cl} (h : ckB c = true) {a b x y : Int} (hx : IsRead c a x) (hy : IsRead c b y) (hab : a ≤ b) : (b - a) / (1000000 + c.dr) - 1 ≤ y - x ∧ y - x ≤ (b - a) / (1000000 - c.dr) + 1 := by
  obtain ⟨_, ⟨d0, d1⟩, _, hne⟩ := ckB_of h
  have hxy := read_mono h hx hy hab
  obtain ⟨k, hk⟩ := Int.eq_ofNat_of_zero_le (show 0 ≤ y - x by omega)
  have ey : y = x + (k : Int) := by omega
  subst ey
  constructor
  · have h1 := (begN_steps c.dr x c.an d0 hne (k + 1)).2
    have e : x + ((k + 1 : Nat) : Int) = x + (k : Int) + 1 := by omega
    rw [e] at h1
    have h2 := hy.2; have h3 := hx.1
    have h4 : b - a < (((k : Nat) : Int) + 1) * (1000000 + c.dr) := by
      have e2 : ((k + 1 : Nat) : Int) = (k : Int) + 1 := by omega
      rw [e2] at h1
      omega
    have := lt_mul_div (by omega) h4
    omega
  · cases k with
    | zero =>
      have h9 : 0 ≤ (b - a) / (1000000 - c.dr) := Int.ediv_nonneg (by omega) (by omega)
      simp
      omega
    | succ k =>
      have h1 := (begN_steps c.dr (x + 1) c.an d0 hne k).1
      have e : x + 1 + (k : Int) = x + ((k + 1 : Nat) : Int) := by omega
      rw [e] at h1
      have h2 := hy.1; have h3 := hx.2
      have h4 : (k : Int) * (1000000 - c.dr) ≤ b - a := by omega
      have := mul_lt_div (by omega) h4
      omega
/-! ### the made clocks -/
theorem fleetN_dr (n : Int) (i : Nat) : 0 ≤ (fleetN n).dr.getD i 0 ∧ (fleetN n).dr.getD i 0 ≤ 1000 := by
  rw [List.getD_eq_getElem?_getD]
  rcases Nat.lt_or_ge i (fleetN n).dr.length with h | h
  · rw [List.getElem?_eq_getElem h]
    have e : (fleetN n).dr[i] ∈ driN n (agN n) := List.getElem_mem h
    unfold driN at e
    obtain ⟨j, _, hj⟩ := List.mem_map.1 e
    show 0 ≤ (fleetN n).dr[i] ∧ (fleetN n).dr[i] ≤ 1000
    rw [← hj]
    exact driT_bd _
  · rw [List.getElem?_eq_none h]
    exact ⟨by decide, by decide⟩
theorem fleetN_len (n : Int) : (fleetN n).dr.length = agN n := by unfold fleetN; exact driN_len _ _
theorem clkN_ok (n : Int) (i : Nat) : ckB (clkN (fleetN n) n i) = true := by
  have a0 := pick8_lo (c := n.tdiv (1 + (i : Nat))) (n := 500) (by decide)
  have a1 := pick8_hi (c := n.tdiv (1 + (i : Nat))) (n := 500) (by decide)
  have b0 := pick8_lo (c := n.tdiv (3 + (i : Nat))) (n := 3000000) (by decide)
  have b1 := pick8_hi (c := n.tdiv (3 + (i : Nat))) (n := 3000000) (by decide)
  have c0 := pick8_lo (c := n.tdiv 7) (n := 500) (by decide)
  have c1 := pick8_hi (c := n.tdiv 7) (n := 500) (by decide)
  have d0 := pick8_lo (c := n.tdiv (2 + (i : Nat))) (n := 20000000) (by decide)
  have d1 := pick8_hi (c := n.tdiv (2 + (i : Nat))) (n := 20000000) (by decide)
  have hA : anB (anA n i) = true := by
    unfold anB anA
    rw [Bool.and_eq_true]
    exact ⟨inB_yes (by dsimp only; omega) (by dsimp only; omega), inB_yes (by dsimp only; omega) (by dsimp only; omega)⟩
  have hZ : anB (anZ n i) = true := by
    unfold anB anZ
    rw [Bool.and_eq_true]
    exact ⟨inB_yes (by dsimp only; omega) (by dsimp only; omega), inB_yes (by dsimp only; omega) (by dsimp only; omega)⟩
  obtain ⟨e0, e1⟩ := fleetN_dr n i
  have hd : inB ((fleetN n).dr.getD i 0) 0 1000 = true := inB_yes e0 e1
  unfold ckB clkN
  dsimp only
  rw [hd]
  split
  · rw [List.all_cons, List.all_cons, hA, hZ]; rfl
  · rw [List.all_cons, hA]; rfl
end Go.Proofs.YtifdcfjllonmgaaDoor
