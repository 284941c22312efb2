/-
  Layer 8: clocks, plain: when a tick begins, what is read at a time.
-/
import Derived.Test.YtifdcfjllonmgaaDoorHd
namespace Go.Proofs.YtifdcfjllonmgaaDoor
open Go Go.Proofs Go.RowKit Go.Lib

/-- A clock. -/
structure Cl where
  dr : Int
  an : List An
def CkAt (W : World) (v : Value) (c : Cl) : Prop := ∃ ad k, v = .agg #[.int .i64 c.dr, .slice ad c.an.length k] ∧ RL KA W ad c.an
theorem CkAt.below {W W' : World} {v : Value} {c : Cl} (h : CkAt W v c) (b : Below W.heap.size W W') : CkAt W' v c := by
  obtain ⟨ad, k, e, h1⟩ := h
  exact ⟨ad, k, e, h1.below b⟩
def anB (a : An) : Bool := inB a.a 0 1000001 && inB a.t (-17592186044416) 17592186044416
def ckB (c : Cl) : Bool := c.an.all anB && inB c.dr 0 1000 && inB c.an.length 1 24
/-- When a tick begins for one anchor. -/
def begA (dr r : Int) (a : An) : Int := if r < a.a then a.t + (r - a.a) * (1000000 + dr) else a.t + (r - a.a) * (1000000 - dr)
def begN (dr r : Int) : List An → Int
  | [] => 0
  | a :: l => l.foldl (fun o b => if o < begA dr r b then begA dr r b else o) (begA dr r a)
theorem begN_step (dr r : Int) (l : List An) (k : Nat) (hk : k < l.length) : begN dr r (l.take (k + 1)) = if k = 0 ∨ begN dr r (l.take k) < begA dr r l[k] then begA dr r l[k] else begN dr r (l.take k) := by
  cases l with
  | nil => exact absurd hk (Nat.not_lt_zero _)
  | cons a l =>
    cases k with
    | zero => simp [begN]
    | succ k =>
      have hk' : k < l.length := by simpa using hk
      simp only [List.take_succ_cons, begN, List.getElem_cons_succ]
      rw [List.take_succ_eq_append_getElem hk', List.foldl_append]
      simp
theorem foldl_mem (dr r : Int) : ∀ (l : List An) (o : Int), l.foldl (fun o b => if o < begA dr r b then begA dr r b else o) o = o ∨ ∃ a ∈ l, l.foldl (fun o b => if o < begA dr r b then begA dr r b else o) o = begA dr r a
  | [], o => .inl rfl
  | a :: l, o => by
    simp only [List.foldl_cons]
    rcases foldl_mem dr r l (if o < begA dr r a then begA dr r a else o) with h | ⟨b, hb, h⟩
    · by_cases h2 : o < begA dr r a
      · rw [if_pos h2] at h ⊢
        exact .inr ⟨a, List.mem_cons_self, h⟩
      · rw [if_neg h2] at h ⊢
        exact .inl h
    · exact .inr ⟨b, List.mem_cons_of_mem _ hb, h⟩
theorem foldl_ge (dr r : Int) : ∀ (l : List An) (o : Int), o ≤ l.foldl (fun o b => if o < begA dr r b then begA dr r b else o) o ∧ ∀ a ∈ l, begA dr r a ≤ l.foldl (fun o b => if o < begA dr r b then begA dr r b else o) o
  | [], o => ⟨Int.le_refl _, fun _ h => absurd h (List.not_mem_nil)⟩
  | a :: l, o => by
    simp only [List.foldl_cons]
    obtain ⟨h1, h2⟩ := foldl_ge dr r l (if o < begA dr r a then begA dr r a else o)
    refine ⟨?_, fun b hb => ?_⟩
    · refine Int.le_trans ?_ h1
      split <;> omega
    · rcases List.mem_cons.1 hb with rfl | hb
      · refine Int.le_trans ?_ h1
        split <;> omega
      · exact h2 b hb
/-- The greatest of what the anchors ask. -/
theorem begN_mem (dr r : Int) (l : List An) (h : l ≠ []) : ∃ a ∈ l, begN dr r l = begA dr r a := by
  cases l with
  | nil => exact absurd rfl h
  | cons a l =>
    rcases foldl_mem dr r l (begA dr r a) with h | ⟨b, hb, h⟩
    · exact ⟨a, List.mem_cons_self, h⟩
    · exact ⟨b, List.mem_cons_of_mem _ hb, h⟩
theorem begN_ge (dr r : Int) (l : List An) : ∀ a ∈ l, begA dr r a ≤ begN dr r l := by
  cases l with
  | nil => exact fun _ h => absurd h List.not_mem_nil
  | cons a l =>
    intro b hb
    rcases List.mem_cons.1 hb with rfl | hb
    · exact (foldl_ge dr r l _).1
    · exact (foldl_ge dr r l _).2 b hb
/-- A tick is at least a million less the drift, and at most a million and the drift, long. -/
theorem begA_step (dr r : Int) (a : An) (h0 : 0 ≤ dr) : begA dr r a + (1000000 - dr) ≤ begA dr (r + 1) a ∧ begA dr (r + 1) a ≤ begA dr r a + (1000000 + dr) := by
  unfold begA
  have e1 : (r + 1 - a.a) * (1000000 + dr) = (r - a.a) * (1000000 + dr) + (1000000 + dr) := by rw [show r + 1 - a.a = (r - a.a) + 1 by omega, Int.add_mul, Int.one_mul]
  have e2 : (r + 1 - a.a) * (1000000 - dr) = (r - a.a) * (1000000 - dr) + (1000000 - dr) := by rw [show r + 1 - a.a = (r - a.a) + 1 by omega, Int.add_mul, Int.one_mul]
  by_cases h1 : r + 1 < a.a
  · rw [if_pos h1, if_pos (by omega : r < a.a), e1]
    omega
  · rw [if_neg h1, e2]
    by_cases h2 : r < a.a
    · have e : r - a.a = -1 := by omega
      rw [if_pos h2, e]
      omega
    · rw [if_neg h2]
      omega
theorem begN_step1 (dr r : Int) (l : List An) (h0 : 0 ≤ dr) (hl : l ≠ []) : begN dr r l + (1000000 - dr) ≤ begN dr (r + 1) l ∧ begN dr (r + 1) l ≤ begN dr r l + (1000000 + dr) := by
  constructor
  · obtain ⟨a, ha, e⟩ := begN_mem dr r l hl
    have h1 := begN_ge dr (r + 1) l a ha
    have h2 := (begA_step dr r a h0).1
    omega
  · obtain ⟨a, ha, e⟩ := begN_mem dr (r + 1) l hl
    have h1 := begN_ge dr r l a ha
    have h2 := (begA_step dr r a h0).2
    omega
theorem begN_steps (dr r : Int) (l : List An) (h0 : 0 ≤ dr) (hl : l ≠ []) : ∀ k : Nat, begN dr r l + k * (1000000 - dr) ≤ begN dr (r + k) l ∧ begN dr (r + k) l ≤ begN dr r l + k * (1000000 + dr)
  | 0 => by simp
  | k + 1 => by
    obtain ⟨h1, h2⟩ := begN_steps dr r l h0 hl k
    obtain ⟨h3, h4⟩ := begN_step1 dr (r + k) l h0 hl
    have e : r + ((k + 1 : Nat) : Int) = r + k + 1 := by omega
    have e1 : ((k + 1 : Nat) : Int) * (1000000 - dr) = k * (1000000 - dr) + (1000000 - dr) := by
      rw [show ((k + 1 : Nat) : Int) = (k : Int) + 1 by omega, Int.add_mul, Int.one_mul]
    have e2 : ((k + 1 : Nat) : Int) * (1000000 + dr) = k * (1000000 + dr) + (1000000 + dr) := by
      rw [show ((k + 1 : Nat) : Int) = (k : Int) + 1 by omega, Int.add_mul, Int.one_mul]
    rw [e, e1, e2]
    omega
theorem begN_mono (dr r s : Int) (l : List An) (h0 : 0 ≤ dr) (h1 : dr ≤ 1000) (hl : l ≠ []) (h : r ≤ s) : begN dr r l ≤ begN dr s l := by
  obtain ⟨k, rfl⟩ : ∃ k : Nat, s = r + k := ⟨(s - r).toNat, by omega⟩
  have := (begN_steps dr r l h0 hl k).1
  have h2 : 0 ≤ (k : Int) * (1000000 - dr) := Int.mul_nonneg (by omega) (by omega)
  omega
/-- The reading of a clock at a time. -/
def IsRead (c : Cl) (t r : Int) : Prop := begN c.dr r c.an ≤ t ∧ t < begN c.dr (r + 1) c.an
theorem isRead_one {c : Cl} {t r s : Int} (h0 : 0 ≤ c.dr) (h1 : c.dr ≤ 1000) (hl : c.an ≠ []) (hr : IsRead c t r) (hs : IsRead c t s) : r = s := by
  rcases Int.lt_trichotomy r s with h | h | h
  · have := begN_mono c.dr (r + 1) s c.an h0 h1 hl (by omega)
    have h2 := hr.2
    have h3 := hs.1
    omega
  · exact h
  · have := begN_mono c.dr (s + 1) r c.an h0 h1 hl (by omega)
    have h2 := hs.2
    have h3 := hr.1
    omega
theorem anB_of {a : An} (h : anB a = true) : (0 ≤ a.a ∧ a.a ≤ 1000001) ∧ -17592186044416 ≤ a.t ∧ a.t ≤ 17592186044416 := by
  unfold anB at h
  rw [Bool.and_eq_true] at h
  exact ⟨of_inB h.1, of_inB h.2⟩
theorem ckB_of {c : Cl} (h : ckB c = true) : (∀ a ∈ c.an, anB a = true) ∧ (0 ≤ c.dr ∧ c.dr ≤ 1000) ∧ c.an.length ≤ 24 ∧ c.an ≠ [] := by
  unfold ckB at h
  rw [Bool.and_eq_true, Bool.and_eq_true] at h
  obtain ⟨⟨h1, h2⟩, h3⟩ := h
  have h4 := of_inB h3
  refine ⟨List.all_eq_true.1 h1, of_inB h2, by omega, ?_⟩
  rintro h
  rw [h] at h4
  simp at h4
theorem begA_low {dr : Int} {a : An} (h0 : 0 ≤ dr) (h1 : dr ≤ 1000) (ha : anB a = true) : begA dr (-134217728) a ≤ -17592186044416 ∧ 17592186044416 < begA dr 134217728 a := by
  obtain ⟨⟨h2, h3⟩, h4, h5⟩ := anB_of ha
  unfold begA
  rw [if_pos (by omega), if_neg (by omega)]
  constructor
  · have : (134217728 + a.a) * (1000000 + dr) ≥ 134217728 * 1000000 := by
      refine Int.le_trans (Int.mul_le_mul_of_nonneg_left (show (1000000 : Int) ≤ 1000000 + dr by omega) (by decide)) (Int.mul_le_mul_of_nonneg_right (by omega) (by omega))
    have e : (-134217728 - a.a) * (1000000 + dr) = -((134217728 + a.a) * (1000000 + dr)) := by rw [← Int.neg_mul]; congr 1; omega
    rw [e]
    omega
  · have : (134217728 - a.a) * (1000000 - dr) ≥ 133217727 * 999000 := by
      refine Int.le_trans (Int.mul_le_mul_of_nonneg_left (show (999000 : Int) ≤ 1000000 - dr by omega) (by decide)) (Int.mul_le_mul_of_nonneg_right (by omega) (by omega))
    omega
theorem begN_low {c : Cl} (h : ckB c = true) : begN c.dr (-134217728) c.an ≤ -17592186044416 ∧ 17592186044416 < begN c.dr 134217728 c.an := by
  obtain ⟨h1, ⟨h2, h3⟩, _, h5⟩ := ckB_of h
  constructor
  · obtain ⟨a, ha, e⟩ := begN_mem c.dr (-134217728) c.an h5
    rw [e]
    exact (begA_low h2 h3 (h1 a ha)).1
  · obtain ⟨a, ha, e⟩ := begN_mem c.dr 134217728 c.an h5
    exact Int.lt_of_lt_of_le (begA_low h2 h3 (h1 a ha)).2 (begN_ge _ _ _ a ha)
/-- How great the numbers are. -/
theorem mul_bd {x y X Y : Int} (h1 : -X ≤ x) (h2 : x ≤ X) (h3 : -Y ≤ y) (h4 : y ≤ Y) (hX : 0 ≤ X) : -(X * Y) ≤ x * y ∧ x * y ≤ X * Y := by
  have hY : 0 ≤ Y := by omega
  rcases Int.le_total 0 x with hx | hx <;> rcases Int.le_total 0 y with hy | hy
  · have a1 := Int.mul_nonneg hx hy
    have a2 := Int.mul_le_mul h2 h4 hy hX
    have a3 := Int.mul_nonneg hX hY
    omega
  · have a1 := Int.mul_nonneg hx (show 0 ≤ -y by omega)
    have a2 := Int.mul_le_mul h2 (show -y ≤ Y by omega) (by omega) hX
    have a3 := Int.mul_nonneg hX hY
    rw [Int.mul_neg] at a1 a2
    omega
  · have a1 := Int.mul_nonneg (show 0 ≤ -x by omega) hy
    have a2 := Int.mul_le_mul (show -x ≤ X by omega) h4 hy hX
    have a3 := Int.mul_nonneg hX hY
    rw [Int.neg_mul] at a1 a2
    omega
  · have a1 := Int.mul_nonneg (show 0 ≤ -x by omega) (show 0 ≤ -y by omega)
    have a2 := Int.mul_le_mul (show -x ≤ X by omega) (show -y ≤ Y by omega) (by omega) hX
    have a3 := Int.mul_nonneg hX hY
    rw [Int.neg_mul_neg] at a1 a2
    omega
theorem begA_bd {dr r : Int} {a : An} (h0 : 0 ≤ dr) (h1 : dr ≤ 1000) (ha : anB a = true) (hr : -134217728 ≤ r) (hr2 : r ≤ 134217728) :
    (-135359951000000 ≤ (r - a.a) * (1000000 + dr) ∧ (r - a.a) * (1000000 + dr) ≤ 135359951000000) ∧ (-135359951000000 ≤ (r - a.a) * (1000000 - dr) ∧ (r - a.a) * (1000000 - dr) ≤ 135359951000000) := by
  obtain ⟨⟨h2, h3⟩, h4, h5⟩ := anB_of ha
  have b1 := mul_bd (x := r - a.a) (y := 1000000 + dr) (X := 135217729) (Y := 1001000) (by omega) (by omega) (by omega) (by omega) (by decide)
  have b2 := mul_bd (x := r - a.a) (y := 1000000 - dr) (X := 135217729) (Y := 1001000) (by omega) (by omega) (by omega) (by omega) (by decide)
  generalize (r - a.a) * (1000000 + dr) = p at *
  generalize (r - a.a) * (1000000 - dr) = q at *
  omega
end Go.Proofs.YtifdcfjllonmgaaDoor
