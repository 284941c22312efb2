/-
  Plain mathematics of layer 3 in groups of four digits: from digits and to digits, sums with a factor, products, quotients, roots.
-/
import Derived.Test.YtildgpahacaglaaDoorGrp
namespace Go.Proofs.YtildgpahacaglaaDoor

/-! ### Out of digits -/
/-- What the digits from a on, up to b, stand for. -/
def seg (D : List Nat) (a b : Nat) : Nat := valD ((D.drop a).take (b - a))
theorem seg_empty (D : List Nat) (a : Nat) : seg D a a = 0 := by unfold seg; simp [valD]
theorem seg_step (D : List Nat) (a b : Nat) (h : a < b) (hl : a < D.length) : seg D a b = D.getD a 0 + 10 * seg D (a + 1) b := by
  unfold seg
  rw [List.drop_eq_getElem_cons hl, show b - a = (b - (a + 1)) + 1 by omega, List.take_succ_cons]
  simp [valD, List.getD_eq_getElem?_getD, hl]
theorem seg_lt {D : List Nat} (h : IsDig D) (a b : Nat) : seg D a b < 10 ^ (b - a) := by
  unfold seg
  have h1 : IsDig ((D.drop a).take (b - a)) := fun d hd => h d (List.mem_of_mem_drop (List.mem_of_mem_take hd))
  exact Nat.lt_of_lt_of_le (valD_lt h1) (Nat.pow_le_pow_right (by decide) (by rw [List.length_take]; omega))
theorem pow4 (j : Nat) : 10 ^ (4 * j) = 10000 ^ j := by rw [Nat.pow_mul]
theorem seg_take (D : List Nat) (j b : Nat) (hb : b = 4 * j + 4 ∨ (D.length ≤ 4 * j + 4 ∧ D.length ≤ b)) (h : 4 * j ≤ D.length) : valD (D.take (4 * (j + 1))) = valD (D.take (4 * j)) + 10000 ^ j * seg D (4 * j) b := by
  have e : D.take (4 * (j + 1)) = D.take (4 * j) ++ (D.drop (4 * j)).take 4 := by rw [show 4 * (j + 1) = 4 * j + 4 by omega, List.take_add]
  rw [e, valD_append, List.length_take, Nat.min_eq_left h, pow4]
  unfold seg
  congr 3
  rcases hb with hb | ⟨h1, h2⟩
  · rw [show b - 4 * j = 4 by omega]
  · rw [List.take_of_length_le (by rw [List.length_drop]; omega), List.take_of_length_le (by rw [List.length_drop]; omega)]
theorem digT_length (r : List Nat) : (digT r).length = r.length := by simp [digT]
theorem digT_get (r : List Nat) (i : Nat) (h : i < r.length) : (digT r).getD (r.length - 1 - i) 0 = r.getD i 0 - 48 := by
  unfold digT
  simp only [List.getD_eq_getElem?_getD]
  rw [List.getElem?_reverse (by simp; omega)]
  simp only [List.length_map]
  rw [show r.length - 1 - (r.length - 1 - i) = i by omega]
  simp [h]
/-- The groups after j rounds. -/
def ParInv (D out : List Nat) (j : Nat) : Prop := out.length = j ∧ IsGrp out ∧ valG out = valD (D.take (4 * j))
theorem par_start (D : List Nat) : ParInv D [] 0 := ⟨rfl, (fun _ h => by cases h), by simp [valG, valD]⟩
theorem par_step {D out : List Nat} {j b : Nat} (hD : IsDig D) (h : ParInv D out j) (hb : b = 4 * j + 4 ∨ (D.length ≤ 4 * j + 4 ∧ D.length = b)) (hj : 4 * j ≤ D.length) : ParInv D (out ++ [seg D (4 * j) b]) (j + 1) := by
  obtain ⟨h1, h2, h3⟩ := h
  refine ⟨by simp [h1], isGrp_append h2 ?_, ?_⟩
  · intro d hd
    simp at hd
    subst hd
    refine Nat.lt_of_lt_of_le (seg_lt hD _ _) ?_
    have : b - 4 * j ≤ 4 := by omega
    exact Nat.pow_le_pow_right (n := 10) (by decide) this
  · rw [valG_snoc, h1, h3, seg_take D j b (by omega) hj]
theorem par_end {D out : List Nat} {j : Nat} (h : ParInv D out j) (hj : D.length ≤ 4 * j) : trimG out = grps (valD D) := by
  unfold trimG
  rw [h.2.2, List.take_of_length_le hj]

/-! ### Into digits -/
def fourD (g : Nat) : List Nat := [48 + g / 1000 % 10, 48 + g / 100 % 10, 48 + g / 10 % 10, 48 + g / 1 % 10]
theorem digs_four {g q : Nat} (hg : g < 10000) (hq : q ≠ 0) : digs (g + 10000 * q) = g % 10 :: (g / 10 % 10) :: (g / 100 % 10) :: (g / 1000 % 10) :: digs q := by
  rw [digs_pos (by omega), digs_pos (by omega), digs_pos (by omega), digs_pos (by omega)]
  have e4 : (g + 10000 * q) / 10 / 10 / 10 / 10 = q := by omega
  have e3 : (g + 10000 * q) / 10 / 10 / 10 % 10 = g / 1000 % 10 := by omega
  have e2 : (g + 10000 * q) / 10 / 10 % 10 = g / 100 % 10 := by omega
  have e1 : (g + 10000 * q) / 10 % 10 = g / 10 % 10 := by omega
  have e0 : (g + 10000 * q) % 10 = g % 10 := by omega
  rw [e0, e1, e2, e3, e4]
theorem textN_four {g q : Nat} (hg : g < 10000) (hq : q ≠ 0) : textN (g + 10000 * q) = textN q ++ fourD g := by
  have h := digs_four hg hq
  have e : g / 1 % 10 = g % 10 := by omega
  unfold textN fourD
  rw [if_neg (by omega), if_neg hq, h, e]
  simp
theorem valG_drop_cons {l : List Nat} {k : Nat} (h : k < l.length) : valG (l.drop k) = l.getD k 0 + 10000 * valG (l.drop (k + 1)) := by
  rw [List.drop_eq_getElem_cons h]
  simp [valG, List.getD_eq_getElem?_getD, h]
theorem canonG_drop {l : List Nat} (h : CanonG l) (k : Nat) : CanonG (l.drop k) := by
  unfold CanonG at *
  rcases Nat.lt_or_ge k l.length with h1 | h1
  · rw [List.getLast?_drop]
    rw [if_neg (by omega)]
    exact h
  · rw [List.drop_of_length_le h1]; simp
theorem isGrp_drop {l : List Nat} (h : IsGrp l) (k : Nat) : IsGrp (l.drop k) := fun d hd => h d (List.mem_of_mem_drop hd)
theorem grps_drop {l : List Nat} (h : IsGrp l) (hc : CanonG l) (k : Nat) : grps (valG (l.drop k)) = l.drop k := grps_valG (isGrp_drop h k) (canonG_drop hc k)
theorem text_step {l : List Nat} (h : IsGrp l) (hc : CanonG l) (k : Nat) (hk : k + 1 < l.length) : textN (valG (l.drop k)) = textN (valG (l.drop (k + 1))) ++ fourD (l.getD k 0) := by
  rw [valG_drop_cons (by omega)]
  refine textN_four (getG_grp h k) (valG_pos (canonG_drop hc _) ?_)
  intro e
  have := congrArg List.length e
  rw [List.length_drop] at this
  simp at this
  omega
theorem text_top {l : List Nat} (h0 : 0 < l.length) : textN (valG (l.drop (l.length - 1))) = textN (l.getD (l.length - 1) 0) := by
  rw [valG_drop_cons (by omega), List.drop_of_length_le (by omega)]
  simp [valG]

/-! ### A sum with a factor -/
def PlusG (a b : List Nat) (f : Int) (N : Nat) (out : List Nat) (c : Int) (k : Nat) : Prop :=
  out.length = N ∧ IsGrp out ∧ (∀ i, k ≤ i → out.getD i 0 = a.getD i 0) ∧ -10000 ≤ c ∧ c ≤ 10000 ∧ (valG (out.take k) : Int) + (10000 ^ k : Nat) * c = (valG (a.take k) : Int) + f * (valG (b.take k) : Int)
theorem plusG_start (a b : List Nat) (f : Int) (N : Nat) (ha : IsGrp a) (hN : a.length ≤ N) : PlusG a b f N (a ++ List.replicate (N - a.length) 0) 0 0 := by
  refine ⟨by simp; omega, ?_, ?_, by omega, by omega, by simp [valG]⟩
  · exact isGrp_append ha (fun d hd => by have := (List.mem_replicate.1 hd).2; omega)
  · intro i _
    simp only [List.getD_eq_getElem?_getD]
    rcases Nat.lt_or_ge i a.length with h | h
    · rw [List.getElem?_append_left h]
    · rw [List.getElem?_append_right h, List.getElem?_eq_none h]
      rcases Nat.lt_or_ge (i - a.length) (N - a.length) with h2 | h2
      · rw [List.getElem?_replicate]; simp [h2]
      · rw [List.getElem?_eq_none (by simp; omega)]
theorem take_set_self (l : List Nat) (k v : Nat) (h : k < l.length) : (l.set k v).take (k + 1) = l.take k ++ [v] := by
  rw [List.take_succ_eq_append_getElem (by simpa using h)]
  simp [List.take_set_of_le]
theorem plusG_step {a b out : List Nat} {f c : Int} {N k : Nat} (hb : IsGrp b) (hf1 : -9999 ≤ f) (hf2 : f ≤ 9999) (h : PlusG a b f N out c k) (hk : k < N) (d : Nat) (c' : Int)
    (hd : (d : Int) = (c + (out.getD k 0 : Nat) + f * (b.getD k 0 : Nat)) % 10000) (hc' : c' = (c + (out.getD k 0 : Nat) + f * (b.getD k 0 : Nat)) / 10000) :
    PlusG a b f N (out.set k d) c' (k + 1) := by
  obtain ⟨h1, h2, h3, h4, h5, h6⟩ := h
  have hx := getG_grp h2 k
  have hy := getG_grp hb k
  have e3 := h3 k (Nat.le_refl _)
  have ea := valG_take_getD a k
  have eb := valG_take_getD b k
  have eo : valG ((out.set k d).take (k + 1)) = valG (out.take k) + 10000 ^ k * d := by
    rw [take_set_self _ _ _ (by omega), valG_snoc, List.length_take, Nat.min_eq_left (by omega)]
  rw [e3] at hd hc' hx
  generalize a.getD k 0 = x at *
  generalize b.getD k 0 = y at *
  have hfy : -99980001 ≤ f * (y : Int) ∧ f * (y : Int) ≤ 99980001 := by
    have hy2 : (y : Int) ≤ 9999 := by omega
    have hy0 : (0 : Int) ≤ y := by omega
    have a1 : f * (y : Int) ≤ 9999 * (y : Int) := Int.mul_le_mul_of_nonneg_right hf2 hy0
    have a2 : (-9999) * (y : Int) ≤ f * (y : Int) := Int.mul_le_mul_of_nonneg_right hf1 hy0
    omega
  have hsum : c + (x : Int) + f * (y : Int) = (d : Int) + 10000 * c' := by rw [hd, hc']; omega
  refine ⟨by simpa using h1, ?_, ?_, ?_, ?_, ?_⟩
  · intro z hz
    rcases List.mem_or_eq_of_mem_set hz with h | h
    · exact h2 z h
    · subst h; omega
  · intro i hi
    rw [← h3 i (by omega)]
    simp only [List.getD_eq_getElem?_getD]
    rw [List.getElem?_set_ne (by omega)]
  · generalize f * (y : Int) = m at *; omega
  · generalize f * (y : Int) = m at *; omega
  · rw [eo, ea, eb, Nat.pow_succ]
    generalize (10000 ^ k : Nat) = p at *
    simp only [Int.natCast_add, Int.natCast_mul]
    have e : (p : Int) * (d : Int) + (p : Int) * 10000 * c' = (p : Int) * c + (p : Int) * (x : Int) + f * ((p : Int) * (y : Int)) := by
      rw [show f * ((p : Int) * (y : Int)) = (p : Int) * (f * (y : Int)) by rw [← Int.mul_assoc, Int.mul_comm f, Int.mul_assoc], Int.mul_assoc, ← Int.mul_add, ← Int.mul_add, ← Int.mul_add, hsum]
    rw [Int.mul_add]
    have e5 : ((10000 : Nat) : Int) = 10000 := rfl
    rw [e5]
    omega
theorem plusG_end {a b out : List Nat} {f c : Int} {N m : Nat} (ha : a.length ≤ N) (hb : b.length ≤ N) (h : PlusG a b f N out c N) (hm : (valG a : Int) + f * (valG b : Int) = (m : Int)) (hlt : m < 10000 ^ N) : trimG out = grps m := by
  obtain ⟨h1, h2, _, _, _, h6⟩ := h
  rw [List.take_of_length_le (by omega), List.take_of_length_le ha, List.take_of_length_le hb, hm] at h6
  have h7 := valG_lt h2
  rw [h1] at h7
  have hc : c = 0 := by
    rcases Int.lt_trichotomy c 0 with hc | hc | hc
    · exfalso
      have : ((10000 ^ N : Nat) : Int) * c ≤ ((10000 ^ N : Nat) : Int) * (-1) := Int.mul_le_mul_of_nonneg_left (by omega) (by omega)
      omega
    · exact hc
    · exfalso
      have : ((10000 ^ N : Nat) : Int) * 1 ≤ ((10000 ^ N : Nat) : Int) * c := Int.mul_le_mul_of_nonneg_left (by omega) (by omega)
      omega
  rw [hc, Int.mul_zero, Int.add_zero] at h6
  unfold trimG
  congr 1
  omega
theorem plusG_lt {a b : List Nat} (ha : IsGrp a) (hb : IsGrp b) {f : Int} (hf : f ≤ 9999) {m N : Nat} (hm : (valG a : Int) + f * (valG b : Int) = (m : Int)) (h1 : a.length + 1 ≤ N) (h2 : b.length + 1 ≤ N) : m < 10000 ^ N := by
  obtain ⟨M, rfl⟩ : ∃ M, N = M + 1 := ⟨N - 1, by omega⟩
  have e1 : valG a < 10000 ^ M := Nat.lt_of_lt_of_le (valG_lt ha) (Nat.pow_le_pow_right (by decide) (by omega))
  have e2 : valG b < 10000 ^ M := Nat.lt_of_lt_of_le (valG_lt hb) (Nat.pow_le_pow_right (by decide) (by omega))
  have e3 : f * (valG b : Int) ≤ 9999 * (valG b : Int) := Int.mul_le_mul_of_nonneg_right hf (by omega)
  rw [Nat.pow_succ]
  omega

/-! ### One group more -/
theorem followed_trim {l : List Nat} (g : Nat) : trimG (g :: l) = grps (g + 10000 * valG l) := rfl

/-! ### The upper groups -/
theorem valG_drop {l : List Nat} (h : IsGrp l) (k : Nat) : valG (l.drop k) = valG l / 10000 ^ k := by
  rcases Nat.lt_or_ge l.length k with h1 | h1
  · rw [List.drop_of_length_le (by omega)]
    rw [Nat.div_eq_of_lt (Nat.lt_of_lt_of_le (valG_lt h) (Nat.pow_le_pow_right (by decide) (by omega)))]
    rfl
  · have e := valG_append (l.take k) (l.drop k)
    rw [List.take_append_drop, List.length_take, Nat.min_eq_left h1] at e
    have h2 := valG_lt (isGrp_take h k)
    rw [List.length_take, Nat.min_eq_left h1] at h2
    rw [e, Nat.add_mul_div_left _ _ (Nat.pow_pos (by decide)), Nat.div_eq_of_lt h2, Nat.zero_add]
theorem grps_shift (n k : Nat) : (grps n).drop k = grps (n / 10000 ^ k) := by
  have h1 := valG_drop (grps_lt n) k
  rw [valG_grps] at h1
  rw [← h1]
  exact (grps_drop (grps_lt n) (grps_canonG n) k).symm

/-! ### A quotient that is less than 10000 -/
theorem quot_low {n d p top under s : Nat} (hn : top = n / p) (hd : under = d / p) (hd0 : 0 < d) (hp : 0 < p) (hs : s = 1 ∨ (s = 0 ∧ p = 1)) : top / (under + s) ≤ n / d := by
  rcases hs with rfl | ⟨rfl, rfl⟩
  · rw [Nat.le_div_iff_mul_le hd0]
    have h1 : d ≤ (under + 1) * p := by
      rw [hd]
      exact Nat.le_of_lt (by have := Nat.lt_mul_div_succ d hp; rw [Nat.mul_comm]; exact this)
    calc top / (under + 1) * d ≤ top / (under + 1) * ((under + 1) * p) := Nat.mul_le_mul_left _ h1
      _ = top / (under + 1) * (under + 1) * p := (Nat.mul_assoc _ _ _).symm
      _ ≤ top * p := Nat.mul_le_mul_right _ (Nat.div_mul_le_self _ _)
      _ ≤ n := by rw [hn]; exact Nat.div_mul_le_self _ _
  · simp at hn hd
    rw [hn, hd, Nat.add_zero]
    exact Nat.le_refl _
theorem quot_high {n d p top under : Nat} (hn : top = n / p) (hd : under = d / p) (hp : 0 < p) (hu : 0 < under) : n / d ≤ top / under := by
  rw [Nat.le_div_iff_mul_le hu, hn, Nat.le_div_iff_mul_le hp]
  calc n / d * under * p = n / d * (under * p) := Nat.mul_assoc _ _ _
    _ ≤ n / d * d := Nat.mul_le_mul_left _ (by rw [hd]; exact Nat.div_mul_le_self _ _)
    _ ≤ n := Nat.div_mul_le_self _ _

/-! ### Dividing group by group -/
def DivGInv (n d count : Nat) (l Q : List Nat) (rest k : Nat) : Prop := Q.length = count ∧ IsGrp Q ∧ rest < d ∧ rest + d * valG (Q.drop k) = valG (l.drop k) ∧ valG l = n
theorem divG_start {n d : Nat} {l : List Nat} (hl : grps n = l) (hd : 0 < d) (count : Nat) (hc : count = l.length + 1 - (grps d).length) : DivGInv n d count l (List.replicate count 0) (valG (l.drop count)) count := by
  refine ⟨by simp, fun x hx => by have := (List.mem_replicate.1 hx).2; omega, ?_, ?_, by rw [← hl, valG_grps]⟩
  · have hg : IsGrp l := by rw [← hl]; exact grps_lt n
    have h1 := valG_lt (isGrp_drop hg count)
    rw [List.length_drop] at h1
    have hne : grps d ≠ [] := by rw [grps_pos (by omega)]; simp
    have h0 : 0 < (grps d).length := List.length_pos_iff.2 hne
    have h2 := canonG_ge (grps_lt d) (grps_canonG d) h0
    rw [valG_grps] at h2
    exact Nat.lt_of_lt_of_le h1 (Nat.le_trans (Nat.pow_le_pow_right (by decide) (by omega)) h2)
  · rw [List.drop_of_length_le (l := List.replicate count 0) (by simp)]; simp [valG]
theorem div_stepG {n d count : Nat} {l Q : List Nat} {rest k : Nat} (hl : IsGrp l) (h : DivGInv n d count l Q rest (k + 1)) (hk : k < count) (hkl : k < l.length) :
    DivGInv n d count l (Q.set k ((l.getD k 0 + 10000 * rest) / d)) ((l.getD k 0 + 10000 * rest) % d) k ∧ (l.getD k 0 + 10000 * rest) / d < 10000 := by
  obtain ⟨h1, h2, h3, h4, h5⟩ := h
  have hg := getG_grp hl k
  have hv := valG_drop_cons hkl
  generalize l.getD k 0 = g at *
  have hd0 : 0 < d := by omega
  have hq : (g + 10000 * rest) / d < 10000 := by
    rw [Nat.div_lt_iff_lt_mul hd0]
    omega
  refine ⟨⟨by simpa using h1, ?_, Nat.mod_lt _ hd0, ?_, h5⟩, hq⟩
  · intro z hz
    rcases List.mem_or_eq_of_mem_set hz with h | h
    · exact h2 z h
    · subst h; exact hq
  · have e : (Q.set k ((g + 10000 * rest) / d)).drop k = ((g + 10000 * rest) / d) :: Q.drop (k + 1) := by
      rw [List.drop_eq_getElem_cons (by simp; omega)]
      simp [List.drop_set_of_lt]
    rw [e, hv, ← h4]
    simp only [valG]
    rw [Nat.mul_add, ← Nat.add_assoc, Nat.mod_add_div, Nat.mul_left_comm]
    omega
theorem divG_end {n d count : Nat} {l Q : List Nat} {rest : Nat} (h : DivGInv n d count l Q rest 0) : trimG Q = grps (n / d) ∧ rest = n % d := by
  obtain ⟨_, _, h3, h4, h5⟩ := h
  rw [List.drop_zero, List.drop_zero, h5] at h4
  have e1 : n / d = valG Q := by
    rw [← h4, Nat.add_mul_div_left _ _ (by omega), Nat.div_eq_of_lt h3, Nat.zero_add]
  have e2 : n % d = rest := by rw [← h4, Nat.add_mul_mod_self_left, Nat.mod_eq_of_lt h3]
  exact ⟨by unfold trimG; rw [e1], e2.symm⟩

/-! ### Roots, group by group -/
/-- r is the root of N, and rest what is left. -/
def RootGInv (N r rest : Nat) : Prop := r * r + rest = N ∧ rest ≤ 2 * r
theorem rootG_zero : RootGInv 0 0 0 := ⟨rfl, Nat.le_refl _⟩
theorem rootG_step {N r rest low g : Nat} (h : RootGInv N r rest) (hl : low < 100000000) (hg : g < 10000) (h1 : (g + 10000 * (2 * r)) * g ≤ low + 100000000 * rest)
    (h2 : g = 9999 ∨ low + 100000000 * rest < ((g + 1) + 10000 * (2 * r)) * (g + 1)) : RootGInv (low + 100000000 * N) (g + 10000 * r) (low + 100000000 * rest - (g + 10000 * (2 * r)) * g) := by
  obtain ⟨h3, h4⟩ := h
  have e1 : (g + 10000 * r) * (g + 10000 * r) = 100000000 * (r * r) + (g + 10000 * (2 * r)) * g := by
    simp only [Nat.mul_add, Nat.add_mul]
    have a1 : 10000 * r * (10000 * r) = 100000000 * (r * r) := by rw [Nat.mul_mul_mul_comm]
    have a2 : g * (10000 * r) = 10000 * (r * g) := by rw [Nat.mul_left_comm, Nat.mul_comm g r]
    have a3 : 10000 * r * g = 10000 * (r * g) := Nat.mul_assoc _ _ _
    have a4 : 10000 * (2 * r) * g = 20000 * (r * g) := by rw [← Nat.mul_assoc, Nat.mul_assoc]
    rw [a1, a2, a3, a4]; omega
  have e2 : ((g + 1) + 10000 * (2 * r)) * (g + 1) = (g + 10000 * (2 * r)) * g + 2 * g + 1 + 20000 * r := by
    have : (g + 1) + 10000 * (2 * r) = (g + 10000 * (2 * r)) + 1 := by omega
    rw [this, Nat.add_mul, Nat.mul_add, Nat.one_mul, Nat.mul_one]
    omega
  rw [e2] at h2
  generalize (g + 10000 * (2 * r)) * g = X at *
  refine ⟨by rw [e1]; omega, ?_⟩
  rcases h2 with rfl | h2
  · have e3 : X = 99980001 + 199980000 * r := by
      have a5 : ∀ s : Nat, (9999 + s) * (9999 + s) = 99980001 + 19998 * s + s * s := by
        intro s
        have b1 := Nat.add_mul 9999 s (9999 + s)
        have b2 := Nat.mul_add s 9999 s
        have b3 := Nat.mul_comm s 9999
        omega
      have a6 : 10000 * r * (10000 * r) = 100000000 * (r * r) := by rw [Nat.mul_mul_mul_comm]
      have := a5 (10000 * r)
      rw [a6] at this
      omega
    omega
  · omega
theorem rootG_end {N r rest : Nat} (h : RootGInv N r rest) : r * r ≤ N ∧ N < (r + 1) * (r + 1) := by
  obtain ⟨h1, h2⟩ := h
  refine ⟨by omega, ?_⟩
  rw [Nat.add_mul, Nat.mul_add, Nat.one_mul, Nat.mul_one]
  omega
end Go.Proofs.YtildgpahacaglaaDoor
