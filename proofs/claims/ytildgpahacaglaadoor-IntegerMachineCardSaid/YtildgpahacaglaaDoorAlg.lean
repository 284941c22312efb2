/-
  Plain mathematics of layer 3: comparing, adding, subtracting digit by digit.
-/
import Derived.Test.YtildgpahacaglaaDoorVal
namespace Go.Proofs.YtildgpahacaglaaDoor

theorem getD_dig {l : List Nat} (h : IsDig l) (i : Nat) : l.getD i 0 < 10 := by
  rw [List.getD_eq_getElem?_getD]
  cases hx : l[i]? with
  | none => simp
  | some x => exact h x (List.mem_of_getElem? hx)
theorem take_snoc (l : List Nat) (k : Nat) (h : k < l.length) : l.take (k + 1) = l.take k ++ [l.getD k 0] := by
  rw [List.take_succ_eq_append_getElem h]; simp [List.getD_eq_getElem?_getD, h]
theorem valD_take (l : List Nat) (k : Nat) (h : k < l.length) : valD (l.take (k + 1)) = valD (l.take k) + 10 ^ k * l.getD k 0 := by
  rw [take_snoc l k h, valD_append, List.length_take, Nat.min_eq_left (by omega)]; simp [valD]
theorem valD_take_all (l : List Nat) (k : Nat) (h : l.length ≤ k) : valD (l.take k) = valD l := by rw [List.take_of_length_le h]
theorem valD_take_getD (l : List Nat) (k : Nat) : valD (l.take (k + 1)) = valD (l.take k) + 10 ^ k * l.getD k 0 := by
  rcases Nat.lt_or_ge k l.length with h | h
  · exact valD_take l k h
  · rw [valD_take_all l _ (by omega), valD_take_all l k h]
    simp [List.getD_eq_getElem?_getD, h]
theorem valD_snoc (l : List Nat) (d : Nat) : valD (l ++ [d]) = valD l + 10 ^ l.length * d := by rw [valD_append]; simp [valD]

/-! ### Trimming -/
theorem trim_step_zero (l : List Nat) (k : Nat) (hk : k < l.length) (h : l.getD k 0 = 0) : trimD (l.take (k + 1)) = trimD (l.take k) := by
  unfold trimD; rw [valD_take l k hk, h]; simp
theorem trim_step_stop {l : List Nat} (hl : IsDig l) (k : Nat) (hk : k < l.length) (h : l.getD k 0 ≠ 0) : trimD (l.take (k + 1)) = l.take (k + 1) := by
  have := isDig_take hl (k + 1)
  rw [take_snoc l k hk] at this ⊢
  exact trimD_canon (isDig_take hl k) _ h this
theorem trimD_take : ∀ (k : Nat) {l : List Nat}, l.length = k → IsDig l → trimD l = l.take (trimD l).length
  | 0, l, hk, _ => by obtain rfl : l = [] := List.eq_nil_of_length_eq_zero hk
                      rfl
  | k + 1, l, hk, hl => by
    have e : l = l.take (k + 1) := (List.take_of_length_le (by omega)).symm
    by_cases h : l.getD k 0 = 0
    · have h1 := trim_step_zero l k (by omega) h
      rw [← e] at h1
      have h2 := trimD_take k (l := l.take k) (by rw [List.length_take]; omega) (isDig_take hl k)
      rw [h1]
      have hlen : (trimD (l.take k)).length ≤ k := by
        have := congrArg List.length h2
        rw [List.length_take, List.length_take] at this
        omega
      conv => lhs; rw [h2]
      rw [List.take_take, Nat.min_eq_left hlen]
    · have h1 := trim_step_stop hl k (by omega) h
      rw [← e] at h1
      rw [h1, List.take_of_length_le (Nat.le_refl _)]
theorem trimD_dig (l : List Nat) : IsDig (trimD l) := digs_lt _

/-! ### Comparing -/
def cmpI (m n : Nat) : Int := if m < n then -1 else if n < m then 1 else 0
theorem len_lt {m n : Nat} (h : (digs m).length < (digs n).length) : m < n := by
  rcases Nat.lt_or_ge m n with h1 | h1
  · exact h1
  · have h2 := lt_of_digs_length (Nat.le_refl (digs m).length)
    have := digs_length_le (digs m).length n (by omega)
    omega
theorem valD_split (l : List Nat) (i : Nat) (h : i < l.length) : valD l = valD (l.take i) + 10 ^ i * (l.getD i 0 + 10 * valD (l.drop (i + 1))) := by
  have e : l = l.take i ++ (l.getD i 0 :: l.drop (i + 1)) := by
    rw [List.getD_eq_getElem?_getD, List.getElem?_eq_getElem h]
    simp
  have hv := valD_append (l.take i) (l.getD i 0 :: l.drop (i + 1))
  rw [← e, List.length_take, Nat.min_eq_left (by omega)] at hv
  exact hv
theorem top_lt {a b : List Nat} (ha : IsDig a) (i : Nat) (h1 : i < a.length) (h2 : i < b.length) (hd : a.drop (i + 1) = b.drop (i + 1)) (h : a.getD i 0 < b.getD i 0) : valD a < valD b := by
  rw [valD_split a i h1, valD_split b i h2, hd]
  have h3 := valD_lt (isDig_take ha i)
  rw [List.length_take, Nat.min_eq_left (by omega)] at h3
  have : 10 ^ i * (b.getD i 0 + 10 * valD (b.drop (i + 1))) ≥ 10 ^ i * (a.getD i 0 + 10 * valD (b.drop (i + 1))) + 10 ^ i := by
    have : 10 ^ i * (a.getD i 0 + 10 * valD (b.drop (i + 1))) + 10 ^ i = 10 ^ i * (a.getD i 0 + 10 * valD (b.drop (i + 1)) + 1) := by rw [Nat.mul_add _ _ 1, Nat.mul_one]
    rw [this]
    exact Nat.mul_le_mul_left _ (by omega)
  omega
theorem drop_next {a b : List Nat} (i : Nat) (h1 : i < a.length) (h2 : i < b.length) (hd : a.drop (i + 1) = b.drop (i + 1)) (h : a.getD i 0 = b.getD i 0) : a.drop i = b.drop i := by
  rw [List.drop_eq_getElem_cons h1, List.drop_eq_getElem_cons h2, hd]
  simp [List.getD_eq_getElem?_getD, h1, h2] at h
  rw [h]

/-! ### Adding -/
/-- Digits and carry after i steps. -/
def PlusInv (a b out : List Nat) (c i : Nat) : Prop := out.length = i ∧ IsDig out ∧ c ≤ 1 ∧ valD out + 10 ^ i * c = valD (a.take i) + valD (b.take i) ∧ (i = 0 ∨ 10 ^ (i - 1) ≤ valD a + valD b)
theorem plus_start (a b : List Nat) : PlusInv a b [] 0 0 := ⟨rfl, (fun _ h => by cases h), by omega, by simp [valD], .inl rfl⟩
theorem valD_take_le (l : List Nat) : ∀ i, valD (l.take i) ≤ valD l := fun i => by
  have := valD_append (l.take i) (l.drop i)
  rw [List.take_append_drop] at this
  omega
theorem canon_ge {l : List Nat} (hl : IsDig l) (h : Canon l) (h0 : 0 < l.length) : 10 ^ (l.length - 1) ≤ valD l := by
  have e := digs_valD hl h
  rcases Nat.lt_or_ge (valD l) (10 ^ (l.length - 1)) with h1 | h1
  · have := digs_length_le _ _ h1
    rw [e] at this; omega
  · exact h1
theorem canon_of_ge {l : List Nat} (hl : IsDig l) (h : l = [] ∨ 10 ^ (l.length - 1) ≤ valD l) : digs (valD l) = l := by
  rcases h with rfl | h
  · rfl
  · by_cases h0 : l = []
    · subst h0; rfl
    · refine digs_valD hl ?_
      unfold Canon
      intro he
      obtain ⟨q, hq⟩ : ∃ q, l = q ++ [0] := by
        have hne := List.getLast?_eq_some_iff.1 he
        obtain ⟨q, hq⟩ := hne
        exact ⟨q, hq⟩
      subst hq
      have h2 := valD_lt (l := q) (fun d hd => hl d (by simp [hd]))
      rw [valD_snoc] at h
      simp at h
      omega
theorem plus_step {a b out : List Nat} {c i : Nat} (ha : IsDig a) (hb : IsDig b) (hca : Canon a) (hcb : Canon b) (h : PlusInv a b out c i) (hi : i < a.length ∨ i < b.length ∨ 0 < c) :
    PlusInv a b (out ++ [(c + a.getD i 0 + b.getD i 0) % 10]) ((c + a.getD i 0 + b.getD i 0) / 10) (i + 1) := by
  obtain ⟨hl, hd, hc, hv, _⟩ := h
  have h1 := getD_dig ha i
  have h2 := getD_dig hb i
  refine ⟨by simp [hl], isDig_append hd (fun d hx => by simp at hx; omega), by omega, ?_, .inr ?_⟩
  · rw [valD_snoc, hl, valD_take_getD, valD_take_getD, Nat.pow_succ]
    generalize a.getD i 0 = x at *
    generalize b.getD i 0 = y at *
    have e : 10 ^ i * ((c + x + y) % 10) + 10 ^ i * 10 * ((c + x + y) / 10) = 10 ^ i * c + 10 ^ i * x + 10 ^ i * y := by
      rw [Nat.mul_assoc, ← Nat.mul_add, ← Nat.mul_add, ← Nat.mul_add, Nat.mod_add_div]
    omega
  · rw [Nat.add_sub_cancel]
    have ha2 := valD_take_le a i
    have hb2 := valD_take_le b i
    rcases hi with h | h | h
    · have := canon_ge ha hca (by omega)
      have : 10 ^ i ≤ 10 ^ (a.length - 1) := Nat.pow_le_pow_right (by decide) (by omega)
      omega
    · have := canon_ge hb hcb (by omega)
      have : 10 ^ i ≤ 10 ^ (b.length - 1) := Nat.pow_le_pow_right (by decide) (by omega)
      omega
    · have : c = 1 := by omega
      subst this
      omega
theorem plus_end {a b out : List Nat} {i : Nat} (h : PlusInv a b out 0 i) (h1 : a.length ≤ i) (h2 : b.length ≤ i) : out = digs (valD a + valD b) := by
  obtain ⟨hl, hd, _, hv, h0⟩ := h
  rw [valD_take_all a i h1, valD_take_all b i h2, Nat.mul_zero, Nat.add_zero] at hv
  rw [← hv]
  refine (canon_of_ge hd ?_).symm
  rcases h0 with h0 | h0
  · left; exact List.eq_nil_of_length_eq_zero (by omega)
  · right; rw [hl, hv]; exact h0
theorem plus_bound {a b out : List Nat} {c i k : Nat} (h : PlusInv a b out c i) (ha : valD a < 10 ^ k) (hb : valD b < 10 ^ k) : i ≤ k + 1 := by
  obtain ⟨_, _, _, _, h0⟩ := h
  rcases h0 with h0 | h0
  · omega
  · rcases Nat.lt_or_ge (k + 1) i with h1 | h1
    · exfalso
      have : 10 ^ (k + 1) ≤ 10 ^ (i - 1) := Nat.pow_le_pow_right (by decide) (by omega)
      rw [Nat.pow_succ] at this
      omega
    · exact h1

/-! ### Subtracting -/
def MinusInv (a b out : List Nat) (c i : Nat) : Prop := out.length = i ∧ IsDig out ∧ c ≤ 1 ∧ valD out + valD (b.take i) = valD (a.take i) + 10 ^ i * c
theorem minus_start (a b : List Nat) : MinusInv a b [] 0 0 := ⟨rfl, (fun _ h => by cases h), by omega, by simp [valD]⟩
theorem minus_step {a b out : List Nat} {c i : Nat} (ha : IsDig a) (hb : IsDig b) (h : MinusInv a b out c i) (d c' : Nat)
    (hs : (c + b.getD i 0 ≤ a.getD i 0 ∧ d = a.getD i 0 - c - b.getD i 0 ∧ c' = 0) ∨ (a.getD i 0 < c + b.getD i 0 ∧ d = a.getD i 0 + 10 - c - b.getD i 0 ∧ c' = 1)) : MinusInv a b (out ++ [d]) c' (i + 1) := by
  obtain ⟨hl, hd, hc, hv⟩ := h
  have h1 := getD_dig ha i
  have h2 := getD_dig hb i
  refine ⟨by simp [hl], isDig_append hd (fun x hx => by simp at hx; omega), by omega, ?_⟩
  rw [valD_snoc, hl, valD_take_getD, valD_take_getD, Nat.pow_succ]
  generalize a.getD i 0 = x at *
  generalize b.getD i 0 = y at *
  have e : 10 ^ i * d + 10 ^ i * c + 10 ^ i * y = 10 ^ i * x + 10 ^ i * 10 * c' := by
    rw [Nat.mul_assoc, ← Nat.mul_add, ← Nat.mul_add, ← Nat.mul_add]
    congr 1
    omega
  omega
theorem minus_end {a b out : List Nat} {c : Nat} (hb : IsDig b) (h : MinusInv a b out c a.length) (hle : valD b ≤ valD a) (hlen : b.length ≤ a.length) : trimD out = digs (valD a - valD b) := by
  obtain ⟨hl, hd, hc, hv⟩ := h
  rw [valD_take_all a _ (Nat.le_refl _), valD_take_all b _ hlen] at hv
  have h1 := valD_lt hd
  rw [hl] at h1
  have _ := hb
  have : c = 0 := by
    rcases Nat.lt_or_ge 0 c with h2 | h2
    · have : c = 1 := by omega
      subst this
      omega
    · omega
  subst this
  unfold trimD
  congr 1
  omega
end Go.Proofs.YtildgpahacaglaaDoor
