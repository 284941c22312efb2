/-
  Plain mathematics of layer 3: groups of four digits, the lowest one first (out of the text on digits, by renaming).
-/
import Derived.Test.YtildgpahacaglaaDoorAlg
namespace Go.Proofs.YtildgpahacaglaaDoor

/-- The number that digits stand for, the lowest one first. -/
def valG : List Nat → Nat
  | [] => 0
  | d :: l => d + 10000 * valG l
def IsGrp (l : List Nat) : Prop := ∀ d ∈ l, d < 10000
/-- No zero in front. -/
def CanonG (l : List Nat) : Prop := l.getLast? ≠ some 0
def grpsF : Nat → Nat → List Nat
  | 0, _ => []
  | f + 1, n => if n = 0 then [] else n % 10000 :: grpsF f (n / 10000)
/-- The digits of a number, the lowest one first; 0 has none. -/
def grps (n : Nat) : List Nat := grpsF n n

theorem grpsF_any : ∀ (f g n : Nat), n ≤ f → n ≤ g → grpsF f n = grpsF g n
  | 0, 0, _, _, _ => rfl
  | 0, g + 1, n, h, _ => by obtain rfl : n = 0 := by omega
                            simp [grpsF]
  | f + 1, 0, n, _, h => by obtain rfl : n = 0 := by omega
                            simp [grpsF]
  | f + 1, g + 1, n, h1, h2 => by
    simp only [grpsF]
    split
    · rfl
    · rw [grpsF_any f g (n / 10000) (by omega) (by omega)]
theorem grps_zero : grps 0 = [] := rfl
theorem grps_pos {n : Nat} (h : n ≠ 0) : grps n = n % 10000 :: grps (n / 10000) := by
  obtain ⟨m, rfl⟩ : ∃ m, n = m + 1 := ⟨n - 1, by omega⟩
  unfold grps
  rw [grpsF, if_neg h, grpsF_any m ((m + 1) / 10000) ((m + 1) / 10000) (by omega) (Nat.le_refl _)]
theorem grps_ind {p : Nat → Prop} (h0 : p 0) (h : ∀ n, n ≠ 0 → p (n / 10000) → p n) : ∀ n, p n := by
  intro n
  induction n using Nat.strongRecOn with
  | _ n ih =>
    by_cases hn : n = 0
    · subst hn; exact h0
    · exact h n hn (ih (n / 10000) (by omega))
theorem valG_grps : ∀ n, valG (grps n) = n := grps_ind rfl fun n hn ih => by
  rw [grps_pos hn]; simp only [valG]; rw [ih]; omega
theorem grps_lt : ∀ n, IsGrp (grps n) := grps_ind (fun _ h => by cases h) fun n hn ih => by
  rw [grps_pos hn]
  intro d hd
  rcases List.mem_cons.1 hd with rfl | h
  · omega
  · exact ih d h
theorem canonG_nil : CanonG [] := by unfold CanonG; simp
theorem canonG_cons {d : Nat} {l : List Nat} (h : CanonG (d :: l)) : CanonG l := by
  unfold CanonG at *
  cases l with
  | nil => simp
  | cons e l => simpa [List.getLast?_cons_cons] using h
theorem canonG_one {d : Nat} (h : CanonG [d]) : d ≠ 0 := by
  unfold CanonG at h; simpa using h
theorem grps_canonG : ∀ n, CanonG (grps n) := grps_ind canonG_nil fun n hn ih => by
  rw [grps_pos hn]
  unfold CanonG at *
  by_cases h : n / 10000 = 0
  · rw [h, grps_zero]; simp; omega
  · rw [grps_pos h] at ih ⊢
    rw [List.getLast?_cons_cons]; exact ih
theorem valG_pos : ∀ {l : List Nat}, CanonG l → l ≠ [] → valG l ≠ 0
  | [], _, h => absurd rfl h
  | [d], h, _ => by have := canonG_one h; simp only [valG]; omega
  | d :: e :: l, h, _ => by
    have := valG_pos (canonG_cons h) (by simp)
    have e1 : valG (d :: e :: l) = d + 10000 * valG (e :: l) := rfl
    omega
theorem grps_valG : ∀ {l : List Nat}, IsGrp l → CanonG l → grps (valG l) = l
  | [], _, _ => rfl
  | d :: l, hd, hc => by
    have hdl := hd d (by simp)
    have ih := grps_valG (l := l) (fun x hx => hd x (by simp [hx])) (canonG_cons hc)
    rw [grps_pos (valG_pos hc (by simp))]
    simp only [valG]
    rw [show (d + 10000 * valG l) % 10000 = d by omega, show (d + 10000 * valG l) / 10000 = valG l by omega, ih]
theorem valG_lt : ∀ {l : List Nat}, IsGrp l → valG l < 10000 ^ l.length
  | [], _ => by simp [valG]
  | d :: l, hd => by
    have hdl := hd d (by simp)
    have ih := valG_lt (l := l) (fun x hx => hd x (by simp [hx]))
    rw [List.length_cons, Nat.pow_succ]
    simp only [valG]; omega
theorem grps_length_le : ∀ (k n : Nat), n < 10000 ^ k → (grps n).length ≤ k
  | 0, n, h => by obtain rfl : n = 0 := by simpa using h
                  simp [grps_zero]
  | k + 1, n, h => by
    by_cases hn : n = 0
    · subst hn; simp [grps_zero]
    · rw [grps_pos hn, List.length_cons]
      have := grps_length_le k (n / 10000) (by rw [Nat.pow_succ] at h; omega)
      omega
theorem lt_of_grps_length {k n : Nat} (h : (grps n).length ≤ k) : n < 10000 ^ k := by
  have h1 := valG_lt (grps_lt n)
  rw [valG_grps] at h1
  exact Nat.lt_of_lt_of_le h1 (Nat.pow_le_pow_right (by decide) h)
theorem grps_length_iff (k n : Nat) : (grps n).length ≤ k ↔ n < 10000 ^ k := ⟨lt_of_grps_length, grps_length_le k n⟩
theorem valG_append : ∀ (l m : List Nat), valG (l ++ m) = valG l + 10000 ^ l.length * valG m
  | [], m => by simp [valG]
  | d :: l, m => by
    rw [List.cons_append, List.length_cons, Nat.pow_succ]
    simp only [valG]
    rw [valG_append l m, Nat.mul_add, Nat.mul_comm (10000 ^ l.length) 10000, Nat.mul_assoc]; omega
theorem isGrp_append {l m : List Nat} (h1 : IsGrp l) (h2 : IsGrp m) : IsGrp (l ++ m) := fun d hd => (List.mem_append.1 hd).elim (h1 d) (h2 d)
theorem isGrp_take {l : List Nat} (h : IsGrp l) (k : Nat) : IsGrp (l.take k) := fun d hd => h d (List.mem_of_mem_take hd)

/-- Without the zeros in front. -/
def trimG (l : List Nat) : List Nat := grps (valG l)
theorem trimG_nil : trimG [] = [] := rfl
theorem trimG_zero (l : List Nat) : trimG (l ++ [0]) = trimG l := by unfold trimG; rw [valG_append]; simp [valG]
theorem trimG_canonG {l : List Nat} (h : IsGrp l) (d : Nat) (hd : d ≠ 0) (h2 : IsGrp (l ++ [d])) : trimG (l ++ [d]) = l ++ [d] := by
  have _ := h
  exact grps_valG h2 (by unfold CanonG; simpa using hd)

theorem getG_grp {l : List Nat} (h : IsGrp l) (i : Nat) : l.getD i 0 < 10000 := by
  rw [List.getD_eq_getElem?_getD]
  cases hx : l[i]? with
  | none => simp
  | some x => exact h x (List.mem_of_getElem? hx)
theorem takeG_snoc (l : List Nat) (k : Nat) (h : k < l.length) : l.take (k + 1) = l.take k ++ [l.getD k 0] := by
  rw [List.take_succ_eq_append_getElem h]; simp [List.getD_eq_getElem?_getD, h]
theorem valG_take (l : List Nat) (k : Nat) (h : k < l.length) : valG (l.take (k + 1)) = valG (l.take k) + 10000 ^ k * l.getD k 0 := by
  rw [takeG_snoc l k h, valG_append, List.length_take, Nat.min_eq_left (by omega)]; simp [valG]
theorem valG_take_all (l : List Nat) (k : Nat) (h : l.length ≤ k) : valG (l.take k) = valG l := by rw [List.take_of_length_le h]
theorem valG_take_getD (l : List Nat) (k : Nat) : valG (l.take (k + 1)) = valG (l.take k) + 10000 ^ k * l.getD k 0 := by
  rcases Nat.lt_or_ge k l.length with h | h
  · exact valG_take l k h
  · rw [valG_take_all l _ (by omega), valG_take_all l k h]
    simp [List.getD_eq_getElem?_getD, h]
theorem valG_snoc (l : List Nat) (d : Nat) : valG (l ++ [d]) = valG l + 10000 ^ l.length * d := by rw [valG_append]; simp [valG]

/-! ### Trimming -/
theorem trimG_step_zero (l : List Nat) (k : Nat) (hk : k < l.length) (h : l.getD k 0 = 0) : trimG (l.take (k + 1)) = trimG (l.take k) := by
  unfold trimG; rw [valG_take l k hk, h]; simp
theorem trimG_step_stop {l : List Nat} (hl : IsGrp l) (k : Nat) (hk : k < l.length) (h : l.getD k 0 ≠ 0) : trimG (l.take (k + 1)) = l.take (k + 1) := by
  have := isGrp_take hl (k + 1)
  rw [takeG_snoc l k hk] at this ⊢
  exact trimG_canonG (isGrp_take hl k) _ h this
theorem trimG_take : ∀ (k : Nat) {l : List Nat}, l.length = k → IsGrp l → trimG l = l.take (trimG l).length
  | 0, l, hk, _ => by obtain rfl : l = [] := List.eq_nil_of_length_eq_zero hk
                      rfl
  | k + 1, l, hk, hl => by
    have e : l = l.take (k + 1) := (List.take_of_length_le (by omega)).symm
    by_cases h : l.getD k 0 = 0
    · have h1 := trimG_step_zero l k (by omega) h
      rw [← e] at h1
      have h2 := trimG_take k (l := l.take k) (by rw [List.length_take]; omega) (isGrp_take hl k)
      rw [h1]
      have hlen : (trimG (l.take k)).length ≤ k := by
        have := congrArg List.length h2
        rw [List.length_take, List.length_take] at this
        omega
      conv => lhs; rw [h2]
      rw [List.take_take, Nat.min_eq_left hlen]
    · have h1 := trimG_step_stop hl k (by omega) h
      rw [← e] at h1
      rw [h1, List.take_of_length_le (Nat.le_refl _)]
theorem trimG_grp (l : List Nat) : IsGrp (trimG l) := grps_lt _

/-! ### Comparing -/
theorem lenG_lt {m n : Nat} (h : (grps m).length < (grps n).length) : m < n := by
  rcases Nat.lt_or_ge m n with h1 | h1
  · exact h1
  · have h2 := lt_of_grps_length (Nat.le_refl (grps m).length)
    have := grps_length_le (grps m).length n (by omega)
    omega
theorem valG_split (l : List Nat) (i : Nat) (h : i < l.length) : valG l = valG (l.take i) + 10000 ^ i * (l.getD i 0 + 10000 * valG (l.drop (i + 1))) := by
  have e : l = l.take i ++ (l.getD i 0 :: l.drop (i + 1)) := by
    rw [List.getD_eq_getElem?_getD, List.getElem?_eq_getElem h]
    simp
  have hv := valG_append (l.take i) (l.getD i 0 :: l.drop (i + 1))
  rw [← e, List.length_take, Nat.min_eq_left (by omega)] at hv
  exact hv
theorem topG_lt {a b : List Nat} (ha : IsGrp a) (i : Nat) (h1 : i < a.length) (h2 : i < b.length) (hd : a.drop (i + 1) = b.drop (i + 1)) (h : a.getD i 0 < b.getD i 0) : valG a < valG b := by
  rw [valG_split a i h1, valG_split b i h2, hd]
  have h3 := valG_lt (isGrp_take ha i)
  rw [List.length_take, Nat.min_eq_left (by omega)] at h3
  have : 10000 ^ i * (b.getD i 0 + 10000 * valG (b.drop (i + 1))) ≥ 10000 ^ i * (a.getD i 0 + 10000 * valG (b.drop (i + 1))) + 10000 ^ i := by
    have : 10000 ^ i * (a.getD i 0 + 10000 * valG (b.drop (i + 1))) + 10000 ^ i = 10000 ^ i * (a.getD i 0 + 10000 * valG (b.drop (i + 1)) + 1) := by rw [Nat.mul_add _ _ 1, Nat.mul_one]
    rw [this]
    exact Nat.mul_le_mul_left _ (by omega)
  omega
theorem dropG_next {a b : List Nat} (i : Nat) (h1 : i < a.length) (h2 : i < b.length) (hd : a.drop (i + 1) = b.drop (i + 1)) (h : a.getD i 0 = b.getD i 0) : a.drop i = b.drop i := by
  rw [List.drop_eq_getElem_cons h1, List.drop_eq_getElem_cons h2, hd]
  simp [List.getD_eq_getElem?_getD, h1, h2] at h
  rw [h]

theorem valG_take_le (l : List Nat) : ∀ i, valG (l.take i) ≤ valG l := fun i => by
  have := valG_append (l.take i) (l.drop i)
  rw [List.take_append_drop] at this
  omega
theorem canonG_ge {l : List Nat} (hl : IsGrp l) (h : CanonG l) (h0 : 0 < l.length) : 10000 ^ (l.length - 1) ≤ valG l := by
  have e := grps_valG hl h
  rcases Nat.lt_or_ge (valG l) (10000 ^ (l.length - 1)) with h1 | h1
  · have := grps_length_le _ _ h1
    rw [e] at this; omega
  · exact h1
theorem canonG_of_ge {l : List Nat} (hl : IsGrp l) (h : l = [] ∨ 10000 ^ (l.length - 1) ≤ valG l) : grps (valG l) = l := by
  rcases h with rfl | h
  · rfl
  · by_cases h0 : l = []
    · subst h0; rfl
    · refine grps_valG hl ?_
      unfold CanonG
      intro he
      obtain ⟨q, hq⟩ : ∃ q, l = q ++ [0] := by
        have hne := List.getLast?_eq_some_iff.1 he
        obtain ⟨q, hq⟩ := hne
        exact ⟨q, hq⟩
      subst hq
      have h2 := valG_lt (l := q) (fun d hd => hl d (by simp [hd]))
      rw [valG_snoc] at h
      simp at h
      omega
end Go.Proofs.YtildgpahacaglaaDoor
