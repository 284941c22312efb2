/-
  Plain mathematics of layer 3: digits, the lowest one first; the text of an integer.
-/
namespace Go.Proofs.YtildgpahacaglaaDoor

/-- The number that digits stand for, the lowest one first. -/
def valD : List Nat → Nat
  | [] => 0
  | d :: l => d + 10 * valD l
def IsDig (l : List Nat) : Prop := ∀ d ∈ l, d < 10
/-- No zero in front. -/
def Canon (l : List Nat) : Prop := l.getLast? ≠ some 0
def digsF : Nat → Nat → List Nat
  | 0, _ => []
  | f + 1, n => if n = 0 then [] else n % 10 :: digsF f (n / 10)
/-- The digits of a number, the lowest one first; 0 has none. -/
def digs (n : Nat) : List Nat := digsF n n

theorem digsF_any : ∀ (f g n : Nat), n ≤ f → n ≤ g → digsF f n = digsF g n
  | 0, 0, _, _, _ => rfl
  | 0, g + 1, n, h, _ => by obtain rfl : n = 0 := by omega
                            simp [digsF]
  | f + 1, 0, n, _, h => by obtain rfl : n = 0 := by omega
                            simp [digsF]
  | f + 1, g + 1, n, h1, h2 => by
    simp only [digsF]
    split
    · rfl
    · rw [digsF_any f g (n / 10) (by omega) (by omega)]
theorem digs_zero : digs 0 = [] := rfl
theorem digs_pos {n : Nat} (h : n ≠ 0) : digs n = n % 10 :: digs (n / 10) := by
  obtain ⟨m, rfl⟩ : ∃ m, n = m + 1 := ⟨n - 1, by omega⟩
  unfold digs
  rw [digsF, if_neg h, digsF_any m ((m + 1) / 10) ((m + 1) / 10) (by omega) (Nat.le_refl _)]
theorem digs_ind {p : Nat → Prop} (h0 : p 0) (h : ∀ n, n ≠ 0 → p (n / 10) → p n) : ∀ n, p n := by
  intro n
  induction n using Nat.strongRecOn with
  | _ n ih =>
    by_cases hn : n = 0
    · subst hn; exact h0
    · exact h n hn (ih (n / 10) (by omega))
theorem valD_digs : ∀ n, valD (digs n) = n := digs_ind rfl fun n hn ih => by
  rw [digs_pos hn]; simp only [valD]; rw [ih]; omega
theorem digs_lt : ∀ n, IsDig (digs n) := digs_ind (fun _ h => by cases h) fun n hn ih => by
  rw [digs_pos hn]
  intro d hd
  rcases List.mem_cons.1 hd with rfl | h
  · omega
  · exact ih d h
theorem canon_nil : Canon [] := by unfold Canon; simp
theorem canon_cons {d : Nat} {l : List Nat} (h : Canon (d :: l)) : Canon l := by
  unfold Canon at *
  cases l with
  | nil => simp
  | cons e l => simpa [List.getLast?_cons_cons] using h
theorem canon_one {d : Nat} (h : Canon [d]) : d ≠ 0 := by
  unfold Canon at h; simpa using h
theorem digs_canon : ∀ n, Canon (digs n) := digs_ind canon_nil fun n hn ih => by
  rw [digs_pos hn]
  unfold Canon at *
  by_cases h : n / 10 = 0
  · rw [h, digs_zero]; simp; omega
  · rw [digs_pos h] at ih ⊢
    rw [List.getLast?_cons_cons]; exact ih
theorem valD_pos : ∀ {l : List Nat}, Canon l → l ≠ [] → valD l ≠ 0
  | [], _, h => absurd rfl h
  | [d], h, _ => by have := canon_one h; simp only [valD]; omega
  | d :: e :: l, h, _ => by
    have := valD_pos (canon_cons h) (by simp)
    have e1 : valD (d :: e :: l) = d + 10 * valD (e :: l) := rfl
    omega
theorem digs_valD : ∀ {l : List Nat}, IsDig l → Canon l → digs (valD l) = l
  | [], _, _ => rfl
  | d :: l, hd, hc => by
    have hdl := hd d (by simp)
    have ih := digs_valD (l := l) (fun x hx => hd x (by simp [hx])) (canon_cons hc)
    rw [digs_pos (valD_pos hc (by simp))]
    simp only [valD]
    rw [show (d + 10 * valD l) % 10 = d by omega, show (d + 10 * valD l) / 10 = valD l by omega, ih]
theorem valD_lt : ∀ {l : List Nat}, IsDig l → valD l < 10 ^ l.length
  | [], _ => by simp [valD]
  | d :: l, hd => by
    have hdl := hd d (by simp)
    have ih := valD_lt (l := l) (fun x hx => hd x (by simp [hx]))
    rw [List.length_cons, Nat.pow_succ]
    simp only [valD]; omega
theorem digs_length_le : ∀ (k n : Nat), n < 10 ^ k → (digs n).length ≤ k
  | 0, n, h => by obtain rfl : n = 0 := by simpa using h
                  simp [digs_zero]
  | k + 1, n, h => by
    by_cases hn : n = 0
    · subst hn; simp [digs_zero]
    · rw [digs_pos hn, List.length_cons]
      have := digs_length_le k (n / 10) (by rw [Nat.pow_succ] at h; omega)
      omega
theorem lt_of_digs_length {k n : Nat} (h : (digs n).length ≤ k) : n < 10 ^ k := by
  have h1 := valD_lt (digs_lt n)
  rw [valD_digs] at h1
  exact Nat.lt_of_lt_of_le h1 (Nat.pow_le_pow_right (by decide) h)
theorem digs_length_iff (k n : Nat) : (digs n).length ≤ k ↔ n < 10 ^ k := ⟨lt_of_digs_length, digs_length_le k n⟩
theorem valD_append : ∀ (l m : List Nat), valD (l ++ m) = valD l + 10 ^ l.length * valD m
  | [], m => by simp [valD]
  | d :: l, m => by
    rw [List.cons_append, List.length_cons, Nat.pow_succ]
    simp only [valD]
    rw [valD_append l m, Nat.mul_add, Nat.mul_comm (10 ^ l.length) 10, Nat.mul_assoc]; omega
theorem isDig_append {l m : List Nat} (h1 : IsDig l) (h2 : IsDig m) : IsDig (l ++ m) := fun d hd => (List.mem_append.1 hd).elim (h1 d) (h2 d)
theorem isDig_take {l : List Nat} (h : IsDig l) (k : Nat) : IsDig (l.take k) := fun d hd => h d (List.mem_of_mem_take hd)

/-- Without the zeros in front. -/
def trimD (l : List Nat) : List Nat := digs (valD l)
theorem trimD_nil : trimD [] = [] := rfl
theorem trimD_zero (l : List Nat) : trimD (l ++ [0]) = trimD l := by unfold trimD; rw [valD_append]; simp [valD]
theorem trimD_canon {l : List Nat} (h : IsDig l) (d : Nat) (hd : d ≠ 0) (h2 : IsDig (l ++ [d])) : trimD (l ++ [d]) = l ++ [d] := by
  have _ := h
  exact digs_valD h2 (by unfold Canon; simpa using hd)

/-! ### Text -/
def byteL (l : List Nat) : ByteArray := ⟨(l.map Nat.toUInt8).toArray⟩
def textN (n : Nat) : List Nat := if n = 0 then [48] else (digs n).reverse.map (48 + ·)
/-- The text of an integer. -/
def textI (x : Int) : ByteArray := byteL ((if x < 0 then [45] else []) ++ textN x.natAbs)
/-- What a list of digits with a sign stands for. -/
def intD (neg : Bool) (n : Nat) : Int := if neg then -(n : Int) else n
theorem intD_abs (neg : Bool) (n : Nat) : (intD neg n).natAbs = n := by cases neg <;> simp [intD]
def Fits (x : Int) : Prop := x.natAbs < 10 ^ 200

theorem byteL_size (l : List Nat) : (byteL l).size = l.length := by
  show (l.map Nat.toUInt8).toArray.size = _
  simp
theorem byteL_get (l : List Nat) (h : ∀ x ∈ l, x < 256) (i : Nat) (hi : i < (byteL l).size) : ((byteL l)[i]).toNat = l.getD i 0 := by
  have hl : i < l.length := by rwa [byteL_size] at hi
  have e1 : (byteL l)[i] = (l.map Nat.toUInt8).toArray[i]'(by simpa using hl) := rfl
  rw [e1]
  have hb := h l[i] (List.getElem_mem _)
  simp [List.getD_eq_getElem?_getD, hl]
  omega
theorem byteL_inj {l m : List Nat} (hl : ∀ x ∈ l, x < 256) (hm : ∀ x ∈ m, x < 256) (h : byteL l = byteL m) : l = m := by
  have hs : l.length = m.length := by rw [← byteL_size l, ← byteL_size m, h]
  apply List.ext_getElem hs
  intro i h1 h2
  have a := byteL_get l hl i (by rw [byteL_size]; exact h1)
  have b := byteL_get m hm i (by rw [byteL_size]; exact h2)
  simp only [h] at a
  rw [a] at b
  simpa [List.getD_eq_getElem?_getD, h1, h2] using b
theorem textN_dig (n : Nat) : ∀ x ∈ textN n, 48 ≤ x ∧ x < 58 := by
  unfold textN
  split
  · intro x hx; simp at hx; omega
  · intro x hx
    rw [List.mem_map] at hx
    obtain ⟨d, hd, rfl⟩ := hx
    have := digs_lt n d (List.mem_reverse.1 hd)
    omega
theorem textN_lt (n : Nat) : ∀ x ∈ textN n, x < 256 := fun x hx => by have := textN_dig n x hx; omega
theorem textN_inj {m n : Nat} (h : textN m = textN n) : m = n := by
  have key : ∀ n, n ≠ 0 → textN n ≠ [48] := by
    intro n hn he
    unfold textN at he
    rw [if_neg hn] at he
    have hd : (digs n).reverse.map (48 + ·) = [0].map (48 + ·) := he
    have hl : (digs n).reverse = [0] := by
      have := congrArg (List.map (· - 48)) hd
      simpa [List.map_map, Function.comp_def] using this
    have h2 : digs n = [0] := by have := congrArg List.reverse hl; simpa using this
    have := digs_canon n
    rw [h2] at this
    exact this rfl
  by_cases hm : m = 0
  · by_cases hn : n = 0
    · rw [hm, hn]
    · rw [hm] at h; exact absurd h.symm (key n hn)
  · by_cases hn : n = 0
    · rw [hn] at h; exact absurd h (key m hm)
    · unfold textN at h
      rw [if_neg hm, if_neg hn] at h
      have hl : (digs m).reverse = (digs n).reverse := by
        have := congrArg (List.map (· - 48)) h
        simpa [List.map_map, Function.comp_def] using this
      have h2 : digs m = digs n := by have := congrArg List.reverse hl; simpa using this
      rw [← valD_digs m, h2, valD_digs]
theorem textN_ne_nil (n : Nat) : textN n ≠ [] := by
  unfold textN
  split
  · simp
  · rename_i h; rw [digs_pos h]; simp
theorem textI_inj {x y : Int} (h : textI x = textI y) : x = y := by
  unfold textI at h
  have hx : ∀ z ∈ (if x < 0 then [45] else []) ++ textN x.natAbs, z < 256 := by
    intro z hz
    rcases List.mem_append.1 hz with h1 | h1
    · split at h1 <;> simp at h1; omega
    · exact textN_lt _ z h1
  have hy : ∀ z ∈ (if y < 0 then [45] else []) ++ textN y.natAbs, z < 256 := by
    intro z hz
    rcases List.mem_append.1 hz with h1 | h1
    · split at h1 <;> simp at h1; omega
    · exact textN_lt _ z h1
  have hl := byteL_inj hx hy h
  have key : ∀ m n : Nat, [45] ++ textN m ≠ textN n := by
    intro m n he
    have := textN_dig n 45 (by rw [← he]; simp)
    omega
  by_cases h1 : x < 0
  · by_cases h2 : y < 0
    · rw [if_pos h1, if_pos h2] at hl
      have := textN_inj (List.append_cancel_left hl)
      omega
    · rw [if_pos h1, if_neg h2] at hl
      exact absurd hl (key _ _)
  · by_cases h2 : y < 0
    · rw [if_neg h1, if_pos h2] at hl
      exact absurd hl.symm (key _ _)
    · rw [if_neg h1, if_neg h2] at hl
      have := textN_inj (List.append_cancel_left hl)
      omega
end Go.Proofs.YtildgpahacaglaaDoor
