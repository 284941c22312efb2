/-
  Plain mathematics of layer 2: what proofs show, how long they are, and what two proofs of different entries or beginnings contain.
-/
import Derived.Test.YtdolmahodhgfpaaDoorTree
namespace Go.Proofs.YtdolmahodhgfpaaDoor

theorem sha_size (s : ByteArray) : (sha s).size = 32 := by
  show ((shaN (natsOf s)).map Nat.toUInt8).toArray.size = 32
  rw [List.size_toArray, List.length_map]
  exact shaN_length _
theorem leafF_size (s : ByteArray) : (leafF s).size = 32 := sha_size _
theorem nodeF_size (a b : ByteArray) : (nodeF a b).size = 32 := sha_size _
theorem rootF_size (l : List ByteArray) : (rootF l).size = 32 := by
  match l with
  | [] => rw [rootF_nil]; exact sha_size _
  | [a] => rw [rootF_one]; exact sha_size _
  | a :: b :: l => rw [rootF_big (by simp)]; exact sha_size _

theorem val_proof : ∀ (N : Nat) (l : List ByteArray) (i : Nat) (_ : l.length ≤ N) (h : i < l.length), valR l.length i l[i] (proofF l i).reverse = some (rootF l)
  | 0, l, i, hN, h => by omega
  | N + 1, l, i, hN, h => by
    by_cases h1 : l.length ≤ 1
    · rw [proofF_small h1]
      match l, h, h1 with
      | [a], h, _ =>
        have : i = 0 := by simpa using h
        subst this
        simp [valR, rootF_one]
    · have hk := splitN_lt (n := l.length) (by omega)
      have hp := splitN_pos l.length
      rw [rootF_big (by omega)]
      by_cases hi : i < splitN l.length
      · rw [proofF_lo (by omega) hi, List.reverse_append]
        have ih := val_proof N (l.take (splitN l.length)) i (by simp; omega) (by simp; omega)
        have e : (l.take (splitN l.length)).length = splitN l.length := by simp; omega
        have e2 : (l.take (splitN l.length))[i]'(by simp; omega) = l[i] := by simp
        rw [e2, e] at ih
        simp only [List.reverse_cons, List.reverse_nil, List.nil_append, List.cons_append]
        rw [valR, if_neg (by omega), if_pos hi, ih]; rfl
      · rw [proofF_hi (by omega) hi, List.reverse_append]
        have ih := val_proof N (l.drop (splitN l.length)) (i - splitN l.length) (by simp; omega) (by simp; omega)
        have e : (l.drop (splitN l.length)).length = l.length - splitN l.length := by simp
        have e2 : (l.drop (splitN l.length))[i - splitN l.length]'(by simp; omega) = l[i] := by
          rw [List.getElem_drop]; congr 1; omega
        rw [e2, e] at ih
        simp only [List.reverse_cons, List.reverse_nil, List.nil_append, List.cons_append]
        rw [valR, if_neg (by omega), if_neg hi, ih]; rfl
theorem valF_proof (l : List ByteArray) (i : Nat) (h : i < l.length) : valF l.length i l[i] (proofF l i) = some (rootF l) :=
  val_proof l.length l i (Nat.le_refl _) h

theorem proofF_dig : ∀ (N : Nat) (l : List ByteArray) (i : Nat) (_ : l.length ≤ N), allDig (proofF l i) = true
  | 0, l, i, hN => by rw [proofF_small (by omega)]; rfl
  | N + 1, l, i, hN => by
    by_cases h1 : l.length ≤ 1
    · rw [proofF_small h1]; rfl
    · have hk := splitN_lt (n := l.length) (by omega)
      have hp := splitN_pos l.length
      by_cases hi : i < splitN l.length
      · rw [proofF_lo (by omega) hi]
        have ih := proofF_dig N (l.take (splitN l.length)) i (by simp; omega)
        simp only [allDig, List.all_append, List.all_cons, List.all_nil, rootF_size] at ih ⊢
        simpa using ih
      · rw [proofF_hi (by omega) hi]
        have ih := proofF_dig N (l.drop (splitN l.length)) (i - splitN l.length) (by simp; omega)
        simp only [allDig, List.all_append, List.all_cons, List.all_nil, rootF_size] at ih ⊢
        simpa using ih

theorem splitN_pow {n k : Nat} (h2 : 2 ≤ n) (h : n ≤ 2 ^ (k + 1)) : splitN n ≤ 2 ^ k := by
  have hlt := splitN_lt h2
  unfold splitN at hlt ⊢
  have : Nat.log2 (n - 1) < k + 1 := (Nat.pow_lt_pow_iff_right (by decide : 1 < 2)).1 (Nat.lt_of_lt_of_le hlt h)
  exact Nat.pow_le_pow_right (by decide) (by omega)

theorem proofF_length : ∀ (k : Nat) (l : List ByteArray) (i : Nat) (_ : l.length ≤ 2 ^ k), (proofF l i).length ≤ k
  | 0, l, i, hN => by rw [proofF_small (by simpa using hN)]; simp
  | k + 1, l, i, hN => by
    by_cases h1 : l.length ≤ 1
    · rw [proofF_small h1]; simp
    · have hk := splitN_lt (n := l.length) (by omega)
      have hg := splitN_ge (n := l.length) (by omega)
      have hp := splitN_pow (n := l.length) (by omega) hN
      by_cases hi : i < splitN l.length
      · rw [proofF_lo (by omega) hi]
        have ih := proofF_length k (l.take (splitN l.length)) i (by simp; omega)
        simp; omega
      · rw [proofF_hi (by omega) hi]
        have ih := proofF_length k (l.drop (splitN l.length)) (i - splitN l.length) (by simp; omega)
        simp; omega

/-- Accepted proofs of the same place have the same length. -/
theorem valR_length : ∀ (r r' : List ByteArray) (n i : Nat) (s s' v v' : ByteArray), valR n i s r = some v → valR n i s' r' = some v' → r.length = r'.length
  | [], [], _, _, _, _, _, _, _, _ => rfl
  | [], x :: r, n, i, s, s', v, v', h, h' => by
    simp only [valR] at h h'
    by_cases hn : n = 1
    · rw [if_pos (by omega)] at h'; cases h'
    · rw [if_neg hn] at h; cases h
  | x :: r, [], n, i, s, s', v, v', h, h' => by
    simp only [valR] at h h'
    by_cases hn : n = 1
    · rw [if_pos (by omega)] at h; cases h
    · rw [if_neg hn] at h'; cases h'
  | x :: r, y :: r', n, i, s, s', v, v', h, h' => by
    simp only [valR] at h h'
    by_cases hn : n ≤ 1
    · rw [if_pos hn] at h; cases h
    · rw [if_neg hn] at h h'
      by_cases hi : i < splitN n
      · rw [if_pos hi, Option.map_eq_some_iff] at h h'
        obtain ⟨a, ha, _⟩ := h
        obtain ⟨b, hb, _⟩ := h'
        simp [valR_length r r' _ _ _ _ _ _ ha hb]
      · rw [if_neg hi, Option.map_eq_some_iff] at h h'
        obtain ⟨a, ha, _⟩ := h
        obtain ⟨b, hb, _⟩ := h'
        simp [valR_length r r' _ _ _ _ _ _ ha hb]

/-- The strings of which the digest is computed for a proof, from the root on. -/
def wayV (n i : Nat) (s : ByteArray) : List ByteArray → ByteArray
  | [] => leafF s
  | x :: r => if n ≤ 1 then leafF s else if i < splitN n then nodeF (wayV (splitN n) i s r) x else nodeF x (wayV (n - splitN n) (i - splitN n) s r)
def wayR (n i : Nat) (s : ByteArray) : List ByteArray → List ByteArray
  | [] => [tagged 0 s]
  | x :: r => if n ≤ 1 then [tagged 0 s]
    else if i < splitN n then tagged 1 (wayV (splitN n) i s r ++ x) :: wayR (splitN n) i s r
    else tagged 1 (x ++ wayV (n - splitN n) (i - splitN n) s r) :: wayR (n - splitN n) (i - splitN n) s r
theorem wayV_of_val : ∀ (r : List ByteArray) (n i : Nat) (s v : ByteArray), valR n i s r = some v → wayV n i s r = v
  | [], n, i, s, v, h => by
    simp only [valR] at h
    split at h
    · exact Option.some.inj h
    · cases h
  | x :: r, n, i, s, v, h => by
    simp only [valR, wayV] at h ⊢
    split at h
    · cases h
    · rename_i hn
      rw [if_neg hn]
      split at h
      · rename_i hi
        rw [Option.map_eq_some_iff] at h
        obtain ⟨a, ha, rfl⟩ := h
        rw [if_pos hi, wayV_of_val r _ _ _ _ ha]
      · rename_i hi
        rw [Option.map_eq_some_iff] at h
        obtain ⟨a, ha, rfl⟩ := h
        rw [if_neg hi, wayV_of_val r _ _ _ _ ha]

/-- Two different strings with the same index in two lists have the same digest. -/
def collB (x y : ByteArray) : Bool := decide (x ≠ y) && decide (sha x = sha y)
def collF (a b : List ByteArray) : Bool := (a.zip b).any fun p => collB p.1 p.2
theorem collF_cons (x y : ByteArray) (a b : List ByteArray) : collF (x :: a) (y :: b) = (collB x y || collF a b) := by simp [collF]

theorem ba_ext {a b : ByteArray} (h : a.data.toList = b.data.toList) : a = b := ByteArray.ext (Array.toList_inj.1 h)
theorem append_list (a b : ByteArray) : (a ++ b).data.toList = a.data.toList ++ b.data.toList := by simp [ByteArray.data_append]
theorem size_list (s : ByteArray) : s.data.toList.length = s.size := by simp
theorem tagged_inj {t : UInt8} {a b : ByteArray} (h : tagged t a = tagged t b) : a = b := by
  have := congrArg (fun s : ByteArray => s.data.toList) h
  simp only [tagged, append_list] at this
  exact ba_ext (List.append_cancel_left this)
theorem append_inj {a b c d : ByteArray} (h : a ++ b = c ++ d) (hs : a.size = c.size) : a = c ∧ b = d := by
  have := congrArg (fun s : ByteArray => s.data.toList) h
  simp only [append_list] at this
  have := List.append_inj this (by rw [size_list, size_list, hs])
  exact ⟨ba_ext this.1, ba_ext this.2⟩

theorem wayV_size (n i : Nat) (s : ByteArray) (r : List ByteArray) : (wayV n i s r).size = 32 := by
  cases r with
  | nil => exact leafF_size _
  | cons x r => simp only [wayV]; split; exact leafF_size _; split <;> exact nodeF_size _ _

theorem sha_ne {x y : ByteArray} (h : ¬ x = y) (e : sha x = sha y) : collB x y = true := by
  unfold collB; rw [Bool.and_eq_true, decide_eq_true_eq, decide_eq_true_eq]; exact ⟨h, e⟩
theorem binds : ∀ (r r' : List ByteArray) (n i : Nat) (s t v : ByteArray), valR n i s r = some v → valR n i t r' = some v → s ≠ t → allDig r = true → allDig r' = true →
    collF (wayR n i s r) (wayR n i t r') = true
  | [], [], n, i, s, t, v, h, h', hst, _, _ => by
    have e1 := wayV_of_val _ _ _ _ _ h
    have e2 := wayV_of_val _ _ _ _ _ h'
    simp only [wayV] at e1 e2
    simp only [wayR]
    rw [collF_cons, Bool.or_eq_true]
    exact .inl (sha_ne (fun e => hst (tagged_inj e)) (e1.trans e2.symm))
  | [], x :: r, n, i, s, t, v, h, h', _, _, _ => by have := valR_length _ _ _ _ _ _ _ _ h h'; simp at this
  | x :: r, [], n, i, s, t, v, h, h', _, _, _ => by have := valR_length _ _ _ _ _ _ _ _ h h'; simp at this
  | x :: r, y :: r', n, i, s, t, v, h, h', hst, hd, hd' => by
    simp only [allDig, List.all_cons, Bool.and_eq_true, beq_iff_eq] at hd hd'
    simp only [valR] at h h'
    by_cases hn : n ≤ 1
    · rw [if_pos hn] at h; cases h
    · rw [if_neg hn] at h h'
      simp only [wayR]
      rw [if_neg hn, if_neg hn]
      by_cases hi : i < splitN n
      · rw [if_pos hi, Option.map_eq_some_iff] at h h'
        obtain ⟨a, ha, hav⟩ := h
        obtain ⟨b, hb, hbv⟩ := h'
        rw [if_pos hi, if_pos hi, collF_cons, Bool.or_eq_true]
        have ea := wayV_of_val _ _ _ _ _ ha
        have eb := wayV_of_val _ _ _ _ _ hb
        by_cases he : tagged 1 (wayV (splitN n) i s r ++ x) = tagged 1 (wayV (splitN n) i t r' ++ y)
        · have := append_inj (tagged_inj he) (by rw [wayV_size, wayV_size])
          rw [ea, eb] at this
          obtain ⟨rfl, _⟩ := this
          exact .inr (binds r r' _ _ _ _ _ ha hb hst hd.2 hd'.2)
        · refine .inl (sha_ne he ?_)
          rw [ea, eb]
          exact hav.trans hbv.symm
      · rw [if_neg hi, Option.map_eq_some_iff] at h h'
        obtain ⟨a, ha, hav⟩ := h
        obtain ⟨b, hb, hbv⟩ := h'
        rw [if_neg hi, if_neg hi, collF_cons, Bool.or_eq_true]
        have ea := wayV_of_val _ _ _ _ _ ha
        have eb := wayV_of_val _ _ _ _ _ hb
        by_cases he : tagged 1 (x ++ wayV (n - splitN n) (i - splitN n) s r) = tagged 1 (y ++ wayV (n - splitN n) (i - splitN n) t r')
        · have := append_inj (tagged_inj he) (by rw [hd.1, hd'.1])
          rw [ea, eb] at this
          obtain ⟨_, rfl⟩ := this
          exact .inr (binds r r' _ _ _ _ _ ha hb hst hd.2 hd'.2)
        · refine .inl (sha_ne he ?_)
          rw [ea, eb]
          exact hav.trans hbv.symm

/-! ### Beginnings -/

theorem two_part : ∀ (N : Nat) (l : List ByteArray) (m : Nat) (w : Bool) (old : ByteArray) (_ : l.length ≤ N) (_ : 1 ≤ m) (_ : m ≤ l.length) (_ : w = true → old = rootF (l.take m)),
    twoR old m l.length w (partF l m w).reverse = some (rootF (l.take m), rootF l)
  | 0, l, m, w, old, hN, h1, h2, hw => by omega
  | N + 1, l, m, w, old, hN, h1, h2, hw => by
    by_cases hm : m = l.length
    · subst hm
      rw [List.take_length]
      rw [List.take_length] at hw
      cases w with
      | true => rw [partF_whole, hw rfl, twoR_whole]; rfl
      | false => rw [partF_self, twoR_self]; rfl
    · have hk := splitN_lt (n := l.length) (by omega)
      have hp := splitN_pos l.length
      rw [rootF_big (l := l) (by omega)]
      by_cases hi : m ≤ splitN l.length
      · rw [partF_lo h1 (by omega) hi, List.reverse_append]
        have e : (l.take (splitN l.length)).length = splitN l.length := by simp; omega
        have e3 : (l.take (splitN l.length)).take m = l.take m := by rw [List.take_take, Nat.min_eq_left hi]
        have ih := two_part N (l.take (splitN l.length)) m w old (by omega) h1 (by omega) (by rw [e3]; exact hw)
        rw [e, e3] at ih
        simp only [List.reverse_cons, List.reverse_nil, List.nil_append, List.cons_append]
        rw [twoR_cons _ hm, if_pos hi, ih]; rfl
      · rw [partF_hi h1 (by omega) hi, List.reverse_append]
        have e : (l.drop (splitN l.length)).length = l.length - splitN l.length := by simp
        have ih := two_part N (l.drop (splitN l.length)) (m - splitN l.length) false old (by omega) (by omega) (by omega) (by simp)
        rw [e] at ih
        simp only [List.reverse_cons, List.reverse_nil, List.nil_append, List.cons_append]
        rw [twoR_cons _ hm, if_neg hi, ih]
        have hs : splitN m = splitN l.length := by
          have hg := splitN_ge (n := l.length) (by omega)
          unfold splitN at hi hk hg ⊢
          exact (splitN_of_pow (n := m) (by omega) (by omega)).symm
        have hmr : rootF (l.take m) = nodeF (rootF (l.take (splitN l.length))) (rootF ((l.drop (splitN l.length)).take (m - splitN l.length))) := by
          have el : (l.take m).length = m := by simp; omega
          rw [rootF_big (by omega), el, hs, List.take_take, Nat.min_eq_left (by omega), List.drop_take]
        rw [hmr]; rfl
theorem twoF_part (l : List ByteArray) (m : Nat) (h1 : 1 ≤ m) (h2 : m ≤ l.length) : twoF (rootF (l.take m)) m l.length true (partF l m true) = some (rootF (l.take m), rootF l) :=
  two_part l.length l m true _ (Nat.le_refl _) h1 h2 (fun _ => rfl)

theorem partF_dig : ∀ (N : Nat) (l : List ByteArray) (m : Nat) (w : Bool) (_ : l.length ≤ N), allDig (partF l m w) = true
  | 0, l, m, w, hN => by rw [partF, dif_pos (.inl (by omega))]; cases w <;> simp [allDig, rootF_size]
  | N + 1, l, m, w, hN => by
    by_cases h1 : l.length ≤ m ∨ m = 0
    · rw [partF, dif_pos h1]; cases w <;> simp [allDig, rootF_size]
    · have hk := splitN_lt (n := l.length) (by omega)
      have hp := splitN_pos l.length
      by_cases hi : m ≤ splitN l.length
      · rw [partF_lo (by omega) (by omega) hi]
        have ih := partF_dig N (l.take (splitN l.length)) m w (by simp; omega)
        simp only [allDig, List.all_append, List.all_cons, List.all_nil, rootF_size] at ih ⊢
        simpa using ih
      · rw [partF_hi (by omega) (by omega) hi]
        have ih := partF_dig N (l.drop (splitN l.length)) (m - splitN l.length) false (by simp; omega)
        simp only [allDig, List.all_append, List.all_cons, List.all_nil, rootF_size] at ih ⊢
        simpa using ih

theorem partF_length : ∀ (k : Nat) (l : List ByteArray) (m : Nat) (w : Bool) (_ : l.length ≤ 2 ^ k), (partF l m w).length ≤ k + 1
  | 0, l, m, w, hN => by
    rw [partF, dif_pos (by rcases Nat.eq_zero_or_pos m with h | h; exact .inr h; exact .inl (by simp at hN; omega))]; cases w <;> simp
  | k + 1, l, m, w, hN => by
    by_cases h1 : l.length ≤ m ∨ m = 0
    · rw [partF, dif_pos h1]; cases w <;> simp
    · have hk := splitN_lt (n := l.length) (by omega)
      have hg := splitN_ge (n := l.length) (by omega)
      have hp := splitN_pow (n := l.length) (by omega) hN
      by_cases hi : m ≤ splitN l.length
      · rw [partF_lo (by omega) (by omega) hi]
        have ih := partF_length k (l.take (splitN l.length)) m w (by simp; omega)
        simp; omega
      · rw [partF_hi (by omega) (by omega) hi]
        have ih := partF_length k (l.drop (splitN l.length)) (m - splitN l.length) false (by simp; omega)
        simp; omega

theorem twoR_length : ∀ (r r' : List ByteArray) (m n : Nat) (w : Bool) (a b : ByteArray) (v v' : ByteArray × ByteArray), twoR a m n w r = some v → twoR b m n w r' = some v' → r.length = r'.length := by
  intro r
  induction r with
  | nil =>
    intro r' m n w a b v v' h h'
    by_cases hm : m = n
    · subst hm
      cases w with
      | true =>
        rw [twoR_whole] at h'
        by_cases hr : r' = []
        · subst hr; rfl
        · simp [hr] at h'
      | false => rw [twoR_self] at h; cases h
    · rw [twoR_nil _ hm] at h; cases h
  | cons x r ih =>
    intro r' m n w a b v v' h h'
    by_cases hm : m = n
    · subst hm
      cases w with
      | true => rw [twoR_whole] at h; simp at h
      | false =>
        rw [twoR_self] at h h'
        match r, r', h, h' with
        | [], [_], _, _ => rfl
    · cases r' with
      | nil => rw [twoR_nil _ hm] at h'; cases h'
      | cons y r' =>
        rw [twoR_cons _ hm] at h h'
        by_cases hi : m ≤ splitN n
        · rw [if_pos hi, Option.map_eq_some_iff] at h h'
          obtain ⟨c, hc, _⟩ := h
          obtain ⟨d, hd, _⟩ := h'
          simp [ih r' _ _ _ _ _ _ _ hc hd]
        · rw [if_neg hi, Option.map_eq_some_iff] at h h'
          obtain ⟨c, hc, _⟩ := h
          obtain ⟨d, hd, _⟩ := h'
          simp [ih r' _ _ _ _ _ _ _ hc hd]

/-- The value for the new root, and the strings of which its digest is computed, from the root on. -/
def sideV (old : ByteArray) (m n : Nat) (w : Bool) : List ByteArray → ByteArray
  | [] => old
  | x :: r => if n ≤ m then (if w then old else (x :: r).getLastD old)
    else if m ≤ splitN n then nodeF (sideV old m (splitN n) w r) x else nodeF x (sideV old (m - splitN n) (n - splitN n) false r)
def sideR (old : ByteArray) (m n : Nat) (w : Bool) : List ByteArray → List ByteArray
  | [] => []
  | x :: r => if n ≤ m then []
    else if m ≤ splitN n then tagged 1 (sideV old m (splitN n) w r ++ x) :: sideR old m (splitN n) w r
    else tagged 1 (x ++ sideV old (m - splitN n) (n - splitN n) false r) :: sideR old (m - splitN n) (n - splitN n) false r
theorem sideV_of_two : ∀ (r : List ByteArray) (m n : Nat) (w : Bool) (old : ByteArray) (v : ByteArray × ByteArray), m ≤ n → twoR old m n w r = some v → sideV old m n w r = v.2
  | [], m, n, w, old, v, hmn, h => by
    by_cases hm : m = n
    · subst hm
      cases w with
      | true => rw [twoR_whole, if_pos rfl] at h; cases h; rfl
      | false => rw [twoR_self] at h; cases h
    · rw [twoR_nil _ hm] at h; cases h
  | x :: r, m, n, w, old, v, hmn, h => by
    by_cases hm : m = n
    · subst hm
      cases w with
      | true => rw [twoR_whole] at h; simp at h
      | false =>
        rw [twoR_self] at h
        match r, h with
        | [], h => cases h; simp [sideV]
    · rw [twoR_cons _ hm] at h
      simp only [sideV]
      rw [if_neg (by omega)]
      by_cases hi : m ≤ splitN n
      · rw [if_pos hi, Option.map_eq_some_iff] at h
        obtain ⟨c, hc, rfl⟩ := h
        rw [if_pos hi, sideV_of_two r _ _ _ _ _ hi hc]
      · rw [if_neg hi, Option.map_eq_some_iff] at h
        obtain ⟨c, hc, rfl⟩ := h
        rw [if_neg hi, sideV_of_two r _ _ _ _ _ (by omega) hc]

theorem two_sizes : ∀ (r : List ByteArray) (m n : Nat) (w : Bool) (old : ByteArray) (v : ByteArray × ByteArray), old.size = 32 → allDig r = true → twoR old m n w r = some v → v.1.size = 32 ∧ v.2.size = 32
  | [], m, n, w, old, v, ho, hd, h => by
    by_cases hm : m = n
    · subst hm
      cases w with
      | true => rw [twoR_whole, if_pos rfl] at h; cases h; exact ⟨ho, ho⟩
      | false => rw [twoR_self] at h; cases h
    · rw [twoR_nil _ hm] at h; cases h
  | x :: r, m, n, w, old, v, ho, hd, h => by
    simp only [allDig, List.all_cons, Bool.and_eq_true, beq_iff_eq] at hd
    by_cases hm : m = n
    · subst hm
      cases w with
      | true => rw [twoR_whole] at h; simp at h
      | false =>
        rw [twoR_self] at h
        match r, h with
        | [], h => cases h; exact ⟨hd.1, hd.1⟩
    · rw [twoR_cons _ hm] at h
      by_cases hi : m ≤ splitN n
      · rw [if_pos hi, Option.map_eq_some_iff] at h
        obtain ⟨c, hc, rfl⟩ := h
        exact ⟨(two_sizes r _ _ _ _ _ ho hd.2 hc).1, nodeF_size _ _⟩
      · rw [if_neg hi, Option.map_eq_some_iff] at h
        obtain ⟨c, hc, rfl⟩ := h
        exact ⟨nodeF_size _ _, nodeF_size _ _⟩

/-- Two different first values with the same second one: two different strings with the same digest. -/
theorem binds2 : ∀ (r r' : List ByteArray) (m n : Nat) (w : Bool) (a b : ByteArray) (v v' : ByteArray × ByteArray), m ≤ n → a.size = 32 → b.size = 32 → twoR a m n w r = some v → twoR b m n w r' = some v' →
    v.2 = v'.2 → v.1 ≠ v'.1 → allDig r = true → allDig r' = true → collF (sideR a m n w r) (sideR b m n w r') = true := by
  intro r
  induction r with
  | nil =>
    intro r' m n w a b v v' hmn sa sb h h' e2 e1 hd hd'
    by_cases hm : m = n
    · subst hm
      cases w with
      | true =>
        rw [twoR_whole] at h h'
        by_cases hr : r' = []
        · subst hr
          rw [if_pos rfl] at h h'
          cases h; cases h'
          exact absurd e2 e1
        · simp [hr] at h'
      | false => rw [twoR_self] at h; cases h
    · rw [twoR_nil _ hm] at h; cases h
  | cons x r ih =>
    intro r' m n w a b v v' hmn sa sb h h' e2 e1 hd hd'
    simp only [allDig, List.all_cons, Bool.and_eq_true, beq_iff_eq] at hd
    by_cases hm : m = n
    · subst hm
      cases w with
      | true => rw [twoR_whole] at h; simp at h
      | false =>
        rw [twoR_self] at h h'
        match r, r', h, h' with
        | [], [_], h, h' => cases h; cases h'; exact absurd e2 e1
    · cases r' with
      | nil => rw [twoR_nil _ hm] at h'; cases h'
      | cons y r' =>
        simp only [allDig, List.all_cons, Bool.and_eq_true, beq_iff_eq] at hd'
        rw [twoR_cons _ hm] at h h'
        have hnm : ¬ n ≤ m := by omega
        simp only [sideR, if_neg hnm]
        by_cases hi : m ≤ splitN n
        · rw [if_pos hi, Option.map_eq_some_iff] at h h'
          obtain ⟨c, hc, rfl⟩ := h
          obtain ⟨d, hdd, rfl⟩ := h'
          rw [if_pos hi, if_pos hi, collF_cons, Bool.or_eq_true]
          have ea := sideV_of_two _ _ _ _ _ _ hi hc
          have eb := sideV_of_two _ _ _ _ _ _ hi hdd
          by_cases he : tagged 1 (sideV a m (splitN n) w r ++ x) = tagged 1 (sideV b m (splitN n) w r' ++ y)
          · rw [ea, eb] at he
            have hz := append_inj (tagged_inj he) (by rw [(two_sizes _ _ _ _ _ _ sa hd.2 hc).2, (two_sizes _ _ _ _ _ _ sb hd'.2 hdd).2])
            exact .inr (ih r' _ _ _ _ _ _ _ hi sa sb hc hdd hz.1 e1 hd.2 hd'.2)
          · refine .inl (sha_ne he ?_)
            rw [ea, eb]
            exact e2
        · rw [if_neg hi, Option.map_eq_some_iff] at h h'
          obtain ⟨c, hc, rfl⟩ := h
          obtain ⟨d, hdd, rfl⟩ := h'
          rw [if_neg hi, if_neg hi, collF_cons, Bool.or_eq_true]
          have ea := sideV_of_two _ _ _ _ _ _ (by omega) hc
          have eb := sideV_of_two _ _ _ _ _ _ (by omega) hdd
          by_cases he : tagged 1 (x ++ sideV a (m - splitN n) (n - splitN n) false r) = tagged 1 (y ++ sideV b (m - splitN n) (n - splitN n) false r')
          · rw [ea, eb] at he
            have hz := append_inj (tagged_inj he) (by rw [hd.1, hd'.1])
            refine .inr (ih r' _ _ _ _ _ _ _ (by omega) sa sb hc hdd hz.2 (fun e => e1 ?_) hd.2 hd'.2)
            show nodeF x c.1 = nodeF y d.1
            rw [hz.1, e]
          · refine .inl (sha_ne he ?_)
            rw [ea, eb]
            exact e2
end Go.Proofs.YtdolmahodhgfpaaDoor
