/-
  Plain mathematics of layer 3: which strings are integers.
-/
import Derived.Test.YtildgpahacaglaaDoorDec
namespace Go.Proofs.YtildgpahacaglaaDoor

def bytesL (s : ByteArray) : List Nat := s.data.toList.map UInt8.toNat
theorem bytesL_length (s : ByteArray) : (bytesL s).length = s.size := by simp [bytesL]
theorem bytesL_lt (s : ByteArray) : ∀ x ∈ bytesL s, x < 256 := by
  intro x hx
  simp only [bytesL, List.mem_map] at hx
  obtain ⟨b, _, rfl⟩ := hx
  exact b.toNat_lt
theorem bytesL_byteL {l : List Nat} (h : ∀ x ∈ l, x < 256) : bytesL (byteL l) = l := by
  unfold bytesL byteL
  rw [List.map_map]
  have : ∀ (m : List Nat), (∀ x ∈ m, x < 256) → m.map (UInt8.toNat ∘ Nat.toUInt8) = m := by
    intro m
    induction m with
    | nil => intro _; rfl
    | cons a m ih =>
      intro hm
      have ha := hm a (by simp)
      rw [List.map_cons, ih (fun x hx => hm x (by simp [hx]))]
      simp
      omega
  exact this l h
theorem byteL_bytesL (s : ByteArray) : byteL (bytesL s) = s := by
  apply ByteArray.ext
  unfold byteL bytesL
  rw [List.map_map]
  have : (Nat.toUInt8 ∘ UInt8.toNat) = (id : UInt8 → UInt8) := by
    funext b
    simp
  rw [this, List.map_id]

/-- The digits of a text without a sign, the lowest one first. -/
def digT (r : List Nat) : List Nat := (r.map (· - 48)).reverse
/-- A text without a sign that stands for a number of at most 200 digits. -/
def plainB (r : List Nat) : Bool := r.all (fun x => decide (48 ≤ x ∧ x < 58)) && (decide (0 < r.length ∧ r.length ≤ 200) && (decide (r = [48]) || decide (r.head? ≠ some 48)))
/-- What Valid returns. -/
def validL (l : List Nat) : Bool := match l with
  | 45 :: r => decide (r ≠ [48]) && plainB r
  | l => plainB l
/-- The number of a valid text. -/
def numL (l : List Nat) : Int := match l with
  | 45 :: r => -(valD (digT r) : Int)
  | l => (valD (digT l) : Int)
def validB (s : ByteArray) : Bool := validL (bytesL s)
def numB (s : ByteArray) : Int := numL (bytesL s)

theorem digT_dig {r : List Nat} (h : ∀ x ∈ r, 48 ≤ x ∧ x < 58) : IsDig (digT r) := by
  intro d hd
  unfold digT at hd
  rw [List.mem_reverse, List.mem_map] at hd
  obtain ⟨x, hx, rfl⟩ := hd
  have := h x hx; omega
theorem plainB_parts {r : List Nat} (h : plainB r = true) : (∀ x ∈ r, 48 ≤ x ∧ x < 58) ∧ 0 < r.length ∧ r.length ≤ 200 ∧ (r = [48] ∨ r.head? ≠ some 48) := by
  unfold plainB at h
  simp only [Bool.and_eq_true, Bool.or_eq_true, decide_eq_true_eq, List.all_eq_true] at h
  exact ⟨h.1, h.2.1.1, h.2.1.2, h.2.2⟩
theorem back48 {r : List Nat} (h : ∀ x ∈ r, 48 ≤ x ∧ x < 58) : (r.map (· - 48)).map (48 + ·) = r := by
  induction r with
  | nil => rfl
  | cons a r ih =>
    have := h a (by simp)
    rw [List.map_cons, List.map_cons, ih (fun x hx => h x (by simp [hx]))]
    rw [show 48 + (a - 48) = a by omega]
theorem plain_canon {r : List Nat} (h : plainB r = true) (h0 : r ≠ [48]) : digs (valD (digT r)) = digT r ∧ valD (digT r) ≠ 0 := by
  obtain ⟨hd, hl, _, h2⟩ := plainB_parts h
  have h3 : r.head? ≠ some 48 := h2.resolve_left h0
  have hne : digT r ≠ [] := by
    intro e
    have := congrArg List.length e
    simp [digT] at this
    simp [this] at hl
  have hc : Canon (digT r) := by
    cases r with
    | nil => simp at hl
    | cons a r =>
      have ha := hd a (by simp)
      have h4 : a ≠ 48 := by intro e; apply h3; simp [e]
      unfold Canon digT
      simp
      omega
  exact ⟨digs_valD (digT_dig hd) hc, valD_pos hc hne⟩
theorem plain_text {r : List Nat} (h : plainB r = true) : textN (valD (digT r)) = r ∧ valD (digT r) < 10 ^ 200 := by
  obtain ⟨hd, hl, hl2, _⟩ := plainB_parts h
  have hlt := valD_lt (digT_dig hd)
  have hlen : (digT r).length = r.length := by simp [digT]
  rw [hlen] at hlt
  refine ⟨?_, Nat.lt_of_lt_of_le hlt (Nat.pow_le_pow_right (by decide) hl2)⟩
  by_cases h0 : r = [48]
  · subst h0; rfl
  · obtain ⟨h5, h6⟩ := plain_canon h h0
    unfold textN
    rw [if_neg h6, h5]
    unfold digT
    rw [List.reverse_reverse, back48 hd]
theorem textN_plain {n : Nat} (h : n < 10 ^ 200) : plainB (textN n) = true ∧ valD (digT (textN n)) = n := by
  have hd := textN_dig n
  by_cases hn : n = 0
  · subst hn; exact ⟨by decide, by decide⟩
  · have hl := digs_length_le 200 n h
    have ht : textN n = (digs n).reverse.map (48 + ·) := by unfold textN; rw [if_neg hn]
    have hv : digT (textN n) = digs n := by
      rw [ht]; unfold digT
      rw [List.map_map]
      have : ((· - 48) ∘ (48 + ·) : Nat → Nat) = id := by funext x; simp
      rw [this, List.map_id, List.reverse_reverse]
    refine ⟨?_, by rw [hv, valD_digs]⟩
    have hne := textN_ne_nil n
    have hlen : (textN n).length = (digs n).length := by rw [ht]; simp
    unfold plainB
    simp only [Bool.and_eq_true, Bool.or_eq_true, decide_eq_true_eq, List.all_eq_true]
    refine ⟨hd, ⟨List.length_pos_iff.2 hne, by omega⟩, .inr ?_⟩
    intro he
    have hc := digs_canon n
    unfold Canon at hc
    rw [ht] at he
    cases hg : (digs n).getLast? with
    | none => rw [List.getLast?_eq_none_iff] at hg; rw [digs_pos hn] at hg; cases hg
    | some d =>
      rw [hg] at hc
      have : (digs n).reverse.head? = some d := by rw [List.head?_reverse, hg]
      rw [List.head?_map, this] at he
      simp at he
      exact hc (by rw [he])
theorem text_lt (x : Int) : ∀ z ∈ (if x < 0 then [45] else []) ++ textN x.natAbs, z < 256 := by
  intro z hz
  rcases List.mem_append.1 hz with h1 | h1
  · split at h1 <;> simp at h1; omega
  · exact textN_lt _ z h1
theorem bytesL_textI (x : Int) : bytesL (textI x) = (if x < 0 then [45] else []) ++ textN x.natAbs := bytesL_byteL (text_lt x)
theorem textN_no_sign (n : Nat) (r : List Nat) : textN n ≠ 45 :: r := by
  intro h
  have := textN_dig n 45 (by rw [h]; simp)
  omega
/-- A text is valid if, and only if, it is that of a number which fits; and which number that is. -/
theorem valid_text {x : Int} (h : Fits x) : validB (textI x) = true ∧ numB (textI x) = x := by
  unfold Fits at h
  obtain ⟨h1, h2⟩ := textN_plain h
  unfold validB numB
  rw [bytesL_textI]
  by_cases hx : x < 0
  · rw [if_pos hx]
    have hne : textN x.natAbs ≠ [48] := by
      intro e
      have : x.natAbs = 0 := textN_inj (e.trans (show [48] = textN 0 from rfl))
      omega
    show (decide (textN x.natAbs ≠ [48]) && plainB (textN x.natAbs)) = true ∧ -(valD (digT (textN x.natAbs)) : Int) = x
    rw [decide_eq_true hne, h1, h2]
    exact ⟨rfl, by omega⟩
  · rw [if_neg hx, List.nil_append]
    have e1 : validL (textN x.natAbs) = plainB (textN x.natAbs) := by
      unfold validL; split
      · rename_i r he; exact absurd he (textN_no_sign _ r)
      · rfl
    have e2 : numL (textN x.natAbs) = (valD (digT (textN x.natAbs)) : Int) := by
      unfold numL; split
      · rename_i r he; exact absurd he (textN_no_sign _ r)
      · rfl
    rw [e1, e2, h1, h2]
    exact ⟨rfl, by omega⟩
theorem text_valid {s : ByteArray} (h : validB s = true) : Fits (numB s) ∧ s = textI (numB s) := by
  unfold validB at h
  unfold numB Fits
  have key : ∀ l, validL l = true → (numL l).natAbs < 10 ^ 200 ∧ byteL l = textI (numL l) := by
    intro l hl
    unfold validL at hl
    unfold numL
    split at hl
    · rename_i r
      simp only [Bool.and_eq_true, decide_eq_true_eq] at hl
      obtain ⟨h0, h1⟩ := hl
      obtain ⟨h2, h3⟩ := plain_text h1
      obtain ⟨_, h5⟩ := plain_canon h1 h0
      refine ⟨by omega, ?_⟩
      unfold textI
      rw [if_pos (by omega), show (-(valD (digT r) : Int)).natAbs = valD (digT r) by omega, h2]
      rfl
    · rename_i l' hno
      obtain ⟨h2, h3⟩ := plain_text hl
      refine ⟨by simp; omega, ?_⟩
      unfold textI
      rw [if_neg (by omega), Int.natAbs_natCast, h2]
      rfl
  obtain ⟨h1, h2⟩ := key _ h
  exact ⟨h1, by rw [← h2, byteL_bytesL]⟩
theorem validB_iff (s : ByteArray) : validB s = true ↔ ∃ x, Fits x ∧ s = textI x := by
  constructor
  · intro h; exact ⟨numB s, text_valid h⟩
  · rintro ⟨x, hx, rfl⟩; exact (valid_text hx).1
end Go.Proofs.YtildgpahacaglaaDoor
