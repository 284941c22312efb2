/-
  Plain mathematics of layer 3: the library's numerals (Itoa, Atoi) in the words of textI and numB.
-/
import Derived.Test.YtildgpahacaglaaDoorAlg
import Derived.Lib.ItoaNum
import Derived.Lib.AtoiAll
namespace Go.Proofs.YtildgpahacaglaaDoor
open Go

theorem textN_small {u : Nat} (h : u < 10) : textN u = [48 + u] := by
  unfold textN
  split
  · rename_i h0; subst h0; rfl
  · rename_i h0
    rw [digs_pos h0, show u / 10 = 0 by omega, digs_zero, Nat.mod_eq_of_lt h]
    rfl
theorem textN_big {u : Nat} (h : ¬ u < 10) : textN u = textN (u / 10) ++ [48 + u % 10] := by
  unfold textN
  rw [if_neg (by omega), if_neg (by omega), digs_pos (by omega)]
  simp
theorem decDigits_textN (u : Nat) : (Lib.decDigits u).map UInt8.toNat = textN u := by
  induction u using Nat.strongRecOn with
  | _ u ih =>
    by_cases h : u < 10
    · rw [Lib.decDigits, dif_pos h, textN_small h]
      simp
      omega
    · rw [Lib.decDigits, dif_neg h, textN_big h, List.map_append, ih (u / 10) (by omega)]
      simp
      omega
theorem bytes_back (l : List UInt8) : (l.map UInt8.toNat).map Nat.toUInt8 = l := by
  rw [List.map_map]
  have : (Nat.toUInt8 ∘ UInt8.toNat) = (id : UInt8 → UInt8) := by
    funext b
    simp
  rw [this, List.map_id]
theorem itoa_list (x : Int) : (Lib.itoa x).map UInt8.toNat = (if x < 0 then [45] else []) ++ textN x.natAbs := by
  unfold Lib.itoa
  split
  · rw [List.map_cons, decDigits_textN]; rfl
  · rw [decDigits_textN, show x.toNat = x.natAbs by omega]; rfl
theorem itoa_textI (x : Int) : (⟨(Lib.itoa x).toArray⟩ : ByteArray) = textI x := by
  unfold textI byteL
  rw [← itoa_list, bytes_back]
theorem itoa_nat (g : Nat) : (Lib.itoa ((g : Nat) : Int)).map UInt8.toNat = textN g := by
  rw [itoa_list, if_neg (by omega), Int.natAbs_natCast]; rfl

/-! ### Atoi -/
def decV : List UInt8 → Nat → Nat
  | [], acc => acc
  | c :: r, acc => decV r (acc * 10 + (c.toNat - 48))
theorem decV_nil (acc : Nat) : decV [] acc = acc := rfl
theorem decV_cons (c : UInt8) (r : List UInt8) (acc : Nat) : decV (c :: r) acc = decV r (acc * 10 + (c.toNat - 48)) := rfl
theorem decV_val : ∀ (l : List UInt8) (acc : Nat), decV l acc = acc * 10 ^ l.length + valD (digT (l.map UInt8.toNat)) := by
  intro l
  induction l with
  | nil => intro acc; rw [decV_nil]; simp [digT, valD]
  | cons c r ih =>
    intro acc
    have e : digT ((c :: r).map UInt8.toNat) = digT (r.map UInt8.toNat) ++ [c.toNat - 48] := by simp [digT]
    have hl : (digT (r.map UInt8.toNat)).length = r.length := by simp [digT]
    rw [decV_cons, ih, e, valD_snoc, List.length_cons, Nat.pow_succ, Nat.add_mul, hl]
    generalize c.toNat - 48 = d
    rw [Nat.mul_assoc, Nat.mul_comm 10, Nat.mul_comm d]
    omega
theorem decV_ge : ∀ (l : List UInt8) (acc : Nat), acc ≤ decV l acc := by
  intro l
  induction l with
  | nil => intro acc; rw [decV_nil]; exact Nat.le_refl _
  | cons c r ih =>
    intro acc
    rw [decV_cons]
    have := ih (acc * 10 + (c.toNat - 48))
    omega
theorem parse_nil (acc : Nat) : Lib.parseUint10 acc [] = .ok acc := rfl
theorem parse_cons (acc : Nat) (c : UInt8) (r : List UInt8) (h : 48 ≤ c.toNat ∧ c.toNat ≤ 57) : Lib.parseUint10 acc (c :: r) =
    if 1844674407370955162 ≤ acc then .range
    else if 18446744073709551616 ≤ acc * 10 + (c.toNat - 48) then .range
    else Lib.parseUint10 (acc * 10 + (c.toNat - 48)) r := by rw [Lib.parseUint10, if_pos h]
theorem parse_digits : ∀ (l : List UInt8) (acc : Nat), (∀ c ∈ l, 48 ≤ c.toNat ∧ c.toNat < 58) → acc < 18446744073709551616 → Lib.parseUint10 acc l = if decV l acc < 18446744073709551616 then .ok (decV l acc) else .range := by
  intro l
  induction l with
  | nil => intro acc _ ha; rw [parse_nil, decV_nil, if_pos ha]
  | cons c r ih =>
    intro acc hl ha
    have hc := hl c (by simp)
    have hge := decV_ge r (acc * 10 + (c.toNat - 48))
    rw [parse_cons _ _ _ (by omega), decV_cons]
    by_cases h1 : 1844674407370955162 ≤ acc
    · rw [if_pos h1, if_neg (by omega)]
    · rw [if_neg h1]
      by_cases h2 : 18446744073709551616 ≤ acc * 10 + (c.toNat - 48)
      · rw [if_pos h2, if_neg (by omega)]
      · rw [if_neg h2]
        exact ih _ (fun x hx => hl x (by simp [hx])) (by omega)
theorem parse_plain {l : List UInt8} (h : plainB (l.map UInt8.toNat) = true) : Lib.parseMag l = if valD (digT (l.map UInt8.toNat)) < 18446744073709551616 then .ok (valD (digT (l.map UInt8.toNat))) else .range := by
  obtain ⟨h1, h2, _, _⟩ := plainB_parts h
  unfold Lib.parseMag
  rw [if_neg (by intro e; subst e; simp at h2)]
  have e := decV_val l 0
  rw [Nat.zero_mul, Nat.zero_add] at e
  rw [parse_digits l 0 (fun c hc => h1 c.toNat (List.mem_map_of_mem hc)) (by decide), e]
theorem atoi_valid {s : ByteArray} (h : validB s = true) : Lib.atoiAll s.data.toList = if -9223372036854775808 ≤ numB s ∧ numB s ≤ 9223372036854775807 then .ok (numB s) else .range := by
  unfold validB at h
  unfold numB
  have e : bytesL s = s.data.toList.map UInt8.toNat := rfl
  rw [e] at h ⊢
  generalize s.data.toList = l at *
  cases l with
  | nil => simp [validL, plainB] at h
  | cons c r =>
    by_cases hc : c.toNat = 45
    · rw [List.map_cons, hc] at h ⊢
      have h' : (decide (r.map UInt8.toNat ≠ [48]) && plainB (r.map UInt8.toNat)) = true := h
      simp only [Bool.and_eq_true, decide_eq_true_eq] at h'
      have hp := parse_plain h'.2
      have hn : numL (45 :: r.map UInt8.toNat) = -(valD (digT (r.map UInt8.toNat)) : Int) := rfl
      rw [hn]
      unfold Lib.atoiAll
      simp only [hc, or_true, if_true]
      rw [hp]
      generalize valD (digT (r.map UInt8.toNat)) = v
      by_cases hv : v < 18446744073709551616
      · rw [if_pos hv]
        simp only
        by_cases h1 : 9223372036854775808 < v
        · simp [h1]
          omega
        · simp [h1]
          omega
      · rw [if_neg hv, if_neg (by omega)]
    · have hv : validL ((c :: r).map UInt8.toNat) = plainB ((c :: r).map UInt8.toNat) := by
        unfold validL; split
        · rename_i q he; rw [List.map_cons] at he; injection he with h1 _; exact absurd h1 hc
        · rfl
      have hn : numL ((c :: r).map UInt8.toNat) = (valD (digT ((c :: r).map UInt8.toNat)) : Int) := by
        unfold numL; split
        · rename_i q he; rw [List.map_cons] at he; injection he with h1 _; exact absurd h1 hc
        · rfl
      rw [hv] at h
      rw [hn]
      have hp := parse_plain h
      have h43 : c.toNat ≠ 43 := by
        have := (plainB_parts h).1 c.toNat (by simp)
        omega
      unfold Lib.atoiAll
      simp only [hc, h43, or_self, if_false]
      rw [hp]
      generalize valD (digT ((c :: r).map UInt8.toNat)) = v
      by_cases hv : v < 18446744073709551616
      · rw [if_pos hv]
        simp only
        by_cases h1 : 9223372036854775808 ≤ v
        · simp [h1]
          omega
        · simp [h1]
          omega
      · rw [if_neg hv, if_neg (by omega)]
end Go.Proofs.YtildgpahacaglaaDoor
