/-
  The library's contracts of strconv's Itoa, Atoi and AppendInt, laid at this program's numbers.
  Plain mathematics of layer 3: the library's numerals (Itoa, Atoi) in the words of textI and numB.
-/
import Derived.Shelf.LaysM
import Derived.Shelf.LaysC
import Derived.Shelf.Strconv.Itoa3
import Derived.Shelf.Strconv.AtoiAll
import Derived.Shelf.Strconv.ErrVarAll
import Derived.Shelf.Strconv.AppendIntPublic10
import Derived.Test.YtlcibnmcannapaaGreatDoorProg
import Derived.Test.YtlcibnmcannapaaGreatDoorGplain
import Derived.Lib.ItoaNum
import Derived.Lib.AtoiAll
namespace Go.Proofs.YtlcibnmcannapaaGreatDoor
open Go Go.Proofs
open Go.Shelf
def laysM171_ren : Go.Shelf.Ren := ⟨fun | 171 => 91 | 243 => 115 | 246 => 133 | 283 => 149 | 284 => 150 | 285 => 151 | 286 => 152 | 129 => 162 | 317 => 161 | 318 => 163 | 319 => 164 | 320 => 165 | 337 => 167 | 338 => 168 | n => n, fun | 3 => 3 | 9 => 9 | 2 => 2 | 4 => 4 | 171 => 150 | 0 => 0 | 53 => 138 | 37 => 48 | 5 => 5 | 173 => 153 | 212 => 161 | 51 => 135 | 20 => 20 | 213 => 162 | 46 => 112 | 232 => 165 | 233 => 166 | n => n, fun | 17 => 1 | 18 => 2 | 19 => 3 | n => n⟩
theorem laysM171 : Go.Proofs.LaysM.n171 Tryz.prog laysM171_ren := {
  mixed := by kernel_rfl
  f129 := Tryz.func162.trans (congrArg some (by kernel_rfl))
  f171 := Tryz.func91.trans (congrArg some (by kernel_rfl))
  f243 := Tryz.func115.trans (congrArg some (by kernel_rfl))
  f246 := Tryz.func133.trans (congrArg some (by kernel_rfl))
  f283 := Tryz.func149.trans (congrArg some (by kernel_rfl))
  f284 := Tryz.func150.trans (congrArg some (by kernel_rfl))
  f285 := Tryz.func151.trans (congrArg some (by kernel_rfl))
  f286 := Tryz.func152.trans (congrArg some (by kernel_rfl))
  f317 := Tryz.func161.trans (congrArg some (by kernel_rfl))
  f318 := Tryz.func163.trans (congrArg some (by kernel_rfl))
  f319 := Tryz.func164.trans (congrArg some (by kernel_rfl))
  f320 := Tryz.func165.trans (congrArg some (by kernel_rfl))
  f337 := Tryz.func167.trans (congrArg some (by kernel_rfl))
  f338 := Tryz.func168.trans (congrArg some (by kernel_rfl))
  t0 := Tryz.underlying0
  a0 := Tryz.isAgg0
  z0 := Tryz.sizeOf0
  v0 := Tryz.zeroValue0
  t2 := Tryz.underlying2
  a2 := Tryz.isAgg2
  z2 := Tryz.sizeOf2
  v2 := Tryz.zeroValue2
  t3 := Tryz.underlying3
  a3 := Tryz.isAgg3
  z3 := Tryz.sizeOf3
  v3 := Tryz.zeroValue3
  t4 := Tryz.underlying4
  a4 := Tryz.isAgg4
  z4 := Tryz.sizeOf4
  v4 := Tryz.zeroValue4
  t5 := Tryz.underlying5
  a5 := Tryz.isAgg5
  z5 := Tryz.sizeOf5
  v5 := Tryz.zeroValue5
  t9 := Tryz.underlying9
  a9 := Tryz.isAgg9
  z9 := Tryz.sizeOf9
  v9 := Tryz.zeroValue9
  t20 := Tryz.underlying20
  a20 := Tryz.isAgg20
  z20 := Tryz.sizeOf20
  v20 := Tryz.zeroValue20
  t37 := Tryz.underlying48
  a37 := Tryz.isAgg48
  z37 := Tryz.sizeOf48
  v37 := Tryz.zeroValue48
  t46 := Tryz.underlying112
  a46 := Tryz.isAgg112
  z46 := Tryz.sizeOf112
  v46 := Tryz.zeroValue112
  t51 := Tryz.underlying135
  a51 := Tryz.isAgg135
  z51 := Tryz.sizeOf135
  v51 := Tryz.zeroValue135
  t53 := Tryz.underlying138
  a53 := Tryz.isAgg138
  z53 := Tryz.sizeOf138
  v53 := Tryz.zeroValue138
  t171 := Tryz.underlying150
  a171 := Tryz.isAgg150
  z171 := Tryz.sizeOf150
  v171 := Tryz.zeroValue150
  t173 := Tryz.underlying153
  a173 := Tryz.isAgg153
  z173 := Tryz.sizeOf153
  v173 := Tryz.zeroValue153
  t212 := Tryz.underlying161
  a212 := Tryz.isAgg161
  z212 := Tryz.sizeOf161
  v212 := Tryz.zeroValue161
  t213 := Tryz.underlying162
  a213 := Tryz.isAgg162
  z213 := Tryz.sizeOf162
  t232 := Tryz.underlying165
  a232 := Tryz.isAgg165
  z232 := Tryz.sizeOf165
  v232 := Tryz.zeroValue165
  t233 := Tryz.underlying166
  a233 := Tryz.isAgg166
  z233 := Tryz.sizeOf166
  v233 := Tryz.zeroValue166
  g17 := by kernel_rfl
  g18 := by kernel_rfl
  g19 := by kernel_rfl
  i0 := by kernel_rfl
  i2 := by kernel_rfl
  i3 := by kernel_rfl
  i4 := by kernel_rfl
  i5 := by kernel_rfl
  i9 := by kernel_rfl
  i20 := by kernel_rfl
  i37 := by kernel_rfl
  i46 := by kernel_rfl
  i51 := by kernel_rfl
  i53 := by kernel_rfl
  i171 := by kernel_rfl
  i173 := by kernel_rfl
  i212 := by kernel_rfl
  i232 := by kernel_rfl
  i233 := by kernel_rfl
  m17 := by kernel_rfl
  m18 := by kernel_rfl
  m19 := by kernel_rfl }
open Go.RowKit Go.Sort Go.Lib in
theorem strconv_Itoa (n : Int) (h0 : -9223372036854775808 ≤ n) (h1 : n ≤ 9223372036854775807) (w : World) (htab : Lib.TabIs Tryz.prog w "internal/strconv.uint64pow10" .u64 Lib.pow10Tab) :
    Calls Tryz.prog 91 #[.int .i64 n] w fun e w' => e = .returned (.string ⟨(Lib.itoa n).toArray⟩) ∧ ∃ k os, w' = grow (w.drewN k) os := Any.strconv_Itoa laysM171 n h0 h1 w htab
def laysM176_ren : Go.Shelf.Ren := ⟨fun | 176 => 125 | 249 => 143 | 288 => 159 | 283 => 149 | 284 => 150 | 285 => 151 | 286 => 152 | 129 => 162 | 317 => 161 | 318 => 163 | 319 => 164 | 320 => 165 | 337 => 167 | 338 => 168 | n => n, fun | 37 => 48 | 2 => 2 | 3 => 3 | 53 => 138 | 4 => 4 | 9 => 9 | 171 => 150 | 0 => 0 | 173 => 153 | 212 => 161 | 51 => 135 | 5 => 5 | 20 => 20 | 213 => 162 | 46 => 112 | 232 => 165 | 233 => 166 | n => n, fun | 17 => 1 | 18 => 2 | 19 => 3 | n => n⟩
theorem laysM176 : Go.Proofs.LaysM.n176 Tryz.prog laysM176_ren := {
  mixed := by kernel_rfl
  f129 := Tryz.func162.trans (congrArg some (by kernel_rfl))
  f176 := Tryz.func125.trans (congrArg some (by kernel_rfl))
  f249 := Tryz.func143.trans (congrArg some (by kernel_rfl))
  f283 := Tryz.func149.trans (congrArg some (by kernel_rfl))
  f284 := Tryz.func150.trans (congrArg some (by kernel_rfl))
  f285 := Tryz.func151.trans (congrArg some (by kernel_rfl))
  f286 := Tryz.func152.trans (congrArg some (by kernel_rfl))
  f288 := Tryz.func159.trans (congrArg some (by kernel_rfl))
  f317 := Tryz.func161.trans (congrArg some (by kernel_rfl))
  f318 := Tryz.func163.trans (congrArg some (by kernel_rfl))
  f319 := Tryz.func164.trans (congrArg some (by kernel_rfl))
  f320 := Tryz.func165.trans (congrArg some (by kernel_rfl))
  f337 := Tryz.func167.trans (congrArg some (by kernel_rfl))
  f338 := Tryz.func168.trans (congrArg some (by kernel_rfl))
  t0 := Tryz.underlying0
  a0 := Tryz.isAgg0
  z0 := Tryz.sizeOf0
  v0 := Tryz.zeroValue0
  t2 := Tryz.underlying2
  a2 := Tryz.isAgg2
  z2 := Tryz.sizeOf2
  v2 := Tryz.zeroValue2
  t3 := Tryz.underlying3
  a3 := Tryz.isAgg3
  z3 := Tryz.sizeOf3
  v3 := Tryz.zeroValue3
  t4 := Tryz.underlying4
  a4 := Tryz.isAgg4
  z4 := Tryz.sizeOf4
  v4 := Tryz.zeroValue4
  t5 := Tryz.underlying5
  a5 := Tryz.isAgg5
  z5 := Tryz.sizeOf5
  v5 := Tryz.zeroValue5
  t9 := Tryz.underlying9
  a9 := Tryz.isAgg9
  z9 := Tryz.sizeOf9
  v9 := Tryz.zeroValue9
  t20 := Tryz.underlying20
  a20 := Tryz.isAgg20
  z20 := Tryz.sizeOf20
  v20 := Tryz.zeroValue20
  t37 := Tryz.underlying48
  a37 := Tryz.isAgg48
  z37 := Tryz.sizeOf48
  v37 := Tryz.zeroValue48
  t46 := Tryz.underlying112
  a46 := Tryz.isAgg112
  z46 := Tryz.sizeOf112
  v46 := Tryz.zeroValue112
  t51 := Tryz.underlying135
  a51 := Tryz.isAgg135
  z51 := Tryz.sizeOf135
  v51 := Tryz.zeroValue135
  t53 := Tryz.underlying138
  a53 := Tryz.isAgg138
  z53 := Tryz.sizeOf138
  v53 := Tryz.zeroValue138
  t171 := Tryz.underlying150
  a171 := Tryz.isAgg150
  z171 := Tryz.sizeOf150
  v171 := Tryz.zeroValue150
  t173 := Tryz.underlying153
  a173 := Tryz.isAgg153
  z173 := Tryz.sizeOf153
  v173 := Tryz.zeroValue153
  t212 := Tryz.underlying161
  a212 := Tryz.isAgg161
  z212 := Tryz.sizeOf161
  v212 := Tryz.zeroValue161
  t213 := Tryz.underlying162
  a213 := Tryz.isAgg162
  z213 := Tryz.sizeOf162
  t232 := Tryz.underlying165
  a232 := Tryz.isAgg165
  z232 := Tryz.sizeOf165
  v232 := Tryz.zeroValue165
  t233 := Tryz.underlying166
  a233 := Tryz.isAgg166
  z233 := Tryz.sizeOf166
  v233 := Tryz.zeroValue166
  g17 := by kernel_rfl
  g18 := by kernel_rfl
  g19 := by kernel_rfl
  i0 := by kernel_rfl
  i2 := by kernel_rfl
  i3 := by kernel_rfl
  i4 := by kernel_rfl
  i5 := by kernel_rfl
  i9 := by kernel_rfl
  i20 := by kernel_rfl
  i37 := by kernel_rfl
  i46 := by kernel_rfl
  i51 := by kernel_rfl
  i53 := by kernel_rfl
  i171 := by kernel_rfl
  i173 := by kernel_rfl
  i212 := by kernel_rfl
  i232 := by kernel_rfl
  i233 := by kernel_rfl
  m17 := by kernel_rfl
  m18 := by kernel_rfl
  m19 := by kernel_rfl }
open Go.RowKit Go.Sort Go.Lib in
theorem strconv_AppendInt_10 (B n : Nat) (i : Int) (h0 : -9223372036854775808 ≤ i) (h1 : i ≤ 9223372036854775807) (sv : Value) (xs : List Value) (w : World) (hown : w.ownsRow B 5 1 sv n xs) (hBw : B ≤ w.heap.size) (hlim : n + 21 ≤ 140737488355328) (htab : Lib.TabBelow Tryz.prog B w "internal/strconv.uint64pow10" .u64 Lib.pow10Tab) :
    Calls Tryz.prog 125 #[sv, .int .i64 i, .int .i64 10] w fun e w' => ∃ v', e = .returned v' ∧ w'.ownsRow B 5 1 v' (n + (Lib.itoa i).length) (xs ++ Lib.byteCells (Lib.itoa i)) ∧ Below B w w' ∧ Lib.OthersKept 5 none w w' := Any.strconv_AppendInt_10 laysM176 B n i h0 h1 sv xs w hown hBw hlim htab
end Go.Proofs.YtlcibnmcannapaaGreatDoor

namespace Go.Proofs.YtlcibnmcannapaaGreatDoor
open Go

theorem textN_small {u : Nat} (h : u < 10) : textN u = [48 + u] := by
  unfold textN
  split
  · rename_i h0; subst h0; rfl
  · rename_i h0
    rw [digs_pos h0, show u / 10 = 0 by omega, digs_zero, Nat.mod_eq_of_lt h]
    rfl
theorem textN_big {u : Nat} (h : ¬ u < 10) : textN u = textN (u / 10) ++ [48 + u % 10] := by
  unfold textN
  rw [if_neg (by omega), if_neg (by omega), digs_pos (by omega)]
  simp
theorem decDigits_textN (u : Nat) : (Lib.decDigits u).map UInt8.toNat = textN u := by
  induction u using Nat.strongRecOn with
  | _ u ih =>
    by_cases h : u < 10
    · rw [Lib.decDigits, dif_pos h, textN_small h]
      simp
      omega
    · rw [Lib.decDigits, dif_neg h, textN_big h, List.map_append, ih (u / 10) (by omega)]
      simp
      omega
theorem bytes_back (l : List UInt8) : (l.map UInt8.toNat).map Nat.toUInt8 = l := by
  rw [List.map_map]
  have : (Nat.toUInt8 ∘ UInt8.toNat) = (id : UInt8 → UInt8) := by
    funext b
    simp
  rw [this, List.map_id]
theorem itoa_list (x : Int) : (Lib.itoa x).map UInt8.toNat = (if x < 0 then [45] else []) ++ textN x.natAbs := by
  unfold Lib.itoa
  split
  · rw [List.map_cons, decDigits_textN]; rfl
  · rw [decDigits_textN, show x.toNat = x.natAbs by omega]; rfl
theorem itoa_textI (x : Int) : (⟨(Lib.itoa x).toArray⟩ : ByteArray) = textI x := by
  unfold textI byteL
  rw [← itoa_list, bytes_back]
theorem itoa_nat (g : Nat) : (Lib.itoa ((g : Nat) : Int)).map UInt8.toNat = textN g := by
  rw [itoa_list, if_neg (by omega), Int.natAbs_natCast]; rfl

/-! ### Atoi -/
def decV : List UInt8 → Nat → Nat
  | [], acc => acc
  | c :: r, acc => decV r (acc * 10 + (c.toNat - 48))
theorem decV_nil (acc : Nat) : decV [] acc = acc := rfl
theorem decV_cons (c : UInt8) (r : List UInt8) (acc : Nat) : decV (c :: r) acc = decV r (acc * 10 + (c.toNat - 48)) := rfl
theorem decV_val : ∀ (l : List UInt8) (acc : Nat), decV l acc = acc * 10 ^ l.length + valD (digT (l.map UInt8.toNat)) := by
  intro l
  induction l with
  | nil => intro acc; rw [decV_nil]; simp [digT, valD]
  | cons c r ih =>
    intro acc
    have e : digT ((c :: r).map UInt8.toNat) = digT (r.map UInt8.toNat) ++ [c.toNat - 48] := by simp [digT]
    have hl : (digT (r.map UInt8.toNat)).length = r.length := by simp [digT]
    rw [decV_cons, ih, e, valD_snoc, List.length_cons, Nat.pow_succ, Nat.add_mul, hl]
    generalize c.toNat - 48 = d
    rw [Nat.mul_assoc, Nat.mul_comm 10, Nat.mul_comm d]
    omega
theorem decV_ge : ∀ (l : List UInt8) (acc : Nat), acc ≤ decV l acc := by
  intro l
  induction l with
  | nil => intro acc; rw [decV_nil]; exact Nat.le_refl _
  | cons c r ih =>
    intro acc
    rw [decV_cons]
    have := ih (acc * 10 + (c.toNat - 48))
    omega
theorem parse_nil (acc : Nat) : Lib.parseUint10 acc [] = .ok acc := rfl
theorem parse_cons (acc : Nat) (c : UInt8) (r : List UInt8) (h : 48 ≤ c.toNat ∧ c.toNat ≤ 57) : Lib.parseUint10 acc (c :: r) =
    if 1844674407370955162 ≤ acc then .range
    else if 18446744073709551616 ≤ acc * 10 + (c.toNat - 48) then .range
    else Lib.parseUint10 (acc * 10 + (c.toNat - 48)) r := by rw [Lib.parseUint10, if_pos h]
theorem parse_digits : ∀ (l : List UInt8) (acc : Nat), (∀ c ∈ l, 48 ≤ c.toNat ∧ c.toNat < 58) → acc < 18446744073709551616 → Lib.parseUint10 acc l = if decV l acc < 18446744073709551616 then .ok (decV l acc) else .range := by
  intro l
  induction l with
  | nil => intro acc _ ha; rw [parse_nil, decV_nil, if_pos ha]
  | cons c r ih =>
    intro acc hl ha
    have hc := hl c (by simp)
    have hge := decV_ge r (acc * 10 + (c.toNat - 48))
    rw [parse_cons _ _ _ (by omega), decV_cons]
    by_cases h1 : 1844674407370955162 ≤ acc
    · rw [if_pos h1, if_neg (by omega)]
    · rw [if_neg h1]
      by_cases h2 : 18446744073709551616 ≤ acc * 10 + (c.toNat - 48)
      · rw [if_pos h2, if_neg (by omega)]
      · rw [if_neg h2]
        exact ih _ (fun x hx => hl x (by simp [hx])) (by omega)
theorem parse_plain {l : List UInt8} (h : plainB (l.map UInt8.toNat) = true) : Lib.parseMag l = if valD (digT (l.map UInt8.toNat)) < 18446744073709551616 then .ok (valD (digT (l.map UInt8.toNat))) else .range := by
  obtain ⟨h1, h2, _, _⟩ := plainB_parts h
  unfold Lib.parseMag
  rw [if_neg (by intro e; subst e; simp at h2)]
  have e := decV_val l 0
  rw [Nat.zero_mul, Nat.zero_add] at e
  rw [parse_digits l 0 (fun c hc => h1 c.toNat (List.mem_map_of_mem hc)) (by decide), e]
theorem atoi_valid {s : ByteArray} (h : validB s = true) : Lib.atoiAll s.data.toList = if -9223372036854775808 ≤ numB s ∧ numB s ≤ 9223372036854775807 then .ok (numB s) else .range := by
  unfold validB at h
  unfold numB
  have e : bytesL s = s.data.toList.map UInt8.toNat := rfl
  rw [e] at h ⊢
  generalize s.data.toList = l at *
  cases l with
  | nil => simp [validL, plainB] at h
  | cons c r =>
    by_cases hc : c.toNat = 45
    · rw [List.map_cons, hc] at h ⊢
      have h' : (decide (r.map UInt8.toNat ≠ [48]) && plainB (r.map UInt8.toNat)) = true := h
      simp only [Bool.and_eq_true, decide_eq_true_eq] at h'
      have hp := parse_plain h'.2
      have hn : numL (45 :: r.map UInt8.toNat) = -(valD (digT (r.map UInt8.toNat)) : Int) := rfl
      rw [hn]
      unfold Lib.atoiAll
      simp only [hc, or_true, if_true]
      rw [hp]
      generalize valD (digT (r.map UInt8.toNat)) = v
      by_cases hv : v < 18446744073709551616
      · rw [if_pos hv]
        simp only
        by_cases h1 : 9223372036854775808 < v
        · simp [h1]
          omega
        · simp [h1]
          omega
      · rw [if_neg hv, if_neg (by omega)]
    · have hv : validL ((c :: r).map UInt8.toNat) = plainB ((c :: r).map UInt8.toNat) := by
        unfold validL; split
        · rename_i q he; rw [List.map_cons] at he; injection he with h1 _; exact absurd h1 hc
        · rfl
      have hn : numL ((c :: r).map UInt8.toNat) = (valD (digT ((c :: r).map UInt8.toNat)) : Int) := by
        unfold numL; split
        · rename_i q he; rw [List.map_cons] at he; injection he with h1 _; exact absurd h1 hc
        · rfl
      rw [hv] at h
      rw [hn]
      have hp := parse_plain h
      have h43 : c.toNat ≠ 43 := by
        have := (plainB_parts h).1 c.toNat (by simp)
        omega
      unfold Lib.atoiAll
      simp only [hc, h43, or_self, if_false]
      rw [hp]
      generalize valD (digT ((c :: r).map UInt8.toNat)) = v
      by_cases hv : v < 18446744073709551616
      · rw [if_pos hv]
        simp only
        by_cases h1 : 9223372036854775808 ≤ v
        · simp [h1]
          omega
        · simp [h1]
          omega
      · rw [if_neg hv, if_neg (by omega)]
end Go.Proofs.YtlcibnmcannapaaGreatDoor
