/-
  What the calls of layer 3 answer, as plain functions of their texts.
  The contracts of the reference's text, checked and Made.
-/
import Derived.Test.YtlcibnmcannapaaGreatDoorGplain
import Derived.Lib.ConvBytes
import Derived.Lib.SlBytesRow
namespace Go.Proofs.YtlcibnmcannapaaGreatDoor
open Go Go.Proofs Go.RowKit Go.Lib

/-- What a calculation returns: the integer, or nothing and an error number. -/
def resT (x : Int) : ByteArray := if x.natAbs < 10 ^ 200 then textI x else ByteArray.empty
def resZ (x : Int) : Int := if x.natAbs < 10 ^ 200 then 0 else 30
theorem fits_iff {n m : Nat} (hm : (digs n).length = m) : m ≤ 200 ↔ n < 10 ^ 200 := by rw [← hm]; exact digs_length_iff 200 n
theorem below_on {n : Nat} {w W W' W2 : World} (h : Below n w W) (b : Below W'.heap.size W' W2) (hn : n ≤ W.heap.size) (ho : W'.os = W.os) (ht : W'.tape = W.tape) (hp : W'.output = W.output) (hh : W'.heap = W.heap) : Below n w W2 :=
  (below_same h ho ht hp hh).trans (b.mono (by rw [hh]; exact hn))
theorem isDig_nil : IsDig [] := fun _ h => by cases h
theorem index_str (s : ByteArray) (k : Nat) (h : k < s.size) (w : World) : (Instr.index 9 (.string s) (.int .i64 (k : Nat))).run Tryz.prog w = .ok (.int .u8 ((s[k].toNat : Nat) : Int)) w := by
  have h0 : (0 : Int) ≤ (k : Int) := by omega
  simp [Instr.index, asIntOf, run_underlying Tryz.underlying9, h]
theorem slice_from (P : Program) (t : TypeId) (hu : P.underlying t = some .string) (s : ByteArray) (k : Nat) (hs : k ≤ s.size) (r : ByteArray) (hr : s.extract k s.size = r) (w : World) :
    (Instr.slice t (.string s) (some (.int .i64 (k : Nat))) none none).run P w = .ok (.string r) w := by
  subst hr
  have := run_slice_string_l (P := P) w t s hu .i64 (k : Int) (by omega) (by omega)
  simpa using this
theorem extract_one (l : List Nat) : (byteL (45 :: l)).extract 1 (byteL (45 :: l)).size = byteL l := by
  apply ByteArray.ext
  rw [ByteArray.data_extract, byteL_size]
  unfold byteL
  simp
  rw [List.take_of_length_le (by simp)]
theorem list48 : (⟨#[48]⟩ : ByteArray).toList = [48] := by rw [ByteArray.toList_eq]
theorem textN_len {n : Nat} (h : n ≠ 0) : (textN n).length = (digs n).length := by unfold textN; rw [if_neg h]; simp
theorem bytesL_get (s : ByteArray) (i : Nat) (h : i < s.size) : (bytesL s)[i]'(by rw [bytesL_length]; exact h) = (s[i]'h).toNat := by
  unfold bytesL
  simp
  rfl
theorem bytesL_cons (s : ByteArray) (h : 0 < s.size) : bytesL s = (s[0]'h).toNat :: bytesL (s.extract 1 s.size) := by
  apply List.ext_getElem
  · rw [List.length_cons, bytesL_length, bytesL_length, ByteArray.size_extract]; omega
  · intro i h1 h2
    rw [bytesL_length] at h1
    rw [bytesL_get s i h1]
    cases i with
    | zero => rfl
    | succ i =>
      rw [List.getElem_cons_succ, bytesL_get _ i (by rw [ByteArray.size_extract]; omega)]
      congr 1
      have := ByteArray.getElem_extract (b := s) (start := 1) (stop := s.size) (i := i) (by rw [ByteArray.size_extract]; omega)
      rw [this]
      congr 1
      omega
theorem plain_bad {s : ByteArray} (k : Nat) (h : k < s.size) (hx : (s[k]'h).toNat < 48 ∨ 57 < (s[k]'h).toNat) : plainB (bytesL s) = false := by
  rw [Bool.eq_false_iff]
  intro e
  have := (plainB_parts e).1 ((bytesL s)[k]'(by rw [bytesL_length]; exact h)) (List.getElem_mem _)
  rw [bytesL_get s k h] at this
  omega
theorem plain_good {s : ByteArray} (h : ∀ j (hj : j < s.size), 48 ≤ (s[j]'hj).toNat ∧ (s[j]'hj).toNat < 58) :
    plainB (bytesL s) = (decide (0 < s.size ∧ s.size ≤ 200) && (decide (bytesL s = [48]) || decide ((bytesL s).head? ≠ some 48))) := by
  unfold plainB
  have : (bytesL s).all (fun x => decide (48 ≤ x ∧ x < 58)) = true := by
    rw [List.all_eq_true]
    intro x hx
    obtain ⟨j, hj, rfl⟩ := List.getElem_of_mem hx
    rw [bytesL_length] at hj
    rw [bytesL_get s j hj]
    exact decide_eq_true (h j hj)
  rw [this, bytesL_length, Bool.true_and]
theorem bytesL_48 (s : ByteArray) : bytesL s = [48] ↔ s = ⟨#[48]⟩ := by
  constructor
  · intro h; rw [← byteL_bytesL s, h]; rfl
  · rintro rfl; rfl
theorem head48 (s : ByteArray) (h : 0 < s.size) : (bytesL s).head? ≠ some 48 ↔ (s[0]'h).toNat ≠ 48 := by
  rw [bytesL_cons s h]; simp
/-- A text and an error number are returned. -/
def ResPost (w : World) (x : Int) (e : Ending) (w' : World) : Prop := e = .returned (.tuple #[.string (resT x), .int .i64 (resZ x)]) ∧ Below w.heap.size w w'
theorem res_on {w w1 w' : World} {x : Int} {e : Ending} (h : ResPost w1 x e w') (hb : Below w.heap.size w w1) : ResPost w x e w' := ⟨h.1, hb.trans (h.2.mono hb.size)⟩
theorem cmp_ge {m n : Nat} (h : n ≤ m) : ¬ cmpI m n < 0 ∧ 0 ≤ cmpI m n := by
  unfold cmpI; rw [if_neg (by omega)]; split <;> omega
theorem cmp_lt {m n : Nat} (h : ¬ n ≤ m) : cmpI m n = -1 := by unfold cmpI; rw [if_pos (by omega)]
theorem intD_add (b : Bool) (m n : Nat) : intD b m + intD b n = intD b (m + n) := by cases b <;> simp [intD] <;> omega
theorem intD_sub {b c : Bool} (h : b ≠ c) {m n : Nat} (hmn : n ≤ m) : intD b m + intD c n = intD b (m - n) := by cases b <;> cases c <;> simp [intD] at * <;> omega
theorem intD_sub' {b c : Bool} (h : b ≠ c) {m n : Nat} (hmn : ¬ n ≤ m) : intD b m + intD c n = intD c (n - m) := by cases b <;> cases c <;> simp [intD] at * <;> omega
/-- What a calculation of two texts returns. -/
def opT (f : Int → Int → Int) (s t : ByteArray) : ByteArray := if validB s && validB t then resT (f (numB s) (numB t)) else ByteArray.empty
def opZ (f : Int → Int → Int) (s t : ByteArray) : Int := if validB s && validB t then resZ (f (numB s) (numB t)) else 30
/-- What Compare returns. -/
def cmpB (s t : ByteArray) : Int := if validB s && validB t then (if numB s < numB t then -1 else if numB t < numB s then 1 else 0) else 0
theorem fits_length {x : Int} (h : Fits x) : (digs x.natAbs).length ≤ 200 := digs_length_le 200 _ h
theorem fits_size {x : Int} (h : Fits x) : (textI x).size ≤ 1000 := by
  have h1 := fits_length h
  unfold textI
  rw [byteL_size, List.length_append]
  have h2 : (textN x.natAbs).length ≤ 201 := by
    by_cases h0 : x.natAbs = 0
    · rw [h0]; show ([48] : List Nat).length ≤ 201; simp
    · rw [textN_len h0]; omega
  split <;> simp <;> omega
theorem intD_self (x : Int) : intD (decide (x < 0)) x.natAbs = x := by
  unfold intD
  by_cases h : x < 0
  · rw [decide_eq_true h]; simp; omega
  · rw [decide_eq_false h]; simp; omega
theorem intD_neg (x : Int) : intD (!decide (x < 0)) x.natAbs = -x := by
  unfold intD
  by_cases h : x < 0
  · rw [decide_eq_true h]; simp; omega
  · rw [decide_eq_false h]; simp; omega
theorem intD_mul (b c : Bool) (m n : Nat) : intD (b != c) (m * n) = intD b m * intD c n := by
  cases b <;> cases c <;> simp [intD, Int.neg_mul, Int.mul_neg]
def gcdI (x y : Int) : Int := ((Nat.gcd x.natAbs y.natAbs : Nat) : Int)
theorem ediv_of {x y q r : Int} (hy : y ≠ 0) (h : x = q * y + r) (h0 : 0 ≤ r) (h1 : r < (y.natAbs : Int)) : x / y = q ∧ x % y = r := by
  rcases Int.lt_or_gt_of_ne hy with hn | hp
  · have hp : 0 < -y := by omega
    have hx : r + -y * -q = x := by rw [Int.neg_mul_neg, h, Int.mul_comm q y, Int.add_comm]
    have hu := (Int.ediv_emod_unique hp).2 ⟨hx, h0, by omega⟩
    have e : y = -(-y) := by omega
    rw [e, Int.ediv_neg, Int.emod_neg, hu.1, hu.2]
    exact ⟨by omega, rfl⟩
  · exact (Int.ediv_emod_unique hp).2 ⟨by rw [h, Int.mul_comm q y, Int.add_comm], h0, by omega⟩
theorem intD_back (b c : Bool) (d n : Nat) : intD (b != c) d * intD c n = intD b (d * n) := by
  cases b <;> cases c <;> simp [intD, Int.neg_mul, Int.mul_neg]
/-- The quotient and the remainder, when nothing is left or a is not negative. -/
theorem div_plain {x y : Int} {b c : Bool} (hx : intD b x.natAbs = x) (hy : intD c y.natAbs = y) (hy0 : y ≠ 0) (h : b = false ∨ x.natAbs % y.natAbs = 0) :
    intD (b != c) (x.natAbs / y.natAbs) = x / y ∧ ((x.natAbs % y.natAbs : Nat) : Int) = x % y := by
  have hn : 0 < y.natAbs := by omega
  have hlt := Nat.mod_lt x.natAbs hn
  have hdm := Nat.div_add_mod x.natAbs y.natAbs
  have hb := intD_back b c (x.natAbs / y.natAbs) y.natAbs
  rw [hy, Nat.mul_comm] at hb
  have := ediv_of (x := x) (y := y) (q := intD (b != c) (x.natAbs / y.natAbs)) (r := ((x.natAbs % y.natAbs : Nat) : Int)) hy0 (by
    rw [hb]
    generalize y.natAbs * (x.natAbs / y.natAbs) = P at *
    generalize x.natAbs % y.natAbs = e at *
    generalize x.natAbs = m at *
    rcases h with h | h
    · subst h; simp [intD] at *; omega
    · subst h; cases b <;> simp [intD] at * <;> omega) (by omega) (by omega)
  exact ⟨this.1.symm, this.2.symm⟩
/-- And when a is negative and something is left. -/
theorem div_more {x y : Int} {c : Bool} (hx : intD true x.natAbs = x) (hy : intD c y.natAbs = y) (hy0 : y ≠ 0) (h : 0 < x.natAbs % y.natAbs) :
    intD (true != c) (x.natAbs / y.natAbs + 1) = x / y ∧ ((y.natAbs - x.natAbs % y.natAbs : Nat) : Int) = x % y := by
  have hn : 0 < y.natAbs := by omega
  have hlt := Nat.mod_lt x.natAbs hn
  have hdm := Nat.div_add_mod x.natAbs y.natAbs
  have hb := intD_back true c (x.natAbs / y.natAbs + 1) y.natAbs
  rw [hy, Nat.add_mul, Nat.one_mul, Nat.mul_comm] at hb
  have := ediv_of (x := x) (y := y) (q := intD (true != c) (x.natAbs / y.natAbs + 1)) (r := ((y.natAbs - x.natAbs % y.natAbs : Nat) : Int)) hy0 (by
    rw [hb]
    generalize y.natAbs * (x.natAbs / y.natAbs) = P at *
    generalize x.natAbs % y.natAbs = e at *
    generalize x.natAbs = m at *
    simp [intD] at *
    omega) (by omega) (by omega)
  exact ⟨this.1.symm, this.2.symm⟩
/-- The remainder's text, where the quotient fits. -/
def resR (x y : Int) : ByteArray := if (x / y).natAbs < 10 ^ 200 then textI (x % y) else ByteArray.empty
def divQ (s t : ByteArray) : ByteArray := if validB s && validB t && decide (numB t ≠ 0) then resT (numB s / numB t) else ByteArray.empty
def divR (s t : ByteArray) : ByteArray := if validB s && validB t && decide (numB t ≠ 0) then resR (numB s) (numB t) else ByteArray.empty
def divZ (s t : ByteArray) : Int := if validB s && validB t && decide (numB t ≠ 0) then resZ (numB s / numB t) else 30
theorem text_nat (n : Nat) : textI (intD false n) = textI (n : Int) := rfl
def minT : ByteArray := ⟨#[45, 57, 50, 50, 51, 51, 55, 50, 48, 51, 54, 56, 53, 52, 55, 55, 53, 56, 48, 56]⟩
def maxT : ByteArray := ⟨#[57, 50, 50, 51, 51, 55, 50, 48, 51, 54, 56, 53, 52, 55, 55, 53, 56, 48, 55]⟩
theorem minT_valid : validB minT = true ∧ numB minT = -9223372036854775808 := by decide +kernel
theorem maxT_valid : validB maxT = true ∧ numB maxT = 9223372036854775807 := by decide +kernel
/-- Whether a text is that of a number of the machine; what ToInt returns. -/
def fitM (s : ByteArray) : Bool := validB s && decide (-9223372036854775808 ≤ numB s ∧ numB s ≤ 9223372036854775807)
def toT (s : ByteArray) : Int := if fitM s then numB s else 0
def toZ (s : ByteArray) : Int := if fitM s then 0 else 30
theorem textN_digT (n j q : Nat) (hq : (digT (textN n)).length = q) (hj : j < q) : (textN n).getD j 0 = 48 + (digT (textN n)).getD (q - 1 - j) 0 := by
  subst hq
  have hlen : (digT (textN n)).length = (textN n).length := by simp [digT]
  rw [hlen] at hj ⊢
  have hd := textN_dig n (textN n)[j] (List.getElem_mem hj)
  unfold digT
  rw [List.getD_eq_getElem?_getD, List.getElem?_eq_getElem hj, List.getD_eq_getElem?_getD, List.getElem?_eq_getElem (by simp; omega)]
  simp [show (textN n).length - 1 - ((textN n).length - 1 - j) = j by omega]
  omega
theorem cmp_gt {m n : Nat} (h : n < m) : cmpI m n = 1 := by unfold cmpI; rw [if_neg (by omega), if_pos h]
theorem cmp_le {m n : Nat} (h : ¬ n < m) : ¬ 0 < cmpI m n := by unfold cmpI; split <;> (try split) <;> omega
/-- The greatest number whose square is at most N; or nothing and an error number. -/
def RootPost (b : Bool) (N : Nat) (e : Ending) : Prop := match b with
  | true => ∃ r : Nat, r * r ≤ N ∧ N < (r + 1) * (r + 1) ∧ e = .returned (.tuple #[.string (textI (r : Int)), .int .i64 0])
  | false => e = .returned (.tuple #[.string ByteArray.empty, .int .i64 30])
theorem digs_length_mono {m n : Nat} (h : n ≤ m) : (digs n).length ≤ (digs m).length :=
  digs_length_le _ _ (Nat.lt_of_le_of_lt h (lt_of_digs_length (Nat.le_refl _)))
end Go.Proofs.YtlcibnmcannapaaGreatDoor

namespace Go.Proofs.YtlcibnmcannapaaGreatDoor
open Go Go.Proofs Go.RowKit Go.Lib

theorem nums_bytes {W : World} {g : Nat} {L : List Nat} (h : NumsAt .u8 W g 0 L) (hL : ∀ x ∈ L, x < 256) : Bytes W g 0 (byteL L) := by
  intro i hi
  have hi2 : i < L.length := by rwa [byteL_size] at hi
  rw [h i hi2, byteL_get L hL i hi]
/-- The text's bytes after the digits from k on. -/
def digPart (l : List Nat) (k : Nat) : List Nat := (l.drop k).reverse.map (48 + ·)
theorem digPart_end (l : List Nat) : digPart l l.length = [] := by unfold digPart; simp
theorem digPart_step (l : List Nat) (j : Nat) (h : j < l.length) : digPart l j = digPart l (j + 1) ++ [48 + l.getD j 0] := by
  unfold digPart
  rw [List.drop_eq_getElem_cons h, List.reverse_cons, List.map_append]
  simp only [List.map_cons, List.map_nil, List.getD_eq_getElem?_getD, List.getElem?_eq_getElem h, Option.getD_some]
theorem digPart_length (l : List Nat) (k : Nat) : (digPart l k).length ≤ l.length := by unfold digPart; simp
theorem text_zero (neg : Bool) : textI (intD neg 0) = ⟨#[48]⟩ := by cases neg <;> rfl
theorem text_pos (neg : Bool) {n : Nat} (h : n ≠ 0) : textI (intD neg n) = byteL ((if neg then [45] else []) ++ digPart (digs n) 0) := by
  unfold textI
  rw [intD_abs]
  have h1 : textN n = digPart (digs n) 0 := by unfold textN digPart; rw [if_neg h]; rfl
  rw [h1]
  cases neg with
  | false =>
    rw [if_neg (by unfold intD; simp), if_neg (by simp)]
  | true =>
    rw [if_pos (by unfold intD; simp; omega), if_pos rfl]

set_option maxRecDepth 100000 in
set_option maxHeartbeats 8000000 in
theorem text_any (neg : Bool) (n : Nat) (ad : Option Addr) (cap m : Nat) (w : World) (h : HoldI w ad cap (digs n)) (hm : (digs n).length = m) :
    Calls Tryz.prog 71 #[.bool neg, .slice ad m cap] w fun e w' => e = .returned (.tuple #[.string (textI (intD neg n)), .bool (decide (m ≤ 200))]) ∧ Below w.heap.size w w' := by
  by_cases hn : n = 0
  · subst hn
    obtain rfl : m = 0 := hm.symm
    have ht := text_zero neg
    have HT := Lib.hid ht
    have hdt : decide (0 ≤ 200) = true := by decide
    rw [ht]
    clear h ht
    go_enter Tryz.func71, Tryz.ntmps71
    go_wp2_with fail
    go_ret2
    exact ⟨rfl, Below.refl _ _⟩
  · have ht := text_pos neg hn
    have hm0 : 0 < m := by rw [← hm, digs_pos hn]; simp
    have hd := digs_lt n
    obtain ⟨R, hR⟩ : ∃ R, textI (intD neg n) = R := ⟨_, rfl⟩
    rw [hR] at ht ⊢
    obtain ⟨l, hl⟩ : ∃ l, digs n = l := ⟨_, rfl⟩
    rw [hl] at ht h hm hd
    have hm40 : m ≤ 1099511627776 := by have := h.2.1; omega
    obtain ⟨g, o, rfl, hg, hs⟩ := h.at (by omega)
    have hz : ((m : Int) == 0) = false := by rw [beq_eq_false_iff_ne]; omega
    obtain ⟨pre, hpre⟩ : ∃ pre, (if neg then [45] else []) = pre := ⟨_, rfl⟩
    have hprel : pre.length ≤ 1 := by rw [← hpre]; cases neg <;> simp
    have hpreb : ∀ x ∈ pre, x < 256 := by rw [← hpre]; cases neg <;> simp
    rw [hpre] at ht
    have HT := Lib.hid ht; have HS := Lib.hid hs; have HM := Lib.hid hm; have HPB := Lib.hid hpreb; have HD := Lib.hid hd
    clear ht hs hm h hl hR hpreb hd hn
    cases neg with
    | false =>
      have hp0 : pre = [] := by rw [← hpre]; rfl
      subst hp0
      clear hpre
      go_enter Tryz.func71, Tryz.ntmps71
      go_wp2_with fail
      go_loopw [6, 7] (fun v i wr => ∃ k : Nat, k ≤ m ∧ i = .int .i64 ((k : Int) - 1) ∧ Hid (Own8 wr w.heap.size v ([] ++ digPart l k)) ∧ Hid (Below w.heap.size w wr)) (fun _ i _ => (RowKit.intOf i + 1).toNat)
      case atStart => exact ⟨m, Nat.le_refl _, rfl, (by rw [← HM.out, digPart_end]; exact Own8.nil _ _ : Own8 w w.heap.size _ ([] ++ digPart l m)), Below.refl _ _⟩
      case round =>
        obtain ⟨k, hk, rfl, hown, hbr⟩ := hrel
        by_cases hk0 : k = 0
        · subst hk0
          have hneg : ¬ (0 : Int) ≤ ((0 : Nat) : Int) - 1 := by omega
          have hll := digPart_length l 0
          rw [HM.out] at hll
          have hb256 : ∀ x ∈ ([] : List Nat) ++ digPart l 0, x < 256 := by
            intro x hx
            rcases List.mem_append.1 hx with h | h
            · exact HPB.out x h
            · unfold digPart at h
              rw [List.mem_map] at h
              obtain ⟨d, hd, rfl⟩ := h
              have := HD.out d (List.mem_of_mem_drop (List.mem_reverse.1 hd))
              omega
          have hne : 0 < (([] : List Nat) ++ digPart l 0).length := by rw [List.length_append]; unfold digPart; simp; rw [HM.out]; omega
          obtain ⟨L, hL⟩ : ∃ L, ([] : List Nat) ++ digPart l 0 = L := ⟨_, rfl⟩
          rw [hL] at hown hb256 hne
          have hLl : L.length ≤ 1099511627777 := by rw [← hL, List.length_append]; simp; omega
          obtain ⟨q, hq⟩ : ∃ q, L.length = q := ⟨_, rfl⟩
          obtain ⟨g2, cap2, rfl, _, _, _, hn2, _⟩ := hown.out.form q hq (by omega)
          have hconv := run_convert_whole (P := Tryz.prog) wr 48 5 9 Tryz.underlying48 Tryz.underlying5 Tryz.underlying9 g2 0 (byteL L) (nums_bytes hn2 hb256) cap2
          rw [byteL_size, hq] at hconv
          have hRL : R = byteL L := by rw [HT.out, hL]
          rw [← hRL] at hconv
          have hle : decide ((m : Int) ≤ 200) = decide (m ≤ 200) := by rw [decide_eq_decide]; omega
          have HLE := Lib.hid hle
          clear hll hb256 hne hL hown hn2 hRL hq hLl hle
          go_wp2_with fail
          go_ret2
          exact ⟨by simp; omega, hbr.out⟩
        · obtain ⟨j, rfl⟩ : ∃ j, k = j + 1 := ⟨k - 1, by omega⟩
          have hj : (((j + 1 : Nat) : Int) - 1) = (j : Int) := by omega
          rw [hj]
          have hj0 : (0 : Int) ≤ (j : Int) := by omega
          have hj1 : (j : Int) < (m : Int) := by omega
          have jl : j < l.length := by rw [HM.out]; omega
          have cc := (HS.out.below hbr.out hg) j jl
          have hstep := digPart_step l j jl
          have hx10 := getD_dig HD.out j
          have j1 := fun w => atI g o m cap j (j : Int) rfl (by omega) w
          have hsize := hbr.out.size
          have hll := digPart_length l (j + 1)
          rw [HM.out] at hll
          obtain ⟨x, hx⟩ : ∃ x, l.getD j 0 = x := ⟨_, rfl⟩
          rw [hx] at cc hstep hx10
          obtain ⟨D, hD⟩ : ∃ D, digPart l (j + 1) = D := ⟨_, rfl⟩
          rw [hD] at hown hstep hll
          have hql : (([] : List Nat) ++ D).length + 1 ≤ 17592186044416 := by rw [List.length_append]; simp; omega
          have hx10' : (x : Int) < 10 := by omega
          have HSTEP := Lib.hid hstep
          clear hstep hx hD jl hk0
          go_wp2_with (first | (at_builtin; refine walk_push8 (w0 := w) rfl _ _ rfl w.heap.size _ (([] : List Nat) ++ D) [48 + x] rfl (hown.out.alloc _) (hbr.out.alloc hsize _) (Nat.le_trans hsize (by simp)) wr.heap.size 0 1 1 rfl rfl (new_num1 .u8 wr _ (48 + x) (by go_num) _) hql ?_; intro v3 W3 ho3 hb3))
          go_roundw
          case rel => exact ⟨j, by omega, by go_num, by rw [HSTEP.out, ← List.append_assoc]; exact ho3, hb3⟩
          case measure => simp [RowKit.intOf]
    | true =>
      have hp0 : pre = [45] := by rw [← hpre]; rfl
      subst hp0
      clear hpre
      go_enter Tryz.func71, Tryz.ntmps71
      go_wp2_with (first | (at_builtin; refine walk_push8 (w0 := w) rfl _ _ rfl w.heap.size _ [] [45] rfl (Own8.nil _ _) ((Below.refl w.heap.size w).alloc (Nat.le_refl _) _) (by simp) w.heap.size 0 1 1 rfl rfl (new_num1 .u8 w _ 45 rfl _) (by simp) ?_; intro v0 W0 ho0 hb0))
      go_loopw [6, 7] (fun v i wr => ∃ k : Nat, k ≤ m ∧ i = .int .i64 ((k : Int) - 1) ∧ Hid (Own8 wr w.heap.size v ([45] ++ digPart l k)) ∧ Hid (Below w.heap.size w wr)) (fun _ i _ => (RowKit.intOf i + 1).toNat)
      case atStart => exact ⟨m, Nat.le_refl _, rfl, (by rw [← HM.out, digPart_end]; exact ho0 : Own8 W0 w.heap.size _ ([45] ++ digPart l m)), hb0⟩
      case round =>
        obtain ⟨k, hk, rfl, hown, hbr⟩ := hrel
        by_cases hk0 : k = 0
        · subst hk0
          have hneg : ¬ (0 : Int) ≤ ((0 : Nat) : Int) - 1 := by omega
          have hll := digPart_length l 0
          rw [HM.out] at hll
          have hb256 : ∀ x ∈ [45] ++ digPart l 0, x < 256 := by
            intro x hx
            rcases List.mem_append.1 hx with h | h
            · exact HPB.out x h
            · unfold digPart at h
              rw [List.mem_map] at h
              obtain ⟨d, hd, rfl⟩ := h
              have := HD.out d (List.mem_of_mem_drop (List.mem_reverse.1 hd))
              omega
          have hne : 0 < ([45] ++ digPart l 0).length := by rw [List.length_append]; unfold digPart; simp; rw [HM.out]; omega
          obtain ⟨L, hL⟩ : ∃ L, [45] ++ digPart l 0 = L := ⟨_, rfl⟩
          rw [hL] at hown hb256 hne
          have hLl : L.length ≤ 1099511627777 := by rw [← hL, List.length_append]; simp; omega
          obtain ⟨q, hq⟩ : ∃ q, L.length = q := ⟨_, rfl⟩
          obtain ⟨g2, cap2, rfl, _, _, _, hn2, _⟩ := hown.out.form q hq (by omega)
          have hconv := run_convert_whole (P := Tryz.prog) wr 48 5 9 Tryz.underlying48 Tryz.underlying5 Tryz.underlying9 g2 0 (byteL L) (nums_bytes hn2 hb256) cap2
          rw [byteL_size, hq] at hconv
          have hRL : R = byteL L := by rw [HT.out, hL]
          rw [← hRL] at hconv
          have hle : decide ((m : Int) ≤ 200) = decide (m ≤ 200) := by rw [decide_eq_decide]; omega
          have HLE := Lib.hid hle
          clear hll hb256 hne hL hown hn2 hRL hq hLl hle
          go_wp2_with fail
          go_ret2
          exact ⟨by simp; omega, hbr.out⟩
        · obtain ⟨j, rfl⟩ : ∃ j, k = j + 1 := ⟨k - 1, by omega⟩
          have hj : (((j + 1 : Nat) : Int) - 1) = (j : Int) := by omega
          rw [hj]
          have hj0 : (0 : Int) ≤ (j : Int) := by omega
          have hj1 : (j : Int) < (m : Int) := by omega
          have jl : j < l.length := by rw [HM.out]; omega
          have cc := (HS.out.below hbr.out hg) j jl
          have hstep := digPart_step l j jl
          have hx10 := getD_dig HD.out j
          have j1 := fun w => atI g o m cap j (j : Int) rfl (by omega) w
          have hsize := hbr.out.size
          have hll := digPart_length l (j + 1)
          rw [HM.out] at hll
          obtain ⟨x, hx⟩ : ∃ x, l.getD j 0 = x := ⟨_, rfl⟩
          rw [hx] at cc hstep hx10
          obtain ⟨D, hD⟩ : ∃ D, digPart l (j + 1) = D := ⟨_, rfl⟩
          rw [hD] at hown hstep hll
          have hql : ([45] ++ D).length + 1 ≤ 17592186044416 := by rw [List.length_append]; simp; omega
          have hx10' : (x : Int) < 10 := by omega
          have HSTEP := Lib.hid hstep
          clear hstep hx hD jl hk0
          go_wp2_with (first | (at_builtin; refine walk_push8 (w0 := w) rfl _ _ rfl w.heap.size _ ([45] ++ D) [48 + x] rfl (hown.out.alloc _) (hbr.out.alloc hsize _) (Nat.le_trans hsize (by simp)) wr.heap.size 0 1 1 rfl rfl (new_num1 .u8 wr _ (48 + x) (by go_num) _) hql ?_; intro v3 W3 ho3 hb3))
          go_roundw
          case rel => exact ⟨j, by omega, by go_num, by rw [HSTEP.out, ← List.append_assoc]; exact ho3, hb3⟩
          case measure => simp [RowKit.intOf]
end Go.Proofs.YtlcibnmcannapaaGreatDoor
