/-
  What the calls of layer 3 answer, as plain functions of their texts.   The contracts of the reference's text, checked and Made. Plain mathematics of layer 4: which pairs of strings are fractions, and what the calls of rational answer. Plain mathematics of layer 4: comparing fractions by whole parts and remainders; what Print and Parse answer. Plain mathematics of layer 5: the text of a quantity, and how it is read. Plain mathematics of layer 5: which texts are quantities, the text of a quantity, and the quantity of a text. The contracts of the reference's trim and order.   The contract of the reference's plus.   The contract of the reference's minus.   The contract of the reference's checked.   The contract of the reference's digits.   The contract of the reference's Valid.   The contract of the reference's sum.   The contracts of the reference's Add, Sub and Compare. Plain mathematics of layer 3: multiplying digit by digit.   The contract of the reference's times.   Plain mathematics of layer 3: dividing digit by digit.   The contract of the reference's divided.   The contracts of the reference's Mul and Gcd. A fraction in a block of its own: what its cells hold, as long as nobody writes below. The contract of the reference's Valid of fractions. The contract of the reference's Div.   The contract of the reference's FromInt. The contracts of the reference's Make and Of. The contracts of the reference's sums, differences, products and quotients of fractions. The contracts of the reference's products and quotients of fractions, and of Of. Plain mathematics: the steps by which the program builds a fraction, and what they make of two texts. The contract of the reference's Compare of fractions; what one round of comparing does, in plain mathematics. The contracts of pick, of the reference and of the laws. The contracts of the reference's power, grid, Down, Up and Print; powers of ten as texts. Plain mathematics of layer 5: reading the words of a text by the prefixes that it has, as package unit does it.
-/
import Derived.Test.YtcglcgphgahnpaaGreatDoorJ07
import Derived.Lib.ConvBytes
import Derived.Lib.SlBytesRow
set_option maxRecDepth 100000
set_option maxHeartbeats 16000000
namespace Go.Proofs.YtcglcgphgahnpaaGreatDoor
open Go Go.Proofs Go.RowKit Go.Lib
def resT (x : Int) : ByteArray := if x.natAbs < 10 ^ 200 then textI x else ByteArray.empty
def resZ (x : Int) : Int := if x.natAbs < 10 ^ 200 then 0 else 30
theorem fits_iff {n m : Nat} (hm : (digs n).length = m) : m ≤ 200 ↔ n < 10 ^ 200 := by rw [← hm]; exact digs_length_iff 200 n
theorem index_str (s : ByteArray) (k : Nat) (h : k < s.size) (w : World) : (Instr.index 9 (.string s) (.int .i64 (k : Nat))).run Tryz.prog w = .ok (.int .u8 ((s[k].toNat : Nat) : Int)) w := by
 have h0 : (0 : Int) ≤ (k : Int) := by omega
 simp [Instr.index, asIntOf, run_underlying Tryz.underlying9, h]
theorem slice_from (P : Program) (t : TypeId) (hu : P.underlying t = some .string) (s : ByteArray) (k : Nat) (hs : k ≤ s.size) (r : ByteArray) (hr : s.extract k s.size = r) (w : World) :
 (Instr.slice t (.string s) (some (.int .i64 (k : Nat))) none none).run P w = .ok (.string r) w := by
 subst hr
 have := run_slice_string_l (P := P) w t s hu .i64 (k : Int) (by omega) (by omega)
 simpa using this
theorem extract_one (l : List Nat) : (byteL (45 :: l)).extract 1 (byteL (45 :: l)).size = byteL l := by
 apply ByteArray.ext
 rw [ByteArray.data_extract, byteL_size]
 unfold byteL
 simp
 rw [List.take_of_length_le (by simp)]
theorem list48 : (⟨#[48]⟩ : ByteArray).toList = [48] := by rw [ByteArray.toList_eq]
theorem textN_len {n : Nat} (h : n ≠ 0) : (textN n).length = (digs n).length := by unfold textN; rw [if_neg h]; simp
theorem bytesL_get (s : ByteArray) (i : Nat) (h : i < s.size) : (bytesL s)[i]'(by rw [bytesL_length]; exact h) = (s[i]'h).toNat := by
 unfold bytesL
 simp
 rfl
theorem bytesL_cons (s : ByteArray) (h : 0 < s.size) : bytesL s = (s[0]'h).toNat :: bytesL (s.extract 1 s.size) := by
 apply List.ext_getElem
 · rw [List.length_cons, bytesL_length, bytesL_length, ByteArray.size_extract]; omega
 intro i h1 h2
 rw [bytesL_length] at h1
 rw [bytesL_get s i h1]
 cases i with
 | zero => rfl
 | succ i =>
  rw [List.getElem_cons_succ, bytesL_get _ i (by rw [ByteArray.size_extract]; omega)]
  congr 1
  have := ByteArray.getElem_extract (b := s) (start := 1) (stop := s.size) (i := i) (by rw [ByteArray.size_extract]; omega)
  rw [this]
  congr 1
  omega
theorem plain_bad {s : ByteArray} (k : Nat) (h : k < s.size) (hx : (s[k]'h).toNat < 48 ∨ 57 < (s[k]'h).toNat) : plainB (bytesL s) = false := by
 rw [Bool.eq_false_iff]
 intro e
 have := (plainB_parts e).1 ((bytesL s)[k]'(by rw [bytesL_length]; exact h)) (List.getElem_mem _)
 rw [bytesL_get s k h] at this
 omega
theorem plain_good {s : ByteArray} (h : ∀ j (hj : j < s.size), 48 ≤ (s[j]'hj).toNat ∧ (s[j]'hj).toNat < 58) :
 plainB (bytesL s) = (decide (0 < s.size ∧ s.size ≤ 200) && (decide (bytesL s = [48]) || decide ((bytesL s).head? ≠ some 48))) := by
 unfold plainB
 have : (bytesL s).all (fun x => decide (48 ≤ x ∧ x < 58)) = true := by
  rw [List.all_eq_true]
  intro x hx
  obtain ⟨j, hj, rfl⟩ := List.getElem_of_mem hx
  rw [bytesL_length] at hj
  rw [bytesL_get s j hj]
  exact decide_eq_true (h j hj)
 rw [this, bytesL_length, Bool.true_and]
theorem bytesL_48 (s : ByteArray) : bytesL s = [48] ↔ s = ⟨#[48]⟩ := by
 constructor
 · intro h; rw [← byteL_bytesL s, h]; rfl
 rintro rfl; rfl
theorem head48 (s : ByteArray) (h : 0 < s.size) : (bytesL s).head? ≠ some 48 ↔ (s[0]'h).toNat ≠ 48 := by
 rw [bytesL_cons s h]; simp
def ResPost (w : World) (x : Int) (e : Ending) (w' : World) : Prop := e = .returned (.tuple #[.string (resT x), .int .i64 (resZ x)]) ∧ Below w.heap.size w w'
theorem res_on {w w1 w' : World} {x : Int} {e : Ending} (h : ResPost w1 x e w') (hb : Below w.heap.size w w1) : ResPost w x e w' := ⟨h.1, hb.trans (h.2.mono hb.size)⟩
theorem cmp_ge {m n : Nat} (h : n ≤ m) : ¬ cmpI m n < 0 ∧ 0 ≤ cmpI m n := by
 unfold cmpI; rw [if_neg (by omega)]; split <;> omega
theorem cmp_lt {m n : Nat} (h : ¬ n ≤ m) : cmpI m n = -1 := by unfold cmpI; rw [if_pos (by omega)]
theorem intD_add (b : Bool) (m n : Nat) : intD b m + intD b n = intD b (m + n) := by cases b <;> simp [intD] <;> omega
theorem intD_sub {b c : Bool} (h : b ≠ c) {m n : Nat} (hmn : n ≤ m) : intD b m + intD c n = intD b (m - n) := by cases b <;> cases c <;> simp [intD] at * <;> omega
theorem intD_sub' {b c : Bool} (h : b ≠ c) {m n : Nat} (hmn : ¬ n ≤ m) : intD b m + intD c n = intD c (n - m) := by cases b <;> cases c <;> simp [intD] at * <;> omega
def opT (f : Int → Int → Int) (s t : ByteArray) : ByteArray := if validB s && validB t then resT (f (numB s) (numB t)) else ByteArray.empty
def opZ (f : Int → Int → Int) (s t : ByteArray) : Int := if validB s && validB t then resZ (f (numB s) (numB t)) else 30
def cmpB (s t : ByteArray) : Int := if validB s && validB t then (if numB s < numB t then -1 else if numB t < numB s then 1 else 0) else 0
theorem fits_length {x : Int} (h : Fits x) : (digs x.natAbs).length ≤ 200 := digs_length_le 200 _ h
theorem fits_size {x : Int} (h : Fits x) : (textI x).size ≤ 1000 := by
 have h1 := fits_length h
 unfold textI
 rw [byteL_size, List.length_append]
 have h2 : (textN x.natAbs).length ≤ 201 := by
  by_cases h0 : x.natAbs = 0
  · rw [h0]; show ([48] : List Nat).length ≤ 201; simp
  rw [textN_len h0]; omega
 split <;> simp <;> omega
theorem intD_self (x : Int) : intD (decide (x < 0)) x.natAbs = x := by
 unfold intD
 by_cases h : x < 0
 · rw [decide_eq_true h]; simp; omega
 rw [decide_eq_false h]; simp; omega
theorem intD_neg (x : Int) : intD (!decide (x < 0)) x.natAbs = -x := by
 unfold intD
 by_cases h : x < 0
 · rw [decide_eq_true h]; simp; omega
 rw [decide_eq_false h]; simp; omega
theorem intD_mul (b c : Bool) (m n : Nat) : intD (b != c) (m * n) = intD b m * intD c n := by
 cases b <;> cases c <;> simp [intD, Int.neg_mul, Int.mul_neg]
def gcdI (x y : Int) : Int := ((Nat.gcd x.natAbs y.natAbs : Nat) : Int)
theorem ediv_of {x y q r : Int} (hy : y ≠ 0) (h : x = q * y + r) (h0 : 0 ≤ r) (h1 : r < (y.natAbs : Int)) : x / y = q ∧ x % y = r := by
 rcases Int.lt_or_gt_of_ne hy with hn | hp
 · have hp : 0 < -y := by omega
   have hx : r + -y * -q = x := by rw [Int.neg_mul_neg, h, Int.mul_comm q y, Int.add_comm]
   have hu := (Int.ediv_emod_unique hp).2 ⟨hx, h0, by omega⟩
   have e : y = -(-y) := by omega
   rw [e, Int.ediv_neg, Int.emod_neg, hu.1, hu.2]
   exact ⟨by omega, rfl⟩
 exact (Int.ediv_emod_unique hp).2 ⟨by rw [h, Int.mul_comm q y, Int.add_comm], h0, by omega⟩
theorem intD_back (b c : Bool) (d n : Nat) : intD (b != c) d * intD c n = intD b (d * n) := by
 cases b <;> cases c <;> simp [intD, Int.neg_mul, Int.mul_neg]
theorem div_plain {x y : Int} {b c : Bool} (hx : intD b x.natAbs = x) (hy : intD c y.natAbs = y) (hy0 : y ≠ 0) (h : b = false ∨ x.natAbs % y.natAbs = 0) :
 intD (b != c) (x.natAbs / y.natAbs) = x / y ∧ ((x.natAbs % y.natAbs : Nat) : Int) = x % y := by
 have hn : 0 < y.natAbs := by omega
 have hlt := Nat.mod_lt x.natAbs hn
 have hdm := Nat.div_add_mod x.natAbs y.natAbs
 have hb := intD_back b c (x.natAbs / y.natAbs) y.natAbs
 rw [hy, Nat.mul_comm] at hb
 have := ediv_of (x := x) (y := y) (q := intD (b != c) (x.natAbs / y.natAbs)) (r := ((x.natAbs % y.natAbs : Nat) : Int)) hy0 (by
  rw [hb]
  generalize y.natAbs * (x.natAbs / y.natAbs) = P at *
  generalize x.natAbs % y.natAbs = e at *
  generalize x.natAbs = m at *
  rcases h with h | h
  · subst h; simp [intD] at *; omega
  subst h; cases b <;> simp [intD] at * <;> omega) (by omega) (by omega)
 exact ⟨this.1.symm, this.2.symm⟩
theorem div_more {x y : Int} {c : Bool} (hx : intD true x.natAbs = x) (hy : intD c y.natAbs = y) (hy0 : y ≠ 0) (h : 0 < x.natAbs % y.natAbs) :
 intD (true != c) (x.natAbs / y.natAbs + 1) = x / y ∧ ((y.natAbs - x.natAbs % y.natAbs : Nat) : Int) = x % y := by
 have hn : 0 < y.natAbs := by omega
 have hlt := Nat.mod_lt x.natAbs hn
 have hdm := Nat.div_add_mod x.natAbs y.natAbs
 have hb := intD_back true c (x.natAbs / y.natAbs + 1) y.natAbs
 rw [hy, Nat.add_mul, Nat.one_mul, Nat.mul_comm] at hb
 have := ediv_of (x := x) (y := y) (q := intD (true != c) (x.natAbs / y.natAbs + 1)) (r := ((y.natAbs - x.natAbs % y.natAbs : Nat) : Int)) hy0 (by
  rw [hb]
  generalize y.natAbs * (x.natAbs / y.natAbs) = P at *
  generalize x.natAbs % y.natAbs = e at *
  generalize x.natAbs = m at *
  simp [intD] at *
  omega) (by omega) (by omega)
 exact ⟨this.1.symm, this.2.symm⟩
def resR (x y : Int) : ByteArray := if (x / y).natAbs < 10 ^ 200 then textI (x % y) else ByteArray.empty
def divQ (s t : ByteArray) : ByteArray := if validB s && validB t && decide (numB t ≠ 0) then resT (numB s / numB t) else ByteArray.empty
def divR (s t : ByteArray) : ByteArray := if validB s && validB t && decide (numB t ≠ 0) then resR (numB s) (numB t) else ByteArray.empty
def divZ (s t : ByteArray) : Int := if validB s && validB t && decide (numB t ≠ 0) then resZ (numB s / numB t) else 30
theorem digs_length_mono {m n : Nat} (h : n ≤ m) : (digs n).length ≤ (digs m).length :=
 digs_length_le _ _ (Nat.lt_of_le_of_lt h (lt_of_digs_length (Nat.le_refl _)))
end Go.Proofs.YtcglcgphgahnpaaGreatDoor
namespace Go.Proofs.YtcglcgphgahnpaaGreatDoor
open Go Go.Proofs Go.RowKit Go.Lib
theorem nums_bytes {W : World} {g : Nat} {L : List Nat} (h : NumsAt .u8 W g 0 L) (hL : ∀ x ∈ L, x < 256) : Bytes W g 0 (byteL L) := by
 intro i hi
 have hi2 : i < L.length := by rwa [byteL_size] at hi
 rw [h i hi2, byteL_get L hL i hi]
def digPart (l : List Nat) (k : Nat) : List Nat := (l.drop k).reverse.map (48 + ·)
theorem digPart_end (l : List Nat) : digPart l l.length = [] := by unfold digPart; simp
theorem digPart_step (l : List Nat) (j : Nat) (h : j < l.length) : digPart l j = digPart l (j + 1) ++ [48 + l.getD j 0] := by
 unfold digPart
 rw [List.drop_eq_getElem_cons h, List.reverse_cons, List.map_append]
 simp only [List.map_cons, List.map_nil, List.getD_eq_getElem?_getD, List.getElem?_eq_getElem h, Option.getD_some]
theorem digPart_length (l : List Nat) (k : Nat) : (digPart l k).length ≤ l.length := by unfold digPart; simp
theorem text_zero (neg : Bool) : textI (intD neg 0) = ⟨#[48]⟩ := by cases neg <;> rfl
theorem text_pos (neg : Bool) {n : Nat} (h : n ≠ 0) : textI (intD neg n) = byteL ((if neg then [45] else []) ++ digPart (digs n) 0) := by
 unfold textI
 rw [intD_abs]
 have h1 : textN n = digPart (digs n) 0 := by unfold textN digPart; rw [if_neg h]; rfl
 rw [h1]
 cases neg with
 | false =>
  rw [if_neg (by unfold intD; simp), if_neg (by simp)]
 | true =>
  rw [if_pos (by unfold intD; simp; omega), if_pos rfl]
theorem text_any (neg : Bool) (n : Nat) (ad : Option Addr) (cap m : Nat) (w : World) (h : HoldI w ad cap (digs n)) (hm : (digs n).length = m) :
 Calls Tryz.prog 115 #[.bool neg, .slice ad m cap] w fun e w' => e = .returned (.tuple #[.string (textI (intD neg n)), .bool (decide (m ≤ 200))]) ∧ Below w.heap.size w w' := by
 by_cases hn : n = 0
 · subst hn
   obtain rfl : m = 0 := hm.symm
   have ht := text_zero neg
   have HT := hid ht
   have hdt : decide (0 ≤ 200) = true := by decide
   rw [ht]
   clear h ht
   go_enter Tryz.func115, Tryz.ntmps115
   go_wp2_with fail
   go_ret2
   exact ⟨rfl, Below.refl _ _⟩
 have ht := text_pos neg hn
 have hm0 : 0 < m := by rw [← hm, digs_pos hn]; simp
 have hd := digs_lt n
 obtain ⟨R, hR⟩ : ∃ R, textI (intD neg n) = R := ⟨_, rfl⟩
 rw [hR] at ht ⊢
 obtain ⟨l, hl⟩ : ∃ l, digs n = l := ⟨_, rfl⟩
 rw [hl] at ht h hm hd
 have hm40 : m ≤ 1099511627776 := by have := h.2.1; omega
 obtain ⟨g, o, rfl, hg, hs⟩ := h.at (by omega)
 have hz : ((m : Int) == 0) = false := by rw [beq_eq_false_iff_ne]; omega
 obtain ⟨pre, hpre⟩ : ∃ pre, (if neg then [45] else []) = pre := ⟨_, rfl⟩
 have hprel : pre.length ≤ 1 := by rw [← hpre]; cases neg <;> simp
 have hpreb : ∀ x ∈ pre, x < 256 := by rw [← hpre]; cases neg <;> simp
 rw [hpre] at ht
 have HT := hid ht; have HS := hid hs; have HM := hid hm; have HPB := hid hpreb; have HD := hid hd
 clear ht hs hm h hl hR hpreb hd hn
 cases neg with
 | false =>
  have hp0 : pre = [] := by rw [← hpre]; rfl
  subst hp0
  clear hpre
  go_enter Tryz.func115, Tryz.ntmps115
  go_wp2_with fail
  go_loopw [6, 7] (fun v i wr => ∃ k : Nat, k ≤ m ∧ i = .int .i64 ((k : Int) - 1) ∧ Hid (Own8 wr w.heap.size v ([] ++ digPart l k)) ∧ Hid (Below w.heap.size w wr)) (fun _ i _ => (RowKit.intOf i + 1).toNat)
  case atStart => exact ⟨m, Nat.le_refl _, rfl, (by rw [← HM.out, digPart_end]; exact Own8.nil _ _ : Own8 w w.heap.size _ ([] ++ digPart l m)), Below.refl _ _⟩
  obtain ⟨k, hk, rfl, hown, hbr⟩ := hrel
  by_cases hk0 : k = 0
  · subst hk0
    have hneg : ¬ (0 : Int) ≤ ((0 : Nat) : Int) - 1 := by omega
    have hll := digPart_length l 0
    rw [HM.out] at hll
    have hb256 : ∀ x ∈ ([] : List Nat) ++ digPart l 0, x < 256 := by
     intro x hx
     rcases List.mem_append.1 hx with h | h
     · exact HPB.out x h
     unfold digPart at h
     rw [List.mem_map] at h
     obtain ⟨d, hd, rfl⟩ := h
     have := HD.out d (List.mem_of_mem_drop (List.mem_reverse.1 hd))
     omega
    have hne : 0 < (([] : List Nat) ++ digPart l 0).length := by rw [List.length_append]; unfold digPart; simp; rw [HM.out]; omega
    obtain ⟨L, hL⟩ : ∃ L, ([] : List Nat) ++ digPart l 0 = L := ⟨_, rfl⟩
    rw [hL] at hown hb256 hne
    have hLl : L.length ≤ 1099511627777 := by rw [← hL, List.length_append]; simp; omega
    obtain ⟨q, hq⟩ : ∃ q, L.length = q := ⟨_, rfl⟩
    obtain ⟨g2, cap2, rfl, _, _, _, hn2, _⟩ := hown.out.form q hq (by omega)
    have hconv := run_convert_whole (P := Tryz.prog) wr 44 5 9 Tryz.underlying44 Tryz.underlying5 Tryz.underlying9 g2 0 (byteL L) (nums_bytes hn2 hb256) cap2
    rw [byteL_size, hq] at hconv
    have hRL : R = byteL L := by rw [HT.out, hL]
    rw [← hRL] at hconv
    have hle : decide ((m : Int) ≤ 200) = decide (m ≤ 200) := by rw [decide_eq_decide]; omega
    have HLE := hid hle
    clear hll hb256 hne hL hown hn2 hRL hq hLl hle
    go_wp2_with fail
    go_ret2
    exact ⟨by simp; omega, hbr.out⟩
  obtain ⟨j, rfl⟩ : ∃ j, k = j + 1 := ⟨k - 1, by omega⟩
  have hj : (((j + 1 : Nat) : Int) - 1) = (j : Int) := by omega
  rw [hj]
  have hj0 : (0 : Int) ≤ (j : Int) := by omega
  have hj1 : (j : Int) < (m : Int) := by omega
  have jl : j < l.length := by rw [HM.out]; omega
  have cc := (HS.out.below hbr.out hg) j jl
  have hstep := digPart_step l j jl
  have hx10 := getD_dig HD.out j
  have j1 := fun w => atI g o m cap j (j : Int) rfl (by omega) w
  have hsize := hbr.out.size
  have hll := digPart_length l (j + 1)
  rw [HM.out] at hll
  obtain ⟨x, hx⟩ : ∃ x, l.getD j 0 = x := ⟨_, rfl⟩
  rw [hx] at cc hstep hx10
  obtain ⟨D, hD⟩ : ∃ D, digPart l (j + 1) = D := ⟨_, rfl⟩
  rw [hD] at hown hstep hll
  have hql : (([] : List Nat) ++ D).length + 1 ≤ 17592186044416 := by rw [List.length_append]; simp; omega
  have hx10' : (x : Int) < 10 := by omega
  have HSTEP := hid hstep
  clear hstep hx hD jl hk0
  go_wp2_with (first | (at_builtin; refine walk_push8 (w0 := w) rfl _ _ rfl w.heap.size _ (([] : List Nat) ++ D) [48 + x] rfl (hown.out.alloc _) (hbr.out.alloc hsize _) (Nat.le_trans hsize (by simp)) wr.heap.size 0 1 1 rfl rfl (new_num1 .u8 wr _ (48 + x) (by go_num) _) hql ?_; intro v3 W3 ho3 hb3))
  go_roundw
  case rel => exact ⟨j, by omega, by go_num, by rw [HSTEP.out, ← List.append_assoc]; exact ho3, hb3⟩
  case measure => simp [RowKit.intOf]
 | true =>
  have hp0 : pre = [45] := by rw [← hpre]; rfl
  subst hp0
  clear hpre
  go_enter Tryz.func115, Tryz.ntmps115
  go_wp2_with (first | (at_builtin; refine walk_push8 (w0 := w) rfl _ _ rfl w.heap.size _ [] [45] rfl (Own8.nil _ _) ((Below.refl w.heap.size w).alloc (Nat.le_refl _) _) (by simp) w.heap.size 0 1 1 rfl rfl (new_num1 .u8 w _ 45 rfl _) (by simp) ?_; intro v0 W0 ho0 hb0))
  go_loopw [6, 7] (fun v i wr => ∃ k : Nat, k ≤ m ∧ i = .int .i64 ((k : Int) - 1) ∧ Hid (Own8 wr w.heap.size v ([45] ++ digPart l k)) ∧ Hid (Below w.heap.size w wr)) (fun _ i _ => (RowKit.intOf i + 1).toNat)
  case atStart => exact ⟨m, Nat.le_refl _, rfl, (by rw [← HM.out, digPart_end]; exact ho0 : Own8 W0 w.heap.size _ ([45] ++ digPart l m)), hb0⟩
  obtain ⟨k, hk, rfl, hown, hbr⟩ := hrel
  by_cases hk0 : k = 0
  · subst hk0
    have hneg : ¬ (0 : Int) ≤ ((0 : Nat) : Int) - 1 := by omega
    have hll := digPart_length l 0
    rw [HM.out] at hll
    have hb256 : ∀ x ∈ [45] ++ digPart l 0, x < 256 := by
     intro x hx
     rcases List.mem_append.1 hx with h | h
     · exact HPB.out x h
     unfold digPart at h
     rw [List.mem_map] at h
     obtain ⟨d, hd, rfl⟩ := h
     have := HD.out d (List.mem_of_mem_drop (List.mem_reverse.1 hd))
     omega
    have hne : 0 < ([45] ++ digPart l 0).length := by rw [List.length_append]; unfold digPart; simp; rw [HM.out]; omega
    obtain ⟨L, hL⟩ : ∃ L, [45] ++ digPart l 0 = L := ⟨_, rfl⟩
    rw [hL] at hown hb256 hne
    have hLl : L.length ≤ 1099511627777 := by rw [← hL, List.length_append]; simp; omega
    obtain ⟨q, hq⟩ : ∃ q, L.length = q := ⟨_, rfl⟩
    obtain ⟨g2, cap2, rfl, _, _, _, hn2, _⟩ := hown.out.form q hq (by omega)
    have hconv := run_convert_whole (P := Tryz.prog) wr 44 5 9 Tryz.underlying44 Tryz.underlying5 Tryz.underlying9 g2 0 (byteL L) (nums_bytes hn2 hb256) cap2
    rw [byteL_size, hq] at hconv
    have hRL : R = byteL L := by rw [HT.out, hL]
    rw [← hRL] at hconv
    have hle : decide ((m : Int) ≤ 200) = decide (m ≤ 200) := by rw [decide_eq_decide]; omega
    have HLE := hid hle
    clear hll hb256 hne hL hown hn2 hRL hq hLl hle
    go_wp2_with fail
    go_ret2
    exact ⟨by simp; omega, hbr.out⟩
  obtain ⟨j, rfl⟩ : ∃ j, k = j + 1 := ⟨k - 1, by omega⟩
  have hj : (((j + 1 : Nat) : Int) - 1) = (j : Int) := by omega
  rw [hj]
  have hj0 : (0 : Int) ≤ (j : Int) := by omega
  have hj1 : (j : Int) < (m : Int) := by omega
  have jl : j < l.length := by rw [HM.out]; omega
  have cc := (HS.out.below hbr.out hg) j jl
  have hstep := digPart_step l j jl
  have hx10 := getD_dig HD.out j
  have j1 := fun w => atI g o m cap j (j : Int) rfl (by omega) w
  have hsize := hbr.out.size
  have hll := digPart_length l (j + 1)
  rw [HM.out] at hll
  obtain ⟨x, hx⟩ : ∃ x, l.getD j 0 = x := ⟨_, rfl⟩
  rw [hx] at cc hstep hx10
  obtain ⟨D, hD⟩ : ∃ D, digPart l (j + 1) = D := ⟨_, rfl⟩
  rw [hD] at hown hstep hll
  have hql : ([45] ++ D).length + 1 ≤ 17592186044416 := by rw [List.length_append]; simp; omega
  have hx10' : (x : Int) < 10 := by omega
  have HSTEP := hid hstep
  clear hstep hx hD jl hk0
  go_wp2_with (first | (at_builtin; refine walk_push8 (w0 := w) rfl _ _ rfl w.heap.size _ ([45] ++ D) [48 + x] rfl (hown.out.alloc _) (hbr.out.alloc hsize _) (Nat.le_trans hsize (by simp)) wr.heap.size 0 1 1 rfl rfl (new_num1 .u8 wr _ (48 + x) (by go_num) _) hql ?_; intro v3 W3 ho3 hb3))
  go_roundw
  case rel => exact ⟨j, by omega, by go_num, by rw [HSTEP.out, ← List.append_assoc]; exact ho3, hb3⟩
  case measure => simp [RowKit.intOf]
end Go.Proofs.YtcglcgphgahnpaaGreatDoor
namespace Go.Proofs.YtcglcgphgahnpaaGreatDoor
def validQ (n d : ByteArray) : Bool := validB n && (validB d && (decide (0 < numB d) && decide (Nat.gcd (numB n).natAbs (numB d).natAbs = 1)))
def valQ (n d : ByteArray) : Rat := Rat.divInt (numB n) (numB d)
def FitsQ (x : Rat) : Prop := Fits x.num ∧ Fits (x.den : Int)
def nT (x : Rat) : ByteArray := textI x.num
def dT (x : Rat) : ByteArray := textI (x.den : Int)
theorem fits_of_le {a : Int} {k : Nat} (h : k < 10 ^ 200) (ha : a.natAbs ≤ k) : Fits a := Nat.lt_of_le_of_lt ha h
theorem divInt_pos (n : Int) {d : Int} (hd : 0 < d) : Rat.divInt n d = mkRat n d.natAbs := by
 have : (d.natAbs : Int) = d := by omega
 rw [← Rat.divInt_ofNat, this]
theorem divInt_num_le (n d : Int) (hd : d ≠ 0) : (Rat.divInt n d).num.natAbs ≤ n.natAbs ∧ (Rat.divInt n d).den ≤ d.natAbs := by
 constructor
 · rw [Rat.num_divInt]
   refine Nat.le_trans (Int.natAbs_ediv_le_natAbs _ _) ?_
   rw [Int.natAbs_mul]
   have : d.sign.natAbs ≤ 1 := by rcases Int.lt_trichotomy d 0 with h | h | h <;> simp [Int.sign_eq_neg_one_of_neg, Int.sign_eq_one_of_pos, h]
   calc d.sign.natAbs * n.natAbs ≤ 1 * n.natAbs := Nat.mul_le_mul_right _ this
    _ = n.natAbs := Nat.one_mul _
 rw [Rat.den_divInt, if_neg hd]
 exact Nat.div_le_self _ _
theorem divInt_fits {n d : Int} (hn : Fits n) (hd : Fits d) (h0 : d ≠ 0) : FitsQ (Rat.divInt n d) := by
 obtain ⟨h1, h2⟩ := divInt_num_le n d h0
 unfold FitsQ Fits at *
 exact ⟨by omega, by omega⟩
theorem validQ_parts {n d : ByteArray} (h : validQ n d = true) : validB n = true ∧ validB d = true ∧ 0 < numB d ∧ Nat.gcd (numB n).natAbs (numB d).natAbs = 1 := by
 unfold validQ at h
 simp only [Bool.and_eq_true, decide_eq_true_eq] at h
 exact h
theorem divInt_coprime {n d : Int} (hd : 0 < d) (h : Nat.gcd n.natAbs d.natAbs = 1) : (Rat.divInt n d).num = n ∧ ((Rat.divInt n d).den : Int) = d := by
 have hz : d.natAbs ≠ 0 := by omega
 rw [divInt_pos n hd]
 rw [← Rat.mk_eq_mkRat n d.natAbs hz h]
 exact ⟨rfl, by show (d.natAbs : Int) = d; omega⟩
theorem validQ_num {n d : ByteArray} (h : validQ n d = true) : (valQ n d).num = numB n ∧ ((valQ n d).den : Int) = numB d := by
 obtain ⟨_, _, h3, h4⟩ := validQ_parts h
 exact divInt_coprime h3 h4
theorem text_validQ {n d : ByteArray} (h : validQ n d = true) : FitsQ (valQ n d) ∧ n = nT (valQ n d) ∧ d = dT (valQ n d) := by
 obtain ⟨h1, h2, _, _⟩ := validQ_parts h
 obtain ⟨e1, e2⟩ := validQ_num h
 obtain ⟨a1, a2⟩ := text_valid h1
 obtain ⟨b1, b2⟩ := text_valid h2
 unfold FitsQ nT dT
 rw [e1, e2]
 exact ⟨⟨a1, b1⟩, a2, b2⟩
theorem validQ_text {x : Rat} (h : FitsQ x) : validQ (nT x) (dT x) = true ∧ valQ (nT x) (dT x) = x := by
 obtain ⟨a1, a2⟩ := valid_text h.1
 obtain ⟨b1, b2⟩ := valid_text h.2
 unfold validQ valQ nT dT
 rw [a1, b1, a2, b2]
 refine ⟨?_, ?_⟩
 · have := x.den_pos
   have h2 := x.reduced
   simp only [Bool.true_and, Bool.and_eq_true, decide_eq_true_eq]
   exact ⟨by omega, by simpa [Nat.Coprime] using h2⟩
 rw [Rat.divInt_ofNat]
 exact (Rat.mkRat_self x)
theorem nT_size {x : Rat} (h : FitsQ x) : (nT x).size ≤ 1000 := fits_size h.1
theorem dT_size {x : Rat} (h : FitsQ x) : (dT x).size ≤ 1000 := fits_size h.2
def outN (b : Bool) (x : Rat) : ByteArray := if b then nT x else ByteArray.empty
def outD (b : Bool) (x : Rat) : ByteArray := if b then dT x else ByteArray.empty
def outE (b : Bool) : Int := if b then 0 else 40
def fitB (x : Int) : Bool := decide (x.natAbs < 10 ^ 200)
theorem fitB_iff (x : Int) : fitB x = true ↔ Fits x := by unfold fitB Fits; simp
def makeB (s t : ByteArray) : Bool := validB s && (validB t && decide (numB t ≠ 0))
def bothB (an ad bn bd : ByteArray) : Bool := validQ an ad && validQ bn bd
def addB (an ad bn bd : ByteArray) : Bool := bothB an ad bn bd && ((fitB (numB an * numB bd) && (fitB (numB bn * numB ad) && fitB (numB ad * numB bd))) && fitB (numB an * numB bd + numB bn * numB ad))
def subB (an ad bn bd : ByteArray) : Bool := bothB an ad bn bd && ((fitB (numB an * numB bd) && (fitB (numB bn * numB ad) && fitB (numB ad * numB bd))) && fitB (numB an * numB bd - numB bn * numB ad))
def mulB (an ad bn bd : ByteArray) : Bool := bothB an ad bn bd && (fitB (numB an * numB bn) && fitB (numB ad * numB bd))
def divB (an ad bn bd : ByteArray) : Bool := bothB an ad bn bd && ((fitB (numB an * numB bd) && fitB (numB ad * numB bn)) && decide (numB bn ≠ 0))
theorem both_parts {an ad bn bd : ByteArray} (h : bothB an ad bn bd = true) : validQ an ad = true ∧ validQ bn bd = true := by
 unfold bothB at h; simpa using h
theorem den_ne {n d : ByteArray} (h : validQ n d = true) : numB d ≠ 0 := by have := (validQ_parts h).2.2.1; omega
theorem add_val {an ad bn bd : ByteArray} (h : bothB an ad bn bd = true) : Rat.divInt (numB an * numB bd + numB bn * numB ad) (numB ad * numB bd) = valQ an ad + valQ bn bd := by
 obtain ⟨h1, h2⟩ := both_parts h
 unfold valQ
 rw [Rat.divInt_add_divInt _ _ (den_ne h1) (den_ne h2)]
theorem sub_val {an ad bn bd : ByteArray} (h : bothB an ad bn bd = true) : Rat.divInt (numB an * numB bd - numB bn * numB ad) (numB ad * numB bd) = valQ an ad - valQ bn bd := by
 obtain ⟨h1, h2⟩ := both_parts h
 unfold valQ
 rw [Rat.divInt_sub_divInt _ _ (den_ne h1) (den_ne h2)]
theorem mul_val (an ad bn bd : ByteArray) : Rat.divInt (numB an * numB bn) (numB ad * numB bd) = valQ an ad * valQ bn bd := by
 unfold valQ
 rw [Rat.divInt_mul_divInt]
theorem div_val (an ad bn bd : ByteArray) : Rat.divInt (numB an * numB bd) (numB ad * numB bn) = valQ an ad / valQ bn bd := by
 unfold valQ
 rw [Rat.div_def, Rat.inv_divInt, Rat.divInt_mul_divInt]
def cmpR (x y : Rat) : Int := if x < y then -1 else if y < x then 1 else 0
def cmpQ (an ad bn bd : ByteArray) : Int := if bothB an ad bn bd then cmpR (valQ an ad) (valQ bn bd) else 0
def sgZ (x y : Int) : Int := if x < y then -1 else if y < x then 1 else 0
theorem divInt_lt {a b c d : Int} (hb : 0 < b) (hd : 0 < d) : Rat.divInt a b < Rat.divInt c d ↔ a * d < c * b := by
 have h1 := Rat.div_def ((a : Rat)) ((b : Rat))
 have eb : Rat.divInt a b = (a : Rat) / (b : Rat) := Rat.divInt_eq_div a b
 have ed : Rat.divInt c d = (c : Rat) / (d : Rat) := Rat.divInt_eq_div c d
 have hb' : (0 : Rat) < (b : Rat) := Rat.intCast_pos.2 hb
 have hd' : (0 : Rat) < (d : Rat) := Rat.intCast_pos.2 hd
 rw [eb, ed, Rat.lt_div_iff hd', Rat.div_def, Rat.mul_assoc, Rat.mul_comm (b : Rat)⁻¹, ← Rat.mul_assoc, ← Rat.div_def, Rat.div_lt_iff hb', ← Rat.intCast_mul, ← Rat.intCast_mul, Rat.intCast_lt_intCast]
theorem cmpR_divInt {a b c d : Int} (hb : 0 < b) (hd : 0 < d) : cmpR (Rat.divInt a b) (Rat.divInt c d) = sgZ (a * d) (c * b) := by
 unfold cmpR sgZ
 by_cases h1 : a * d < c * b
 · rw [if_pos ((divInt_lt hb hd).2 h1), if_pos h1]
 rw [if_neg (fun h => h1 ((divInt_lt hb hd).1 h)), if_neg h1]
 by_cases h2 : c * b < a * d
 · rw [if_pos ((divInt_lt hd hb).2 h2), if_pos h2]
 rw [if_neg (fun h => h2 ((divInt_lt hd hb).1 h)), if_neg h2]
theorem cmpQ_both {an ad bn bd : ByteArray} (h : bothB an ad bn bd = true) : cmpQ an ad bn bd = sgZ (numB an * numB bd) (numB bn * numB ad) := by
 obtain ⟨h1, h2⟩ := both_parts h
 unfold cmpQ
 rw [if_pos h]
 exact cmpR_divInt (validQ_parts h1).2.2.1 (validQ_parts h2).2.2.1
end Go.Proofs.YtcglcgphgahnpaaGreatDoor
namespace Go.Proofs.YtcglcgphgahnpaaGreatDoor
theorem sgZ_add (x y z : Int) : sgZ (x + z) (y + z) = sgZ x y := by unfold sgZ; split <;> (try split) <;> (try split) <;> (try split) <;> omega
theorem sgZ_lt {x y : Int} (h : x < y) : sgZ x y = -1 := by unfold sgZ; rw [if_pos h]
theorem sgZ_gt {x y : Int} (h : y < x) : sgZ x y = 1 := by unfold sgZ; rw [if_neg (by omega), if_pos h]
theorem sgZ_self (x : Int) : sgZ x x = 0 := by unfold sgZ; rw [if_neg (by omega), if_neg (by omega)]
theorem whole_lt {n d m c : Int} (hd : 0 < d) (hc : 0 < c) (h : n / d < m / c) : n * c < m * d := by
 have hn : n = n / d * d + n % d := (Int.ediv_mul_add_emod n d).symm
 have hm : m = m / c * c + m % c := (Int.ediv_mul_add_emod m c).symm
 have hr := Int.emod_lt_of_pos n hd
 have hs := Int.emod_nonneg m (show c ≠ 0 by omega)
 have h1 : n < (n / d + 1) * d := by rw [Int.add_mul]; omega
 have h2 : m / c * c ≤ m := by omega
 have h3 : n * c < (n / d + 1) * d * c := Int.mul_lt_mul_of_pos_right h1 hc
 have h4 : m / c * c * d ≤ m * d := Int.mul_le_mul_of_nonneg_right h2 (by omega)
 have h5 : (n / d + 1) * (d * c) ≤ m / c * (d * c) := Int.mul_le_mul_of_nonneg_right (by omega) (Int.le_of_lt (Int.mul_pos hd hc))
 have e1 : (n / d + 1) * d * c = (n / d + 1) * (d * c) := Int.mul_assoc _ _ _
 have e2 : m / c * c * d = m / c * (d * c) := by rw [Int.mul_assoc, Int.mul_comm c d]
 omega
theorem whole_ne {n d m c : Int} (hd : 0 < d) (hc : 0 < c) (h : n / d ≠ m / c) : sgZ (n * c) (m * d) = sgZ (n / d) (m / c) := by
 rcases Int.lt_or_gt_of_ne h with h1 | h1
 · rw [sgZ_lt h1, sgZ_lt (whole_lt hd hc h1)]
 rw [sgZ_gt h1, sgZ_gt (whole_lt hc hd h1)]
theorem whole_eq {n d m c : Int} (h : n / d = m / c) : sgZ (n * c) (m * d) = sgZ (n % d * c) (m % c * d) := by
 have hn : n * c = n % d * c + n / d * d * c := by rw [← Int.add_mul, Int.add_comm, Int.ediv_mul_add_emod]
 have hm : m * d = m % c * d + m / c * c * d := by rw [← Int.add_mul, Int.add_comm, Int.ediv_mul_add_emod]
 have e : m / c * c * d = n / d * d * c := by rw [h, Int.mul_assoc, Int.mul_comm c d, Int.mul_assoc]
 rw [hn, hm, e, sgZ_add]
def zOr (x : Int) : Int := if x = 0 then 0 else 1
theorem rest_end {r s d c : Int} (hd : 0 < d) (hc : 0 < c) (hr : 0 ≤ r) (hs : 0 ≤ s) (h : r = 0 ∨ s = 0) : sgZ (r * c) (s * d) = sgZ (zOr r) (zOr s) := by
 by_cases h1 : r = 0
 · by_cases h2 : s = 0
   · subst h1; subst h2; simp [zOr, sgZ]
   subst h1
   have : 0 < s * d := Int.mul_pos (by omega) hd
   rw [Int.zero_mul, sgZ_lt this]
   unfold zOr
   rw [if_pos rfl, if_neg h2]; rfl
 have h2 : s = 0 := h.resolve_left h1
 subst h2
 have : 0 < r * c := Int.mul_pos (by omega) hc
 rw [Int.zero_mul, sgZ_gt this]
 unfold zOr
 rw [if_pos rfl, if_neg h1]; rfl
def slashAt (s : ByteArray) : Nat := (bytesL s).findIdx (· == 47)
def cutN (s : ByteArray) : ByteArray := if slashAt s < s.size then s.extract 0 (slashAt s) else s
def cutD (s : ByteArray) : ByteArray := if slashAt s < s.size then s.extract (slashAt s + 1) s.size else ⟨#[49]⟩
def printB (n d : ByteArray) : ByteArray := if validQ n d then (if d = ⟨#[49]⟩ then n else n ++ ⟨#[47]⟩ ++ d) else ByteArray.empty
def parseB (s : ByteArray) : Bool := validQ (cutN s) (cutD s) && decide (printB (cutN s) (cutD s) = s)
theorem cutN_size (s : ByteArray) : (cutN s).size ≤ s.size := by unfold cutN; split <;> (try rw [ByteArray.size_extract]) <;> omega
theorem cutD_size (s : ByteArray) : (cutD s).size ≤ s.size + 1 := by
 unfold cutD; split
 · rw [ByteArray.size_extract]; omega
 show 1 ≤ _; omega
theorem bytesL_append (s t : ByteArray) : bytesL (s ++ t) = bytesL s ++ bytesL t := by simp [bytesL]
theorem bytesL_inj {s t : ByteArray} (h : bytesL s = bytesL t) : s = t := by rw [← byteL_bytesL s, ← byteL_bytesL t, h]
end Go.Proofs.YtcglcgphgahnpaaGreatDoor
namespace Go.Proofs.YtcglcgphgahnpaaGreatDoor
def wordL : Nat → List Nat
 | 0 => [117, 115]
 | 1 => [98, 121, 116, 101]
 | 2 => [99, 101, 110, 116]
 | _ => [111, 110, 101]
def partL (i : Nat) (n : Int) : List Nat := if n = 0 then [] else if n = 1 then 32 :: wordL i else 32 :: (wordL i ++ 94 :: bytesL (textI n))
def unitL (t b m c : Int) : List Nat := partL 0 t ++ (partL 1 b ++ (partL 2 m ++ partL 3 c))
def InE (n : Int) : Prop := -3 ≤ n ∧ n ≤ 3
instance (n : Int) : Decidable (InE n) := by unfold InE; exact inferInstance
theorem inE_cases {n : Int} (h : InE n) : n = -3 ∨ n = -2 ∨ n = -1 ∨ n = 0 ∨ n = 1 ∨ n = 2 ∨ n = 3 := by unfold InE at h; omega
def expsL : List Int := [-3, -2, -1, 1, 2, 3]
theorem exps_mem {n : Int} (h : InE n) (h0 : n ≠ 0) : n ∈ expsL := by
 rcases inE_cases h with rfl | rfl | rfl | rfl | rfl | rfl | rfl <;> first | decide | exact absurd rfl h0
theorem exps_in {n : Int} (h : n ∈ expsL) : InE n ∧ n ≠ 0 := by
 simp only [expsL, List.mem_cons, List.not_mem_nil, or_false] at h
 rcases h with rfl | rfl | rfl | rfl | rfl | rfl <;> decide
theorem part_shape : ∀ i, i < 4 → ∀ n ∈ expsL, ∃ r, partL i n = 32 :: r ∧ 32 ∉ r := by
 intro i hi n hn
 refine ⟨(partL i n).tail, ?_, ?_⟩
 · have : (partL i n).head? = some 32 := by
    unfold partL
    rw [if_neg (exps_in hn).2]
    split <;> rfl
   cases h : partL i n with
   | nil => rw [h] at this; cases this
   | cons a r => rw [h] at this; injection this with e; subst e; rfl
 have : ∀ i, i < 4 → ∀ n ∈ expsL, 32 ∉ (partL i n).tail := by decide +kernel
 exact this i hi n hn
theorem part_len : ∀ i, i < 4 → ∀ n ∈ expsL, 3 ≤ (partL i n).length ∧ (partL i n).length ≤ 8 := by decide +kernel
theorem part_inj : ∀ i, i < 4 → ∀ j, j < 4 → ∀ n ∈ expsL, ∀ k ∈ expsL, partL i n = partL j k → i = j ∧ n = k := by decide +kernel
def tokL : List Nat → List Nat
 | [] => []
 | a :: r => a :: r.takeWhile (· ≠ 32)
theorem takeWhile_stop {r s : List Nat} (h : 32 ∉ r) (hs : s = [] ∨ s.head? = some 32) : (r ++ s).takeWhile (· ≠ 32) = r := by
 induction r with
 | nil =>
  rcases hs with rfl | hs
  · rfl
  cases s with
  | nil => rfl
  | cons a q => injection hs with e; subst e; rfl
 | cons a q ih =>
  have ha : a ≠ 32 := fun e => h (by rw [e]; exact List.mem_cons_self ..)
  rw [List.cons_append, List.takeWhile_cons, if_pos (by simpa using ha), ih (fun hm => h (List.mem_cons_of_mem _ hm))]
theorem tok_part {i : Nat} (hi : i < 4) {n : Int} (hn : n ∈ expsL) {s : List Nat} (hs : s = [] ∨ s.head? = some 32) : tokL (partL i n ++ s) = partL i n := by
 obtain ⟨r, e, h⟩ := part_shape i hi n hn
 rw [e, List.cons_append]
 show 32 :: (r ++ s).takeWhile (· ≠ 32) = _
 rw [takeWhile_stop h hs]
def seekL (i : Nat) (l : List Nat) : List Int → Int × List Nat
 | [] => (0, l)
 | n :: ns => if tokL l = partL i n then (n, l.drop (tokL l).length) else seekL i l ns
def scanE (i : Nat) (l : List Nat) : Int × List Nat := seekL i l expsL
theorem tok_prefix (l : List Nat) : tokL l ++ l.drop (tokL l).length = l := by
 cases l with
 | nil => rfl
 | cons a r =>
  show a :: r.takeWhile (· ≠ 32) ++ (a :: r).drop ((r.takeWhile (· ≠ 32)).length + 1) = _
  rw [List.cons_append, List.drop_succ_cons]
  congr 1
  have h := List.takeWhile_append_dropWhile (p := fun x => decide (x ≠ 32)) (l := r)
  have h2 : r.drop (r.takeWhile (fun x => decide (x ≠ 32))).length = r.dropWhile (fun x => decide (x ≠ 32)) := by
   conv => lhs; arg 2; rw [← h]
   exact List.drop_left
  rw [h2]; exact h
theorem seek_sound (i : Nat) (l : List Nat) : ∀ ns : List Int, (∀ n ∈ ns, n ∈ expsL) → partL i (seekL i l ns).1 ++ (seekL i l ns).2 = l ∧ ((seekL i l ns).1 = 0 ∨ (seekL i l ns).1 ∈ expsL)
 | [], _ => ⟨rfl, .inl rfl⟩
 | n :: ns, h => by
  unfold seekL
  split
  · rename_i e
    exact ⟨by show partL i n ++ _ = l; rw [← e]; exact tok_prefix l, .inr (h n (List.mem_cons_self ..))⟩
  exact seek_sound i l ns (fun k hk => h k (List.mem_cons_of_mem _ hk))
theorem scan_sound (i : Nat) (l : List Nat) : partL i (scanE i l).1 ++ (scanE i l).2 = l ∧ InE (scanE i l).1 := by
 obtain ⟨h1, h2⟩ := seek_sound i l expsL (fun _ h => h)
 refine ⟨h1, ?_⟩
 rcases h2 with h2 | h2
 · show InE (seekL i l expsL).1
   rw [h2]; decide
 exact (exps_in h2).1
theorem seek_hit {i : Nat} (hi : i < 4) {n : Int} (hn : n ∈ expsL) {l : List Nat} (h : tokL l = partL i n) : ∀ ns : List Int, (∀ k ∈ ns, k ∈ expsL) → n ∈ ns → seekL i l ns = (n, l.drop (tokL l).length)
 | [], _, h2 => by cases h2
 | k :: ns, hk, h2 => by
  unfold seekL
  split
  · rename_i e
    have := (part_inj i hi i hi n hn k (hk k (List.mem_cons_self ..)) (h.symm.trans e)).2
    rw [this]
  rename_i e
  rcases List.mem_cons.1 h2 with rfl | h3
  · exact absurd h e
  exact seek_hit hi hn h ns (fun q hq => hk q (List.mem_cons_of_mem _ hq)) h3
theorem seek_miss {i : Nat} {l : List Nat} : ∀ ns : List Int, (∀ k ∈ ns, tokL l ≠ partL i k) → seekL i l ns = (0, l)
 | [], _ => rfl
 | k :: ns, h => by
  unfold seekL
  rw [if_neg (h k (List.mem_cons_self ..))]
  exact seek_miss ns (fun q hq => h q (List.mem_cons_of_mem _ hq))
def Behind (i : Nat) (s : List Nat) : Prop := s = [] ∨ ∃ j k r, i < j ∧ j < 4 ∧ k ∈ expsL ∧ s = partL j k ++ r ∧ (r = [] ∨ r.head? = some 32)
theorem Behind.head {i : Nat} {s : List Nat} (h : Behind i s) : s = [] ∨ s.head? = some 32 := by
 rcases h with h | ⟨j, k, r, _, hj, hk, rfl, _⟩
 · exact .inl h
 obtain ⟨q, e, _⟩ := part_shape j hj k hk
 right; rw [e]; rfl
theorem part_ne_nil : ∀ i, i < 4 → ∀ n ∈ expsL, ([] : List Nat) ≠ partL i n := by decide +kernel
theorem scan_part {i : Nat} (hi : i < 4) {n : Int} (hn : InE n) {s : List Nat} (hs : Behind i s) : scanE i (partL i n ++ s) = (n, s) := by
 by_cases h0 : n = 0
 · subst h0
   have e : partL i 0 ++ s = s := rfl
   rw [e]
   refine seek_miss _ (fun k hk => ?_)
   rcases hs with rfl | ⟨j, q, r, hij, hj, hq, rfl, hr⟩
   · exact part_ne_nil i hi k hk
   rw [tok_part hj hq hr]
   intro e2
   have := (part_inj j hj i hi q hq k hk e2).1
   omega
 have hm := exps_mem hn h0
 have ht := tok_part hi hm hs.head
 have := seek_hit hi hm ht expsL (fun _ h => h) hm
 unfold scanE
 rw [this, ht, List.drop_left]
theorem behind_part {i j : Nat} (hij : i < j) (hj : j < 4) {n : Int} (hn : InE n) {s : List Nat} (hs : Behind j s) : Behind i (partL j n ++ s) := by
 by_cases h0 : n = 0
 · subst h0
   have e : partL j 0 ++ s = s := rfl
   rw [e]
   rcases hs with rfl | ⟨k, q, r, h1, h2, h3, rfl, h4⟩
   · exact .inl rfl
   exact .inr ⟨k, q, r, by omega, h2, h3, rfl, h4⟩
 exact .inr ⟨j, n, s, hij, hj, exps_mem hn h0, rfl, hs.head⟩
theorem behind_nil (i : Nat) : Behind i [] := .inl rfl
def readU (l : List Nat) : Int × Int × Int × Int × List Nat :=
 ((scanE 0 l).1, (scanE 1 (scanE 0 l).2).1, (scanE 2 (scanE 1 (scanE 0 l).2).2).1, (scanE 3 (scanE 2 (scanE 1 (scanE 0 l).2).2).2).1, (scanE 3 (scanE 2 (scanE 1 (scanE 0 l).2).2).2).2)
theorem readU_unit {t b m c : Int} (ht : InE t) (hb : InE b) (hm : InE m) (hc : InE c) : readU (unitL t b m c) = (t, b, m, c, []) := by
 have h3 : Behind 2 (partL 3 c) := by have := behind_part (i := 2) (j := 3) (by omega) (by omega) hc (behind_nil 3); rwa [List.append_nil] at this
 have h2 : Behind 1 (partL 2 m ++ partL 3 c) := behind_part (by omega) (by omega) hm h3
 have h1 : Behind 0 (partL 1 b ++ (partL 2 m ++ partL 3 c)) := behind_part (by omega) (by omega) hb h2
 have e0 : scanE 0 (unitL t b m c) = (t, _) := scan_part (by omega) ht h1
 have e1 := scan_part (i := 1) (by omega) hb h2
 have e2 := scan_part (i := 2) (by omega) hm h3
 have e3 : scanE 3 (partL 3 c) = (c, []) := by have := scan_part (i := 3) (by omega) hc (behind_nil 3); rwa [List.append_nil] at this
 unfold readU
 rw [e0, e1, e2, e3]
theorem readU_sound {l : List Nat} (h : (readU l).2.2.2.2 = []) : unitL (readU l).1 (readU l).2.1 (readU l).2.2.1 (readU l).2.2.2.1 = l ∧ InE (readU l).1 ∧ InE (readU l).2.1 ∧ InE (readU l).2.2.1 ∧ InE (readU l).2.2.2.1 := by
 obtain ⟨s0, i0⟩ := scan_sound 0 l
 obtain ⟨s1, i1⟩ := scan_sound 1 (scanE 0 l).2
 obtain ⟨s2, i2⟩ := scan_sound 2 (scanE 1 (scanE 0 l).2).2
 obtain ⟨s3, i3⟩ := scan_sound 3 (scanE 2 (scanE 1 (scanE 0 l).2).2).2
 refine ⟨?_, i0, i1, i2, i3⟩
 have h' : (scanE 3 (scanE 2 (scanE 1 (scanE 0 l).2).2).2).2 = [] := h
 rw [h', List.append_nil] at s3
 show partL 0 _ ++ (partL 1 _ ++ (partL 2 _ ++ partL 3 _)) = l
 rw [show partL 3 (readU l).2.2.2.1 = _ from s3, show partL 2 (readU l).2.2.1 ++ _ = _ from s2, show partL 1 (readU l).2.1 ++ _ = _ from s1]
 exact s0
end Go.Proofs.YtcglcgphgahnpaaGreatDoor
namespace Go.Proofs.YtcglcgphgahnpaaGreatDoor
def lenT (n : ByteArray) : Nat := if (bytesL n).head? = some 45 then n.size - 1 else n.size
def fit60 (n d : ByteArray) : Bool := decide (lenT n ≤ 60) && (decide (d.size ≤ 60) && validQ n d)
def okE (t b m c : Int) : Bool := decide (InE t) && (decide (InE b) && (decide (InE m) && decide (InE c)))
def okU (n d : ByteArray) (t b m c : Int) : Bool := okE t b m c && fit60 n d
theorem fit60_valid {n d : ByteArray} (h : fit60 n d = true) : validQ n d = true := by
 unfold fit60 at h
 simp only [Bool.and_eq_true] at h
 exact h.2.2
theorem fit60_size {n d : ByteArray} (h : fit60 n d = true) : n.size ≤ 61 ∧ d.size ≤ 60 := by
 unfold fit60 lenT at h
 simp only [Bool.and_eq_true, decide_eq_true_eq] at h
 obtain ⟨h1, h2, _⟩ := h
 refine ⟨?_, h2⟩
 split at h1 <;> omega
theorem okE_in {t b m c : Int} (h : okE t b m c = true) : InE t ∧ InE b ∧ InE m ∧ InE c := by
 unfold okE at h
 simpa only [Bool.and_eq_true, decide_eq_true_eq] using h
theorem okU_parts {n d : ByteArray} {t b m c : Int} (h : okU n d t b m c = true) : okE t b m c = true ∧ fit60 n d = true := by
 unfold okU at h
 simpa only [Bool.and_eq_true] using h
def textU (n d : ByteArray) (t b m c : Int) : ByteArray := printB n d ++ byteL (unitL t b m c)
def printU (n d : ByteArray) (t b m c : Int) : ByteArray := if okU n d t b m c then textU n d t b m c else ByteArray.empty
theorem part_bytes : ∀ i, i < 4 → ∀ n ∈ expsL, ∀ x ∈ partL i n, x < 256 := by decide +kernel
theorem part_bytes' {i : Nat} (hi : i < 4) {n : Int} (hn : InE n) : ∀ x ∈ partL i n, x < 256 := by
 by_cases h0 : n = 0
 · subst h0; intro x hx; cases hx
 exact part_bytes i hi n (exps_mem hn h0)
theorem unit_bytes {t b m c : Int} (ht : InE t) (hb : InE b) (hm : InE m) (hc : InE c) : ∀ x ∈ unitL t b m c, x < 256 := by
 intro x hx
 simp only [unitL, List.mem_append] at hx
 rcases hx with h | h | h | h
 · exact part_bytes' (by omega) ht x h
 · exact part_bytes' (by omega) hb x h
 · exact part_bytes' (by omega) hm x h
 exact part_bytes' (by omega) hc x h
theorem part_len' {i : Nat} (hi : i < 4) {n : Int} (hn : InE n) : (partL i n).length ≤ 8 := by
 by_cases h0 : n = 0
 · subst h0; exact Nat.zero_le _
 exact (part_len i hi n (exps_mem hn h0)).2
def headL (l : List Nat) : List Nat := l.takeWhile (· ≠ 32)
def restL (l : List Nat) : List Nat := l.dropWhile (· ≠ 32)
theorem head_rest (l : List Nat) : headL l ++ restL l = l := List.takeWhile_append_dropWhile
def fracT (s : ByteArray) : ByteArray := byteL (headL (bytesL s))
def expT (s : ByteArray) : Int × Int × Int × Int × List Nat := readU (restL (bytesL s))
def parUB (s : ByteArray) : Bool :=
 decide ((expT s).2.2.2.2 = []) && (parseB (fracT s) && okU (cutN (fracT s)) (cutD (fracT s)) (expT s).1 (expT s).2.1 (expT s).2.2.1 (expT s).2.2.2.1)
theorem bytesL_textU {n d : ByteArray} {t b m c : Int} (h : okU n d t b m c = true) : bytesL (textU n d t b m c) = bytesL (printB n d) ++ unitL t b m c := by
 obtain ⟨ht, hb, hm, hc⟩ := okE_in (okU_parts h).1
 unfold textU
 rw [bytesL_append, bytesL_byteL (unit_bytes ht hb hm hc)]
end Go.Proofs.YtcglcgphgahnpaaGreatDoor
namespace Go.Proofs.YtcglcgphgahnpaaGreatDoor
open Go Go.Proofs Go.RowKit Go.Lib
theorem order_any (m n : Nat) (ad1 ad2 : Option Addr) (c1 c2 n1 n2 : Nat) (w : World) (h1 : HoldI w ad1 c1 (digs m)) (h2 : HoldI w ad2 c2 (digs n)) (e1 : (digs m).length = n1) (e2 : (digs n).length = n2) :
 Calls Tryz.prog 131 #[.slice ad1 n1 c1, .slice ad2 n2 c2] w fun e w' => e = .returned (.int .i64 (cmpI m n)) ∧ ∃ k, w' = w.drewN k := by
 have ha := digs_lt m
 have hb := digs_lt n
 have va := valD_digs m
 have vb := valD_digs n
 have l1 := fun h => len_lt (m := m) (n := n) h
 have l2 := fun h => len_lt (m := n) (n := m) h
 obtain ⟨a, hae⟩ : ∃ a, digs m = a := ⟨_, rfl⟩
 obtain ⟨b, hbe⟩ : ∃ b, digs n = b := ⟨_, rfl⟩
 rw [hae] at ha va h1 e1 l1 l2
 rw [hbe] at hb vb h2 e2 l1 l2
 rw [e1, e2] at l1 l2
 have hlen1 : n1 ≤ 1099511627776 := by have := h1.2.1; omega
 have hlen2 : n2 ≤ 1099511627776 := by have := h2.2.1; omega
 obtain ⟨R, hR⟩ : ∃ R, cmpI m n = R := ⟨_, rfl⟩
 rw [hR]
 have hlt : m < n → R = -1 := fun h => by rw [← hR]; unfold cmpI; rw [if_pos h]
 have hgt : n < m → R = 1 := fun h => by rw [← hR]; unfold cmpI; rw [if_neg (by omega), if_pos h]
 have heq : m = n → R = 0 := fun h => by rw [← hR]; unfold cmpI; rw [if_neg (by omega), if_neg (by omega)]
 have HA := hid ha; have HB := hid hb; have VA := hid va; have VB := hid vb; have H1 := hid h1; have H2 := hid h2; have E1 := hid e1; have E2 := hid e2; have LT := hid hlt; have GT := hid hgt; have EQ := hid heq
 clear ha hb va vb h1 h2 e1 e2 hlt hgt heq hR hae hbe
 by_cases hnn : n1 = n2
 · subst hnn
   have hz : ((n1 : Int) != (n1 : Int)) = false := by simp
   clear l1 l2
   go_enter Tryz.func131, Tryz.ntmps131
   go_wp2_with fail
   go_loopw [5] (fun i wr => ∃ k : Nat, k ≤ n1 ∧ i = .int .i64 ((k : Int) - 1) ∧ Hid (a.drop k = b.drop k) ∧ ∃ q, wr = w.drewN q) (fun i _ => (RowKit.intOf i + 1).toNat)
   case atStart => exact ⟨n1, Nat.le_refl _, rfl, (by rw [List.drop_of_length_le (by rw [E1.out]; omega), List.drop_of_length_le (by rw [E2.out]; omega)] : a.drop n1 = b.drop n1), 0, rfl⟩
   obtain ⟨k, hk, rfl, hdr, q, rfl⟩ := hrel
   by_cases hk0 : k = 0
   · subst hk0
     have hneg : ¬ (0 : Int) ≤ ((0 : Nat) : Int) - 1 := by omega
     have hmn : R = 0 := EQ.out (by rw [← VA.out, ← VB.out]; have := hdr.out; rw [List.drop_zero, List.drop_zero] at this; rw [this])
     have HMN := hid hmn
     clear hmn
     go_wp2_with fail
     go_ret
     exact ⟨ret_w HMN.out.symm, q, rfl⟩
   obtain ⟨j, rfl⟩ : ∃ j, k = j + 1 := ⟨k - 1, by omega⟩
   have hj : (((j + 1 : Nat) : Int) - 1) = (j : Int) := by omega
   rw [hj]
   have hj0 : (0 : Int) ≤ (j : Int) := by omega
   have hj1 : (j : Int) < (n1 : Int) := by omega
   have ja : j < a.length := by rw [E1.out]; omega
   have jb : j < b.length := by rw [E2.out]; omega
   obtain ⟨g1, o1, rfl, hg1, hs1⟩ := H1.out.at (by omega)
   obtain ⟨g2, o2, rfl, hg2, hs2⟩ := H2.out.at (by omega)
   have c1' := hs1 j ja
   have c2' := hs2 j jb
   have tlt := top_lt HA.out j ja jb hdr.out
   have tgt := top_lt HB.out j jb ja hdr.out.symm
   have hnx := drop_next j ja jb hdr.out
   rw [VA.out, VB.out] at tlt tgt
   obtain ⟨x, hx⟩ : ∃ x, a.getD j 0 = x := ⟨_, rfl⟩
   obtain ⟨y, hy⟩ : ∃ y, b.getD j 0 = y := ⟨_, rfl⟩
   rw [hx] at c1' tlt tgt hnx
   rw [hy] at c2' tlt tgt hnx
   have j1 := fun w => atI g1 o1 n1 c1 j (j : Int) rfl (by omega) w
   have j2 := fun w => atI g2 o2 n1 c2 j (j : Int) rfl (by omega) w
   have TL := hid tlt; have TG := hid tgt; have NX := hid hnx
   clear tlt tgt hnx hx hy hs1 hs2 ja jb hk0
   by_cases hxy : x = y
   · have e1 : ((x : Int) != (y : Int)) = false := by rw [bne_eq_false_iff_eq]; omega
     have HXY := hid hxy
     clear hxy
     go_wp2_with fail
     go_quiet (fail)
     go_wp2
     go_roundw
     case rel => exact ⟨j, by omega, by go_num, NX.out HXY.out, q + nq, rfl⟩
     case measure => simp [RowKit.intOf]
   have e1 : ((x : Int) != (y : Int)) = true := by rw [bne_iff_ne]; omega
   by_cases hxl : x < y
   · have hxl2 : (x : Int) < (y : Int) := by omega
     have hr := LT.out (TL.out hxl)
     have HRR := hid hr
     clear hr hxy
     go_wp2_with fail
     go_quiet (fail)
     go_wp2_with fail
     go_quiet (fail)
     go_wp2
     go_ret
     exact ⟨ret_w HRR.out.symm, dr2 _ _ _ _⟩
   have hxl2 : ¬ (x : Int) < (y : Int) := by omega
   have hr := GT.out (TG.out (by omega))
   have HRR := hid hr
   clear hr hxy
   go_wp2_with fail
   go_quiet (fail)
   go_wp2_with fail
   go_quiet (fail)
   go_wp2
   go_ret
   exact ⟨ret_w HRR.out.symm, dr2 _ _ _ _⟩
 have hz : ((n1 : Int) != (n2 : Int)) = true := by rw [bne_iff_ne]; omega
 by_cases hl : n1 < n2
 · have hl2 : (n1 : Int) < (n2 : Int) := by omega
   have hr := LT.out (l1 hl)
   have HRR := hid hr
   clear hr l1 l2
   go_enter Tryz.func131, Tryz.ntmps131
   go_wp2_with fail
   go_ret
   exact ⟨ret_w HRR.out.symm, 0, rfl⟩
 have hl2 : ¬ (n1 : Int) < (n2 : Int) := by omega
 have hr := GT.out (l2 (by omega))
 have HRR := hid hr
 clear hr l1 l2
 go_enter Tryz.func131, Tryz.ntmps131
 go_wp2_with fail
 go_ret
 exact ⟨ret_w HRR.out.symm, 0, rfl⟩
end Go.Proofs.YtcglcgphgahnpaaGreatDoor
namespace Go.Proofs.YtcglcgphgahnpaaGreatDoor
open Go Go.Proofs Go.RowKit Go.Lib
theorem plus_any (m n : Nat) (ad1 ad2 : Option Addr) (c1 c2 n1 n2 : Nat) (w : World) (h1 : HoldI w ad1 c1 (digs m)) (h2 : HoldI w ad2 c2 (digs n)) (e1 : (digs m).length = n1) (e2 : (digs n).length = n2) (hn1 : n1 ≤ 1000) (hn2 : n2 ≤ 1000) :
 Calls Tryz.prog 129 #[.slice ad1 n1 c1, .slice ad2 n2 c2] w (IntsPost w (digs (m + n))) := by
 have ha := digs_lt m
 have hb := digs_lt n
 have hca := digs_canon m
 have hcb := digs_canon n
 have va := valD_digs m
 have vb := valD_digs n
 have ba := valD_lt ha
 have bb := valD_lt hb
 obtain ⟨a, hae⟩ : ∃ a, digs m = a := ⟨_, rfl⟩
 obtain ⟨b, hbe⟩ : ∃ b, digs n = b := ⟨_, rfl⟩
 rw [hae] at ha va h1 e1 hca ba
 rw [hbe] at hb vb h2 e2 hcb bb
 rw [e1] at ba
 rw [e2] at bb
 obtain ⟨K, hK⟩ : ∃ K, K = 1000 := ⟨_, rfl⟩
 have ba' : valD a < 10 ^ K := Nat.lt_of_lt_of_le ba (Nat.pow_le_pow_right (by decide) (by omega))
 have bb' : valD b < 10 ^ K := Nat.lt_of_lt_of_le bb (Nat.pow_le_pow_right (by decide) (by omega))
 obtain ⟨S, hS⟩ : ∃ S, m + n = S := ⟨_, rfl⟩
 have hSl : valD a + valD b = S := by rw [va, vb, hS]
 rw [hS]
 have HA := hid ha; have HB := hid hb; have H1 := hid h1; have H2 := hid h2; have E1 := hid e1; have E2 := hid e2; have CA := hid hca; have CB := hid hcb; have BA := hid ba'; have BB := hid bb'; have HS := hid hSl
 clear ha hb va vb h1 h2 e1 e2 hca hcb hae hbe ba bb ba' bb' hS hSl
 go_enter Tryz.func129, Tryz.ntmps129
 go_wp2_with fail
 go_loopw [5, 6, 7] (fun v c i wr => ∃ (out : List Nat) (k q : Nat), i = .int .i64 k ∧ c = .int .i64 q ∧ Hid (PlusInv a b out q k) ∧ Hid (OwnI wr w.heap.size v out) ∧ Hid (Below w.heap.size w wr)) (fun _ _ i _ => 2000 - (RowKit.intOf i).toNat)
 case atStart => exact ⟨[], 0, 0, rfl, rfl, plus_start a b, OwnI.nil _ _, Below.refl _ _⟩
 obtain ⟨out, k, q, rfl, rfl, hinv, hown, hbr⟩ := hrel
 have hkb := plus_bound hinv.out BA.out BB.out
 have hq1 := hinv.out.2.2.1
 by_cases hA : k < n1
 · have hA2 : (k : Int) < (n1 : Int) := by omega
   by_cases hB : k < n2
   · have hB2 : (k : Int) < (n2 : Int) := by omega
     have hbw : Below w.heap.size w wr := hbr.out
     have ka : k < a.length := by rw [E1.out]; exact hA
     obtain ⟨g1, o1, rfl, hg1, hs1⟩ := H1.out.at (by omega)
     have ca := (hs1.below hbw hg1) k ka
     have xl := getD_dig HA.out k
     have j1 := fun w => atI g1 o1 n1 c1 k (k : Int) rfl (by omega) w
     have kb : k < b.length := by rw [E2.out]; exact hB
     obtain ⟨g2, o2, rfl, hg2, hs2⟩ := H2.out.at (by omega)
     have cb := (hs2.below hbw hg2) k kb
     have yl := getD_dig HB.out k
     have j2 := fun w => atI g2 o2 n2 c2 k (k : Int) rfl (by omega) w
     have hst := plus_step HA.out HB.out CA.out CB.out hinv.out (.inl (by rw [E1.out]; exact hA))
     obtain ⟨x, hx⟩ : ∃ x, a.getD k 0 = x := ⟨_, rfl⟩
     rw [hx] at ca xl hst
     obtain ⟨y, hy⟩ : ∃ y, b.getD k 0 = y := ⟨_, rfl⟩
     rw [hy] at cb yl hst
     obtain ⟨d, hd⟩ : ∃ d, (q + x + y) % 10 = d := ⟨_, rfl⟩
     obtain ⟨c', hc'⟩ : ∃ d, (q + x + y) / 10 = d := ⟨_, rfl⟩
     rw [hd, hc'] at hst
     have hdi : ((q : Int) + (x : Int) + (y : Int)) % 10 = (d : Int) := by omega
     have hci : ((q : Int) + (x : Int) + (y : Int)) / 10 = (c' : Int) := by omega
     have hol : out.length + 1 ≤ 17592186044416 := by have := hinv.out.1; omega
     have hsize := hbr.out.size
     have HST := hid hst; have HDI := hid hdi; have HCI := hid hci
     clear hst hdi hci hd hc' hbw hinv hx ka hs1 hy kb hs2
     go_wp2_with (first | (at_builtin; refine walk_pushI (w0 := w) rfl _ _ rfl w.heap.size _ out [d] rfl (hown.out.alloc _) (hbr.out.alloc hsize _) (Nat.le_trans hsize (by simp)) wr.heap.size 0 1 1 rfl rfl (new_num1 .i64 wr _ d HDI.out _) hol ?_; intro v3 W3 ho3 hb3))
     go_roundw
     case rel => exact ⟨out ++ [d], k + 1, c', by go_num, congrArg (Value.int .i64) HCI.out, HST.out, ho3, hb3⟩
     case measure => simp [RowKit.intOf]; omega
   have hB2 : ¬ (k : Int) < (n2 : Int) := by omega
   have hbw : Below w.heap.size w wr := hbr.out
   have ka : k < a.length := by rw [E1.out]; exact hA
   obtain ⟨g1, o1, rfl, hg1, hs1⟩ := H1.out.at (by omega)
   have ca := (hs1.below hbw hg1) k ka
   have xl := getD_dig HA.out k
   have j1 := fun w => atI g1 o1 n1 c1 k (k : Int) rfl (by omega) w
   have yz : b.getD k 0 = 0 := by rw [List.getD_eq_getElem?_getD, List.getElem?_eq_none (by rw [E2.out]; omega)]; rfl
   have hst := plus_step HA.out HB.out CA.out CB.out hinv.out (.inl (by rw [E1.out]; exact hA))
   obtain ⟨x, hx⟩ : ∃ x, a.getD k 0 = x := ⟨_, rfl⟩
   rw [hx] at ca xl hst
   rw [yz, Nat.add_zero] at hst
   obtain ⟨d, hd⟩ : ∃ d, (q + x) % 10 = d := ⟨_, rfl⟩
   obtain ⟨c', hc'⟩ : ∃ d, (q + x) / 10 = d := ⟨_, rfl⟩
   rw [hd, hc'] at hst
   have hdi : ((q : Int) + (x : Int)) % 10 = (d : Int) := by omega
   have hci : ((q : Int) + (x : Int)) / 10 = (c' : Int) := by omega
   have hol : out.length + 1 ≤ 17592186044416 := by have := hinv.out.1; omega
   have hsize := hbr.out.size
   have HST := hid hst; have HDI := hid hdi; have HCI := hid hci
   clear hst hdi hci hd hc' hbw hinv hx ka hs1 yz
   go_wp2_with (first | (at_builtin; refine walk_pushI (w0 := w) rfl _ _ rfl w.heap.size _ out [d] rfl (hown.out.alloc _) (hbr.out.alloc hsize _) (Nat.le_trans hsize (by simp)) wr.heap.size 0 1 1 rfl rfl (new_num1 .i64 wr _ d HDI.out _) hol ?_; intro v3 W3 ho3 hb3))
   go_roundw
   case rel => exact ⟨out ++ [d], k + 1, c', by go_num, congrArg (Value.int .i64) HCI.out, HST.out, ho3, hb3⟩
   case measure => simp [RowKit.intOf]; omega
 have hA2 : ¬ (k : Int) < (n1 : Int) := by omega
 by_cases hB : k < n2
 · have hB2 : (k : Int) < (n2 : Int) := by omega
   have hbw : Below w.heap.size w wr := hbr.out
   have xz : a.getD k 0 = 0 := by rw [List.getD_eq_getElem?_getD, List.getElem?_eq_none (by rw [E1.out]; omega)]; rfl
   have kb : k < b.length := by rw [E2.out]; exact hB
   obtain ⟨g2, o2, rfl, hg2, hs2⟩ := H2.out.at (by omega)
   have cb := (hs2.below hbw hg2) k kb
   have yl := getD_dig HB.out k
   have j2 := fun w => atI g2 o2 n2 c2 k (k : Int) rfl (by omega) w
   have hst := plus_step HA.out HB.out CA.out CB.out hinv.out (.inr (.inl (by rw [E2.out]; exact hB)))
   rw [xz, Nat.add_zero] at hst
   obtain ⟨y, hy⟩ : ∃ y, b.getD k 0 = y := ⟨_, rfl⟩
   rw [hy] at cb yl hst
   obtain ⟨d, hd⟩ : ∃ d, (q + y) % 10 = d := ⟨_, rfl⟩
   obtain ⟨c', hc'⟩ : ∃ d, (q + y) / 10 = d := ⟨_, rfl⟩
   rw [hd, hc'] at hst
   have hdi : ((q : Int) + (y : Int)) % 10 = (d : Int) := by omega
   have hci : ((q : Int) + (y : Int)) / 10 = (c' : Int) := by omega
   have hol : out.length + 1 ≤ 17592186044416 := by have := hinv.out.1; omega
   have hsize := hbr.out.size
   have HST := hid hst; have HDI := hid hdi; have HCI := hid hci
   clear hst hdi hci hd hc' hbw hinv xz hy kb hs2
   go_wp2_with (first | (at_builtin; refine walk_pushI (w0 := w) rfl _ _ rfl w.heap.size _ out [d] rfl (hown.out.alloc _) (hbr.out.alloc hsize _) (Nat.le_trans hsize (by simp)) wr.heap.size 0 1 1 rfl rfl (new_num1 .i64 wr _ d HDI.out _) hol ?_; intro v3 W3 ho3 hb3))
   go_roundw
   case rel => exact ⟨out ++ [d], k + 1, c', by go_num, congrArg (Value.int .i64) HCI.out, HST.out, ho3, hb3⟩
   case measure => simp [RowKit.intOf]; omega
 have hB2 : ¬ (k : Int) < (n2 : Int) := by omega
 by_cases hq : 0 < q
 · have hq2 : (0 : Int) < (q : Int) := by omega
   have hbw : Below w.heap.size w wr := hbr.out
   have xz : a.getD k 0 = 0 := by rw [List.getD_eq_getElem?_getD, List.getElem?_eq_none (by rw [E1.out]; omega)]; rfl
   have yz : b.getD k 0 = 0 := by rw [List.getD_eq_getElem?_getD, List.getElem?_eq_none (by rw [E2.out]; omega)]; rfl
   have hst := plus_step HA.out HB.out CA.out CB.out hinv.out (.inr (.inr hq))
   rw [xz, Nat.add_zero] at hst
   rw [yz, Nat.add_zero] at hst
   obtain ⟨d, hd⟩ : ∃ d, q % 10 = d := ⟨_, rfl⟩
   obtain ⟨c', hc'⟩ : ∃ d, q / 10 = d := ⟨_, rfl⟩
   rw [hd, hc'] at hst
   have hdi : (q : Int) % 10 = (d : Int) := by omega
   have hci : (q : Int) / 10 = (c' : Int) := by omega
   have hol : out.length + 1 ≤ 17592186044416 := by have := hinv.out.1; omega
   have hsize := hbr.out.size
   have HST := hid hst; have HDI := hid hdi; have HCI := hid hci
   clear hst hdi hci hd hc' hbw hinv xz yz
   go_wp2_with (first | (at_builtin; refine walk_pushI (w0 := w) rfl _ _ rfl w.heap.size _ out [d] rfl (hown.out.alloc _) (hbr.out.alloc hsize _) (Nat.le_trans hsize (by simp)) wr.heap.size 0 1 1 rfl rfl (new_num1 .i64 wr _ d HDI.out _) hol ?_; intro v3 W3 ho3 hb3))
   go_roundw
   case rel => exact ⟨out ++ [d], k + 1, c', by go_num, congrArg (Value.int .i64) HCI.out, HST.out, ho3, hb3⟩
   case measure => simp [RowKit.intOf]; omega
 have hq0 : q = 0 := by omega
 subst hq0
 have hfin := plus_end hinv.out (by rw [E1.out]; omega) (by rw [E2.out]; omega)
 rw [HS.out] at hfin
 have hol : out.length ≤ 1099511627776 := by have := hinv.out.1; omega
 subst hfin
 have HO := hid hol
 clear hinv hol
 go_wp2_with fail
 go_ret
 exact ints_of_own hown.out hbr.out HO.out
end Go.Proofs.YtcglcgphgahnpaaGreatDoor
namespace Go.Proofs.YtcglcgphgahnpaaGreatDoor
open Go Go.Proofs Go.RowKit Go.Lib
theorem minus_any (m n : Nat) (hmn : n ≤ m) (ad1 ad2 : Option Addr) (c1 c2 n1 n2 : Nat) (w : World) (h1 : HoldI w ad1 c1 (digs m)) (h2 : HoldI w ad2 c2 (digs n)) (e1 : (digs m).length = n1) (e2 : (digs n).length = n2) :
 Calls Tryz.prog 130 #[.slice ad1 n1 c1, .slice ad2 n2 c2] w (IntsPost w (digs (m - n))) := by
 have ha := digs_lt m
 have hb := digs_lt n
 have va := valD_digs m
 have vb := valD_digs n
 have hnn : n2 ≤ n1 := by rw [← e1, ← e2]; exact digs_length_mono hmn
 obtain ⟨a, hae⟩ : ∃ a, digs m = a := ⟨_, rfl⟩
 obtain ⟨b, hbe⟩ : ∃ b, digs n = b := ⟨_, rfl⟩
 rw [hae] at ha va h1 e1
 rw [hbe] at hb vb h2 e2
 have hle : valD b ≤ valD a := by rw [va, vb]; exact hmn
 have hn1 : n1 ≤ 1099511627776 := by have := h1.2.1; omega
 obtain ⟨S, hS⟩ : ∃ S, m - n = S := ⟨_, rfl⟩
 have hSl : valD a - valD b = S := by rw [va, vb, hS]
 rw [hS]
 have HA := hid ha; have HB := hid hb; have H1 := hid h1; have H2 := hid h2; have E1 := hid e1; have E2 := hid e2; have HLE := hid hle; have HS := hid hSl
 clear ha hb va vb h1 h2 e1 e2 hae hbe hS hSl hle hmn
 go_enter Tryz.func130, Tryz.ntmps130
 go_wp2_with fail
 go_loopw [5, 6, 7] (fun v c i wr => ∃ (out : List Nat) (k q : Nat), k ≤ n1 ∧ i = .int .i64 k ∧ c = .int .i64 q ∧ Hid (MinusInv a b out q k) ∧ Hid (OwnI wr w.heap.size v out) ∧ Hid (Below w.heap.size w wr)) (fun _ _ i _ => n1 - (RowKit.intOf i).toNat)
 case atStart => exact ⟨[], 0, 0, Nat.zero_le _, rfl, rfl, minus_start a b, OwnI.nil _ _, Below.refl _ _⟩
 obtain ⟨out, k, q, hk, rfl, rfl, hinv, hown, hbr⟩ := hrel
 have hq1 := hinv.out.2.2.1
 by_cases hA : k < n1
 · have hA2 : (k : Int) < (n1 : Int) := by omega
   have hbw : Below w.heap.size w wr := hbr.out
   have ka : k < a.length := by rw [E1.out]; exact hA
   obtain ⟨g1, o1, rfl, hg1, hs1⟩ := H1.out.at (by omega)
   have ca := (hs1.below hbw hg1) k ka
   have xl := getD_dig HA.out k
   have j1 := fun w => atI g1 o1 n1 c1 k (k : Int) rfl (by omega) w
   have hst := fun d c' hs => minus_step HA.out HB.out hinv.out d c' hs
   have hol : out.length + 1 ≤ 17592186044416 := by have := hinv.out.1; omega
   have hsize := hbr.out.size
   obtain ⟨x, hx⟩ : ∃ x, a.getD k 0 = x := ⟨_, rfl⟩
   rw [hx] at ca xl hst
   by_cases hB : k < n2
   · have hB2 : (k : Int) < (n2 : Int) := by omega
     have kb : k < b.length := by rw [E2.out]; exact hB
     obtain ⟨g2, o2, rfl, hg2, hs2⟩ := H2.out.at (by omega)
     have cb := (hs2.below hbw hg2) k kb
     have yl := getD_dig HB.out k
     have j2 := fun w => atI g2 o2 n2 c2 k (k : Int) rfl (by omega) w
     obtain ⟨y, hy⟩ : ∃ y, b.getD k 0 = y := ⟨_, rfl⟩
     rw [hy] at cb yl hst
     by_cases hn : x < q + y
     · obtain ⟨d, hd⟩ : ∃ d, x + 10 - q - y = d := ⟨_, rfl⟩
       have hst2 := hst d 1 (.inr ⟨by omega, hd.symm, rfl⟩)
       have hng : (x : Int) - (q : Int) - (y : Int) < 0 := by omega
       have hdi : (x : Int) - (q : Int) - (y : Int) + 10 = (d : Int) := by omega
       have HST := hid hst2; have HDI := hid hdi
       clear hst hst2 hdi hd hbw hinv hx ka hs1 hy kb hs2
       go_wp2_with (first | (at_builtin; refine walk_pushI (w0 := w) rfl _ _ rfl w.heap.size _ out [d] rfl (hown.out.alloc _) (hbr.out.alloc hsize _) (Nat.le_trans hsize (by simp)) wr.heap.size 0 1 1 rfl rfl (new_num1 .i64 wr _ d HDI.out _) hol ?_; intro v3 W3 ho3 hb3))
       go_roundw
       case rel => exact ⟨out ++ [d], k + 1, 1, by omega, by go_num, rfl, HST.out, ho3, hb3⟩
       case measure => simp [RowKit.intOf]; omega
     obtain ⟨d, hd⟩ : ∃ d, x - q - y = d := ⟨_, rfl⟩
     have hst2 := hst d 0 (.inl ⟨by omega, hd.symm, rfl⟩)
     have hng : ¬ (x : Int) - (q : Int) - (y : Int) < 0 := by omega
     have hdi : (x : Int) - (q : Int) - (y : Int) = (d : Int) := by omega
     have HST := hid hst2; have HDI := hid hdi
     clear hst hst2 hdi hd hbw hinv hx ka hs1 hy kb hs2
     go_wp2_with (first | (at_builtin; refine walk_pushI (w0 := w) rfl _ _ rfl w.heap.size _ out [d] rfl (hown.out.alloc _) (hbr.out.alloc hsize _) (Nat.le_trans hsize (by simp)) wr.heap.size 0 1 1 rfl rfl (new_num1 .i64 wr _ d HDI.out _) hol ?_; intro v3 W3 ho3 hb3))
     go_roundw
     case rel => exact ⟨out ++ [d], k + 1, 0, by omega, by go_num, rfl, HST.out, ho3, hb3⟩
     case measure => simp [RowKit.intOf]; omega
   have hB2 : ¬ (k : Int) < (n2 : Int) := by omega
   have yz : b.getD k 0 = 0 := by rw [List.getD_eq_getElem?_getD, List.getElem?_eq_none (by rw [E2.out]; omega)]; rfl
   rw [yz] at hst
   by_cases hn : x < q
   · obtain ⟨d, hd⟩ : ∃ d, x + 10 - q - 0 = d := ⟨_, rfl⟩
     have hst2 := hst d 1 (.inr ⟨by omega, hd.symm, rfl⟩)
     have hng : (x : Int) - (q : Int) < 0 := by omega
     have hdi : (x : Int) - (q : Int) + 10 = (d : Int) := by omega
     have HST := hid hst2; have HDI := hid hdi
     clear hst hst2 hdi hd hbw hinv hx ka hs1 yz
     go_wp2_with (first | (at_builtin; refine walk_pushI (w0 := w) rfl _ _ rfl w.heap.size _ out [d] rfl (hown.out.alloc _) (hbr.out.alloc hsize _) (Nat.le_trans hsize (by simp)) wr.heap.size 0 1 1 rfl rfl (new_num1 .i64 wr _ d HDI.out _) hol ?_; intro v3 W3 ho3 hb3))
     go_roundw
     case rel => exact ⟨out ++ [d], k + 1, 1, by omega, by go_num, rfl, HST.out, ho3, hb3⟩
     case measure => simp [RowKit.intOf]; omega
   obtain ⟨d, hd⟩ : ∃ d, x - q - 0 = d := ⟨_, rfl⟩
   have hst2 := hst d 0 (.inl ⟨by omega, hd.symm, rfl⟩)
   have hng : ¬ (x : Int) - (q : Int) < 0 := by omega
   have hdi : (x : Int) - (q : Int) = (d : Int) := by omega
   have HST := hid hst2; have HDI := hid hdi
   clear hst hst2 hdi hd hbw hinv hx ka hs1 yz
   go_wp2_with (first | (at_builtin; refine walk_pushI (w0 := w) rfl _ _ rfl w.heap.size _ out [d] rfl (hown.out.alloc _) (hbr.out.alloc hsize _) (Nat.le_trans hsize (by simp)) wr.heap.size 0 1 1 rfl rfl (new_num1 .i64 wr _ d HDI.out _) hol ?_; intro v3 W3 ho3 hb3))
   go_roundw
   case rel => exact ⟨out ++ [d], k + 1, 0, by omega, by go_num, rfl, HST.out, ho3, hb3⟩
   case measure => simp [RowKit.intOf]; omega
 have hA2 : ¬ (k : Int) < (n1 : Int) := by omega
 have hk1 : k = a.length := by rw [E1.out]; omega
 have hkn : k = n1 := by omega
 have hinv2 := hinv.out
 rw [hk1] at hinv2
 have hfin := minus_end HB.out hinv2 HLE.out (by rw [E1.out, E2.out]; exact hnn)
 rw [HS.out] at hfin
 have hod : IsDig out := hinv2.2.1
 have hol : out.length = n1 := by rw [hinv2.1]; exact E1.out
 have htk := trimD_take n1 hol hod
 rw [hfin] at htk
 obtain ⟨ad, cap, rfl, hh, hnew⟩ := own_hold hown.out n1 hol hn1
 have c := trim_any out hod ad cap wr hh n1 hol
 rw [hfin] at c
 have hh2 := hh.take (digs S).length
 rw [← htk] at hh2
 have C := hid c; have HH2 := hid hh2; have HNEW := hid hnew
 clear c hh hh2 hnew htk hod hol hfin hinv2 hinv hk1 hkn hown
 go_wp2_with fail
 refine C.out.mono ?_
 rintro e W1 ⟨rfl, rfl⟩
 go_wp2
 go_ret
 exact ⟨ad, cap, rfl, HH2.out, hbr.out, HNEW.out⟩
end Go.Proofs.YtcglcgphgahnpaaGreatDoor
namespace Go.Proofs.YtcglcgphgahnpaaGreatDoor
open Go Go.Proofs Go.RowKit Go.Lib
theorem checked_any (neg : Bool) (n : Nat) (ad : Option Addr) (cap m : Nat) (w : World) (h : HoldI w ad cap (digs n)) (hm : (digs n).length = m) :
 Calls Tryz.prog 126 #[.bool neg, .slice ad m cap] w fun e w' => e = .returned (.tuple #[.string (resT (intD neg n)), .int .i64 (resZ (intD neg n))]) ∧ Below w.heap.size w w' := by
 have c := text_any neg n ad cap m w h hm
 have hf := fits_iff hm
 have hr1 : m ≤ 200 → resT (intD neg n) = textI (intD neg n) ∧ resZ (intD neg n) = 0 := fun h => by
  unfold resT resZ; rw [intD_abs, if_pos (hf.1 h), if_pos (hf.1 h)]; exact ⟨rfl, rfl⟩
 have hr2 : ¬ m ≤ 200 → resT (intD neg n) = ByteArray.empty ∧ resZ (intD neg n) = 30 := fun h => by
  unfold resT resZ; rw [intD_abs, if_neg (fun hx => h (hf.2 hx)), if_neg (fun hx => h (hf.2 hx))]; exact ⟨rfl, rfl⟩
 obtain ⟨T, hT⟩ : ∃ T, textI (intD neg n) = T := ⟨_, rfl⟩
 obtain ⟨U, hU⟩ : ∃ T, resT (intD neg n) = T := ⟨_, rfl⟩
 obtain ⟨Z, hZ⟩ : ∃ T, resZ (intD neg n) = T := ⟨_, rfl⟩
 rw [hT] at c hr1
 rw [hU, hZ] at hr1 hr2
 rw [hU, hZ]
 clear hT hU hZ hf h hm
 by_cases hb : m ≤ 200
 · obtain ⟨rfl, rfl⟩ := hr1 hb
   rw [decide_eq_true hb] at c
   have C := hid c
   clear c hr1 hr2
   go_enter Tryz.func126, Tryz.ntmps126
   go_wp2_with fail
   refine C.out.mono ?_
   rintro e w1 ⟨rfl, hb1⟩
   go_wp2
   go_ret2
   exact ⟨rfl, hb1⟩
 obtain ⟨rfl, rfl⟩ := hr2 hb
 rw [decide_eq_false hb] at c
 have C := hid c
 clear c hr1 hr2
 go_enter Tryz.func126, Tryz.ntmps126
 go_wp2_with fail
 refine C.out.mono ?_
 rintro e w1 ⟨rfl, hb1⟩
 go_wp2
 go_ret2
 exact ⟨rfl, hb1⟩
end Go.Proofs.YtcglcgphgahnpaaGreatDoor
namespace Go.Proofs.YtcglcgphgahnpaaGreatDoor
open Go Go.Proofs Go.RowKit Go.Lib
theorem textN_get {n : Nat} (h : n ≠ 0) (j q : Nat) (hq : (digs n).length = q) (hj : j < q) : (textN n).getD j 0 = 48 + (digs n).getD (q - 1 - j) 0 := by
 subst hq
 unfold textN
 rw [if_neg h, List.getD_eq_getElem?_getD, List.getElem?_eq_getElem (by simpa using hj)]
 simp [List.getD_eq_getElem?_getD, show (digs n).length - 1 - j < (digs n).length by omega]
theorem digits_any (x : Int) (hsz : (textI x).size ≤ 1000) (w : World) :
 Calls Tryz.prog 123 #[.string (textI x)] w fun e w' => ∃ ad cap, e = .returned (.tuple #[.bool (decide (x < 0)), .slice ad (digs x.natAbs).length cap]) ∧ HoldI w' ad cap (digs x.natAbs) ∧ Below w.heap.size w w' := by
 obtain ⟨n, hn⟩ : ∃ n, x.natAbs = n := ⟨_, rfl⟩
 have htx : textI x = byteL ((if x < 0 then [45] else []) ++ textN n) := by unfold textI; rw [hn]
 have hlen := byteL_size (textN n)
 have hbb := fun i hi => byteL_get (textN n) (textN_lt n) i hi
 have htd := textN_dig n
 have hz0 : n = 0 → byteL (textN n) = ⟨#[48]⟩ := fun h => by subst h; rfl
 have hnz : n ≠ 0 → byteL (textN n) ≠ ⟨#[48]⟩ := fun h e => by
  have h1 : byteL (textN n) = byteL (textN 0) := e
  exact h (textN_inj (byteL_inj (textN_lt n) (textN_lt 0) h1))
 obtain ⟨R, hR⟩ : ∃ R, byteL (textN n) = R := ⟨_, rfl⟩
 rw [hn]
 by_cases hx : x < 0
 · rw [if_pos hx] at htx
   have hdx : decide (x < 0) = true := decide_eq_true hx
   have hn0 : n ≠ 0 := by omega
   have htx2 : textI x = byteL (45 :: textN n) := htx
   have hex := extract_one (textN n)
   rw [← htx2, hR] at hex
   have hs0 : 0 < (textI x).size := by rw [htx2, byteL_size]; simp
   have hch : ((textI x)[0]'hs0).toNat = 45 := by
    have h45 : ∀ z ∈ 45 :: textN n, z < 256 := by
     intro z hz
     rcases List.mem_cons.1 hz with h | h
     · omega
     exact textN_lt n z h
    have h := byteL_get (45 :: textN n) h45 0 (by rw [byteL_size]; simp)
    simp only [← htx2] at h
    simpa using h
   have hc1 : ((((textI x)[0]'hs0).toNat : Int) == 45) = true := by rw [hch]; rfl
   have hRs : R.size + 1 = (textI x).size := by rw [htx2, byteL_size, ← hR, byteL_size]; simp
   have hsl : ∀ w, (Instr.slice 9 (.string (textI x)) (some (.int .i64 1)) none none).run Tryz.prog w = .ok (.string R) w := fun w => slice_from Tryz.prog 9 Tryz.underlying9 (textI x) 1 (by omega) R hex w
   rw [hdx]
   rw [hR] at hlen hbb hnz
   obtain ⟨S, hS⟩ : ∃ S, textI x = S := ⟨_, rfl⟩
   simp only [hS] at hc1 hsl hsz hs0 hRs hex ⊢
   clear htx htx2 hch hx hdx hn hz0 hR
   have hne1 : (R.toList == (⟨#[48]⟩ : ByteArray).toList) = false := by rw [str_eq_iff, decide_eq_false (hnz hn0)]
   have hne2 : (R.toList != (⟨#[48]⟩ : ByteArray).toList) = true := by rw [bne, hne1]; rfl
   have hne3 : (R.toList == [48]) = false := by rw [← list48]; exact hne1
   have hl := textN_len hn0
   have hg := fun j q hq hj => textN_get hn0 j q hq hj
   have hdl := digs_lt n
   rw [hl] at hlen
   obtain ⟨l, hle⟩ : ∃ l, digs n = l := ⟨_, rfl⟩
   rw [hle] at hlen hg hdl ⊢
   obtain ⟨q, hq⟩ : ∃ q, l.length = q := ⟨_, rfl⟩
   rw [hq] at hlen
   have hgq := fun j (hj : j < q) => hg j q hq hj
   have hch : ∀ j (hj : j < R.size), (R[j]'hj).toNat = 48 + l.getD (q - 1 - j) 0 := fun j hj => by rw [hbb j hj]; exact hgq j (by omega)
   have hq1000 : q ≤ 1000 := by omega
   rw [hq]
   have HCH := hid hch; have HQ := hid hq; have HDL := hid hdl
   clear hg hgq hch hbb hq hl hle hdl hnz htd hn0
   go_enter Tryz.func123, Tryz.ntmps123
   go_wp2_with fail
   go_loopw [5, 6] (fun v i wr => ∃ t : Nat, t ≤ q ∧ i = .int .i64 ((t : Int) - 1) ∧ Hid (OwnI wr w.heap.size v (l.take (q - t))) ∧ Hid (Below w.heap.size w wr)) (fun _ i _ => (RowKit.intOf i + 1).toNat)
   case atStart => exact ⟨q, Nat.le_refl _, by first | rfl | rw [hlen], (by rw [Nat.sub_self, List.take_zero]; exact OwnI.nil _ _ : OwnI w w.heap.size _ (l.take (q - q))), Below.refl _ _⟩
   obtain ⟨t, ht, rfl, hown, hbr⟩ := hrel
   by_cases ht0 : t = 0
   · subst ht0
     have hneg : ¬ (0 : Int) ≤ ((0 : Nat) : Int) - 1 := by omega
     rw [Nat.sub_zero, List.take_of_length_le (by rw [HQ.out]; omega)] at hown
     obtain ⟨ad, cap, rfl, hh⟩ := hown.out.holds q HQ.out (by omega)
     have HH := hid hh
     clear hh hown
     go_wp2_with fail
     go_ret2
     exact ⟨ad, cap, rfl, HH.out, hbr.out⟩
   obtain ⟨j, rfl⟩ : ∃ j, t = j + 1 := ⟨t - 1, by omega⟩
   have hj : (((j + 1 : Nat) : Int) - 1) = (j : Int) := by omega
   rw [hj]
   have hj0 : (0 : Int) ≤ (j : Int) := by omega
   have hjR : j < R.size := by omega
   have hixj := fun w => index_str R j hjR w
   rw [HCH.out j hjR] at hixj
   have hnext := take_snoc l (q - (j + 1)) (by rw [HQ.out]; omega)
   rw [show q - (j + 1) + 1 = q - j by omega, show q - (j + 1) = q - 1 - j by omega] at hnext
   rw [show q - (j + 1) = q - 1 - j by omega] at hown
   have hd10 := getD_dig HDL.out (q - 1 - j)
   obtain ⟨d, hd⟩ : ∃ d, l.getD (q - 1 - j) 0 = d := ⟨_, rfl⟩
   rw [hd] at hixj hnext hd10
   obtain ⟨p, hp⟩ : ∃ p, l.take (q - 1 - j) = p := ⟨_, rfl⟩
   rw [hp] at hown hnext
   have hpl : p.length + 1 ≤ 17592186044416 := by rw [← hp, List.length_take, HQ.out]; omega
   have hsize := hbr.out.size
   have hjs : (j : Int) < (R.size : Int) := by omega
   obtain ⟨y, hy⟩ : ∃ y, 48 + d = y := ⟨_, rfl⟩
   rw [hy] at hixj
   have hw1 : IntKind.u8.wrap ((y : Int) - 48) = (d : Int) := by rw [IntKind.wrap_u8]; omega
   have hw2 : ((y : Int) - 48) % 256 = (d : Int) := by omega
   have hw3 : (y : Int) - 48 = (d : Int) := by omega
   have HN := hid hnext
   clear hnext hd hp hy ht0
   go_wp2_with (first | (at_builtin; refine walk_pushI (w0 := w) rfl _ _ rfl w.heap.size _ p [d] rfl (hown.out.alloc _) (hbr.out.alloc hsize _) (Nat.le_trans hsize (by simp)) wr.heap.size 0 1 1 rfl rfl (new_num1 .i64 wr _ d (by first | rfl | assumption | omega) _) hpl ?_; intro v3 W3 ho3 hb3))
   go_roundw
   case rel => exact ⟨j, by omega, by go_num, by rw [HN.out]; exact ho3, hb3⟩
   case measure => simp [RowKit.intOf]
 rw [if_neg hx, List.nil_append, hR] at htx
 have hdx : decide (x < 0) = false := decide_eq_false hx
 rw [hdx]
 have hRs : R.size ≤ 1000 := by rw [← htx]; exact hsz
 have hs0 : 0 < R.size := by
  rw [← hR, byteL_size]
  exact List.length_pos_iff.2 (textN_ne_nil n)
 have h45 : ((R[0]'hs0).toNat : Int) ≠ 45 := by
  have h := byteL_get (textN n) (textN_lt n) 0 (by rw [hR]; exact hs0)
  simp only [hR] at h
  rw [h, List.getD_eq_getElem?_getD, List.getElem?_eq_getElem (List.length_pos_iff.2 (textN_ne_nil n))]
  have := htd _ (List.getElem_mem (List.length_pos_iff.2 (textN_ne_nil n)))
  simp
  omega
 have hc1 : (((R[0]'hs0).toNat : Int) == 45) = false := by rw [beq_eq_false_iff_ne]; exact h45
 rw [htx]
 rw [hR] at hlen hbb hnz hz0
 clear htx hx hdx hn h45 hR hsz
 by_cases hn0 : n = 0
 · have hR0 := hz0 hn0
   subst hR0
   subst hn0
   have hd0 : (digs 0).length = 0 := rfl
   clear hbb hnz hz0 htd hlen
   go_enter Tryz.func123, Tryz.ntmps123
   go_wp2_with fail
   go_loopw [5, 6] (fun v i wr => v = .slice none 0 0 ∧ i = .int .i64 0 ∧ wr = w) (fun _ _ _ => 0)
   case atStart => exact ⟨rfl, rfl, rfl⟩
   obtain ⟨rfl, rfl, rfl⟩ := hrel
   go_wp2_with fail
   go_ret2
   exact ⟨none, 0, rfl, HoldI.nil _ _ _, Below.refl _ _⟩
 clear hz0
 have hne1 : (R.toList == (⟨#[48]⟩ : ByteArray).toList) = false := by rw [str_eq_iff, decide_eq_false (hnz hn0)]
 have hne2 : (R.toList != (⟨#[48]⟩ : ByteArray).toList) = true := by rw [bne, hne1]; rfl
 have hne3 : (R.toList == [48]) = false := by rw [← list48]; exact hne1
 have hl := textN_len hn0
 have hg := fun j q hq hj => textN_get hn0 j q hq hj
 have hdl := digs_lt n
 rw [hl] at hlen
 obtain ⟨l, hle⟩ : ∃ l, digs n = l := ⟨_, rfl⟩
 rw [hle] at hlen hg hdl ⊢
 obtain ⟨q, hq⟩ : ∃ q, l.length = q := ⟨_, rfl⟩
 rw [hq] at hlen
 have hgq := fun j (hj : j < q) => hg j q hq hj
 have hch : ∀ j (hj : j < R.size), (R[j]'hj).toNat = 48 + l.getD (q - 1 - j) 0 := fun j hj => by rw [hbb j hj]; exact hgq j (by omega)
 have hq1000 : q ≤ 1000 := by omega
 rw [hq]
 have HCH := hid hch; have HQ := hid hq; have HDL := hid hdl
 clear hg hgq hch hbb hq hl hle hdl hnz htd hn0
 go_enter Tryz.func123, Tryz.ntmps123
 go_wp2_with fail
 go_loopw [5, 6] (fun v i wr => ∃ t : Nat, t ≤ q ∧ i = .int .i64 ((t : Int) - 1) ∧ Hid (OwnI wr w.heap.size v (l.take (q - t))) ∧ Hid (Below w.heap.size w wr)) (fun _ i _ => (RowKit.intOf i + 1).toNat)
 case atStart => exact ⟨q, Nat.le_refl _, by first | rfl | rw [hlen], (by rw [Nat.sub_self, List.take_zero]; exact OwnI.nil _ _ : OwnI w w.heap.size _ (l.take (q - q))), Below.refl _ _⟩
 obtain ⟨t, ht, rfl, hown, hbr⟩ := hrel
 by_cases ht0 : t = 0
 · subst ht0
   have hneg : ¬ (0 : Int) ≤ ((0 : Nat) : Int) - 1 := by omega
   rw [Nat.sub_zero, List.take_of_length_le (by rw [HQ.out]; omega)] at hown
   obtain ⟨ad, cap, rfl, hh⟩ := hown.out.holds q HQ.out (by omega)
   have HH := hid hh
   clear hh hown
   go_wp2_with fail
   go_ret2
   exact ⟨ad, cap, rfl, HH.out, hbr.out⟩
 obtain ⟨j, rfl⟩ : ∃ j, t = j + 1 := ⟨t - 1, by omega⟩
 have hj : (((j + 1 : Nat) : Int) - 1) = (j : Int) := by omega
 rw [hj]
 have hj0 : (0 : Int) ≤ (j : Int) := by omega
 have hjR : j < R.size := by omega
 have hixj := fun w => index_str R j hjR w
 rw [HCH.out j hjR] at hixj
 have hnext := take_snoc l (q - (j + 1)) (by rw [HQ.out]; omega)
 rw [show q - (j + 1) + 1 = q - j by omega, show q - (j + 1) = q - 1 - j by omega] at hnext
 rw [show q - (j + 1) = q - 1 - j by omega] at hown
 have hd10 := getD_dig HDL.out (q - 1 - j)
 obtain ⟨d, hd⟩ : ∃ d, l.getD (q - 1 - j) 0 = d := ⟨_, rfl⟩
 rw [hd] at hixj hnext hd10
 obtain ⟨p, hp⟩ : ∃ p, l.take (q - 1 - j) = p := ⟨_, rfl⟩
 rw [hp] at hown hnext
 have hpl : p.length + 1 ≤ 17592186044416 := by rw [← hp, List.length_take, HQ.out]; omega
 have hsize := hbr.out.size
 have hjs : (j : Int) < (R.size : Int) := by omega
 obtain ⟨y, hy⟩ : ∃ y, 48 + d = y := ⟨_, rfl⟩
 rw [hy] at hixj
 have hw1 : IntKind.u8.wrap ((y : Int) - 48) = (d : Int) := by rw [IntKind.wrap_u8]; omega
 have hw2 : ((y : Int) - 48) % 256 = (d : Int) := by omega
 have hw3 : (y : Int) - 48 = (d : Int) := by omega
 have HN := hid hnext
 clear hnext hd hp hy ht0
 go_wp2_with (first | (at_builtin; refine walk_pushI (w0 := w) rfl _ _ rfl w.heap.size _ p [d] rfl (hown.out.alloc _) (hbr.out.alloc hsize _) (Nat.le_trans hsize (by simp)) wr.heap.size 0 1 1 rfl rfl (new_num1 .i64 wr _ d (by first | rfl | assumption | omega) _) hpl ?_; intro v3 W3 ho3 hb3))
 go_roundw
 case rel => exact ⟨j, by omega, by go_num, by rw [HN.out]; exact ho3, hb3⟩
 case measure => simp [RowKit.intOf]
end Go.Proofs.YtcglcgphgahnpaaGreatDoor
namespace Go.Proofs.YtcglcgphgahnpaaGreatDoor
open Go Go.Proofs Go.RowKit Go.Lib
theorem valid_any (s : ByteArray) (hs : s.size ≤ 1099511627776) (w : World) :
 Calls Tryz.prog 113 #[.string s] w fun e w' => e = .returned (.bool (validB s)) ∧ w = w' := by
 by_cases hsg : ∃ h : 0 < s.size, (s[0]'h).toNat = 45
 · obtain ⟨h0, h45⟩ := hsg
   have hc := bytesL_cons s h0
   rw [h45] at hc
   obtain ⟨R, hex⟩ : ∃ R, s.extract 1 s.size = R := ⟨_, rfl⟩
   rw [hex] at hc
   have hval : validB s = (decide (bytesL R ≠ [48]) && plainB (bytesL R)) := by unfold validB; rw [hc]; rfl
   have hRs : R.size + 1 = s.size := by rw [← hex, ByteArray.size_extract]; omega
   have hsl : ∀ w, (Instr.slice 9 (.string s) (some (.int .i64 1)) none none).run Tryz.prog w = .ok (.string R) w := fun w => slice_from Tryz.prog 9 Tryz.underlying9 s 1 (by omega) R hex w
   have hc1 : (((s[0]'h0).toNat : Int) == 45) = true := by rw [h45]; rfl
   have h0i : (0 : Int) < (s.size : Int) := by omega
   have hR40 : R.size ≤ 1099511627776 := by omega
   by_cases hR0 : R = ⟨#[48]⟩
   · have hv : validB s = false := by rw [hval, (bytesL_48 R).2 hR0]; rfl
     subst hR0
     have HV := hid hv
     rw [hv]
     clear hv hval hc h45 hR40
     go_enter Tryz.func113, Tryz.ntmps113
     go_wp2_with fail
     go_ret
     exact ⟨rfl, rfl⟩
   have hv : validB s = plainB (bytesL R) := by
    have hq : decide (bytesL R ≠ [48]) = true := decide_eq_true (fun h => hR0 ((bytesL_48 R).1 h))
    rw [hval, hq, Bool.true_and]
   have hne1 : (R.toList == (⟨#[48]⟩ : ByteArray).toList) = false := by rw [str_eq_iff, decide_eq_false hR0]
   have hne3 : (R.toList == [48]) = false := by rw [← list48]; exact hne1
   rw [hv]
   clear hv hval hc h45
   obtain ⟨B, hB⟩ : ∃ B, plainB (bytesL R) = B := ⟨_, rfl⟩
   rw [hB]
   have HBR := hid hB
   clear hB
   go_enter Tryz.func113, Tryz.ntmps113
   go_wp2_with fail
   go_loop [3] (fun i => ∃ k : Nat, k ≤ R.size ∧ i = .int .i64 k ∧ Hid (∀ j (hj : j < R.size), j < k → 48 ≤ (R[j]'hj).toNat ∧ (R[j]'hj).toNat < 58)) (fun i => R.size - (RowKit.intOf i).toNat)
   case atStart => exact ⟨0, Nat.zero_le _, rfl, (fun j _ h => absurd h (by omega) : ∀ j (hj : j < R.size), j < 0 → 48 ≤ (R[j]'hj).toNat ∧ (R[j]'hj).toNat < 58)⟩
   obtain ⟨k, hk, rfl, hall⟩ := hrel
   by_cases hlt : k < R.size
   · have hk1 : (k : Int) < (R.size : Int) := by omega
     have hix := fun w => index_str R k hlt w
     have hbad := plain_bad k hlt
     have hnx : 48 ≤ (R[k]'hlt).toNat ∧ (R[k]'hlt).toNat < 58 → ∀ j (hj : j < R.size), j < k + 1 → 48 ≤ (R[j]'hj).toNat ∧ (R[j]'hj).toNat < 58 := fun hx j hj hjk => by
      by_cases h : j = k
      · subst h; exact hx
      exact hall.out j hj (by omega)
     obtain ⟨x, hx⟩ : ∃ x, (R[k]'hlt).toNat = x := ⟨_, rfl⟩
     rw [hx] at hix hbad hnx
     have HB := hid hbad; have HNX := hid hnx
     clear hbad hnx hx
     by_cases h1 : x < 48
     · have a1 : (x : Int) < 48 := by omega
       have a2 : decide ((x : Int) < 48) = true := decide_eq_true a1
       have a3 : decide (x < 48) = true := decide_eq_true h1
       have hbf : false = B := by rw [← HBR.out, HB.out (.inl h1)]
       have HBF := hid hbf
       clear hbf
       go_wp2_with fail
       go_ret
       exact ⟨ret_bool HBF.out, rfl⟩
     have a1 : ¬ (x : Int) < 48 := by omega
     have a2 : decide ((x : Int) < 48) = false := decide_eq_false a1
     have a3 : decide (x < 48) = false := decide_eq_false h1
     by_cases h2 : 57 < x
     · have c1 : (57 : Int) < (x : Int) := by omega
       have c2 : decide ((57 : Int) < (x : Int)) = true := decide_eq_true c1
       have c3 : decide (57 < x) = true := decide_eq_true h2
       have hbf : false = B := by rw [← HBR.out, HB.out (.inr h2)]
       have HBF := hid hbf
       clear hbf
       go_wp2_with fail
       go_ret
       exact ⟨ret_bool HBF.out, rfl⟩
     have c1 : ¬ (57 : Int) < (x : Int) := by omega
     have c2 : decide ((57 : Int) < (x : Int)) = false := decide_eq_false c1
     have c3 : decide (57 < x) = false := decide_eq_false h2
     have HX := hid (show 48 ≤ x ∧ x < 58 by omega)
     go_wp2_with fail
     go_round
     case rel => exact ⟨k + 1, by omega, by go_num, HNX.out HX.out⟩
     case measure => simp [RowKit.intOf]; omega
   have hk1 : ¬ (k : Int) < (R.size : Int) := by omega
   have hgood := plain_good (s := R) (fun j hj => hall.out j hj (by omega))
   by_cases z0 : 0 < R.size
   · have d0 : (0 : Int) < (R.size : Int) := by omega
     have d1 : decide ((0 : Int) < (R.size : Int)) = true := decide_eq_true d0
     have d2 : decide (0 < R.size) = true := decide_eq_true z0
     by_cases z2 : R.size ≤ 200
     · have f0 : (R.size : Int) ≤ 200 := by omega
       have f1 : decide ((R.size : Int) ≤ 200) = true := decide_eq_true f0
       have f2 : decide (R.size ≤ 200) = true := decide_eq_true z2
       rw [decide_eq_true (show 0 < R.size ∧ R.size ≤ 200 from ⟨z0, z2⟩), Bool.true_and] at hgood
       by_cases z3 : R = ⟨#[48]⟩
       · exact absurd z3 hR0
       have e1 : (R.toList == (⟨#[48]⟩ : ByteArray).toList) = false := by rw [str_eq_iff, decide_eq_false z3]
       have e3 : (R.toList == [48]) = false := by rw [← list48]; exact e1
       rw [decide_eq_false (fun h => z3 ((bytesL_48 R).1 h)), Bool.false_or] at hgood
       by_cases z4 : (R[0]'z0).toNat = 48
       · have g1 : (((R[0]'z0).toNat : Int) != 48) = false := by rw [bne_eq_false_iff_eq]; omega
         have g2 : (((R[0]'z0).toNat : Int) == 48) = true := by rw [beq_iff_eq]; omega
         rw [decide_eq_false (fun h => (head48 R z0).1 h z4)] at hgood
         have hbf := HBR.out
         rw [hgood] at hbf
         have HBF := hid hbf
         clear hbf
         clear hgood z3 z4
         go_wp2_with fail
         go_ret
         first
          | exact ⟨ret_bool HBF.out, rfl⟩
          | exact ⟨ret_bool (g1.trans HBF.out), rfl⟩
       have g1 : (((R[0]'z0).toNat : Int) != 48) = true := by rw [bne_iff_ne]; omega
       have g2 : (((R[0]'z0).toNat : Int) == 48) = false := by rw [beq_eq_false_iff_ne]; omega
       rw [decide_eq_true ((head48 R z0).2 z4)] at hgood
       have hbf := HBR.out
       rw [hgood] at hbf
       have HBF := hid hbf
       clear hbf
       clear hgood z3 z4
       go_wp2_with fail
       go_ret
       first
        | exact ⟨ret_bool HBF.out, rfl⟩
        | exact ⟨ret_bool (g1.trans HBF.out), rfl⟩
     have f0 : ¬ (R.size : Int) ≤ 200 := by omega
     have f1 : decide ((R.size : Int) ≤ 200) = false := decide_eq_false f0
     have f2 : decide (R.size ≤ 200) = false := decide_eq_false z2
     rw [decide_eq_false (show ¬ (0 < R.size ∧ R.size ≤ 200) from fun h => z2 h.2), Bool.false_and] at hgood
     have hbf := HBR.out
     rw [hgood] at hbf
     have HBF := hid hbf
     clear hbf
     clear hgood
     go_wp2_with fail
     go_ret
     exact ⟨ret_bool HBF.out, rfl⟩
   have d0 : ¬ (0 : Int) < (R.size : Int) := by omega
   have d1 : decide ((0 : Int) < (R.size : Int)) = false := decide_eq_false d0
   have d2 : decide (0 < R.size) = false := decide_eq_false z0
   rw [decide_eq_false (show ¬ (0 < R.size ∧ R.size ≤ 200) from fun h => z0 h.1), Bool.false_and] at hgood
   have hbf := HBR.out
   rw [hgood] at hbf
   have HBF := hid hbf
   clear hbf
   clear hgood
   go_wp2_with fail
   go_ret
   exact ⟨ret_bool HBF.out, rfl⟩
 have hv : validB s = plainB (bytesL s) := by
  unfold validB
  by_cases h0 : 0 < s.size
  · rw [bytesL_cons s h0]
    unfold validL
    split
    · rename_i r he
      exact absurd ⟨h0, (List.cons.inj he).1⟩ hsg
    rfl
  have : bytesL s = [] := List.eq_nil_of_length_eq_zero (by rw [bytesL_length]; omega)
  rw [this]; rfl
 rw [hv]
 obtain ⟨R, hR⟩ : ∃ R, s = R := ⟨_, rfl⟩
 rw [hR] at hs hsg ⊢
 clear hv hR
 have hR40 := hs
 by_cases h0 : 0 < R.size
 · have h0i : (0 : Int) < (R.size : Int) := by omega
   have hc1 : (((R[0]'h0).toNat : Int) == 45) = false := by rw [beq_eq_false_iff_ne]; intro e; exact hsg ⟨h0, by omega⟩
   clear hsg
   obtain ⟨B, hB⟩ : ∃ B, plainB (bytesL R) = B := ⟨_, rfl⟩
   rw [hB]
   have HBR := hid hB
   clear hB
   go_enter Tryz.func113, Tryz.ntmps113
   go_wp2_with fail
   go_loop [3] (fun i => ∃ k : Nat, k ≤ R.size ∧ i = .int .i64 k ∧ Hid (∀ j (hj : j < R.size), j < k → 48 ≤ (R[j]'hj).toNat ∧ (R[j]'hj).toNat < 58)) (fun i => R.size - (RowKit.intOf i).toNat)
   case atStart => exact ⟨0, Nat.zero_le _, rfl, (fun j _ h => absurd h (by omega) : ∀ j (hj : j < R.size), j < 0 → 48 ≤ (R[j]'hj).toNat ∧ (R[j]'hj).toNat < 58)⟩
   obtain ⟨k, hk, rfl, hall⟩ := hrel
   by_cases hlt : k < R.size
   · have hk1 : (k : Int) < (R.size : Int) := by omega
     have hix := fun w => index_str R k hlt w
     have hbad := plain_bad k hlt
     have hnx : 48 ≤ (R[k]'hlt).toNat ∧ (R[k]'hlt).toNat < 58 → ∀ j (hj : j < R.size), j < k + 1 → 48 ≤ (R[j]'hj).toNat ∧ (R[j]'hj).toNat < 58 := fun hx j hj hjk => by
      by_cases h : j = k
      · subst h; exact hx
      exact hall.out j hj (by omega)
     obtain ⟨x, hx⟩ : ∃ x, (R[k]'hlt).toNat = x := ⟨_, rfl⟩
     rw [hx] at hix hbad hnx
     have HB := hid hbad; have HNX := hid hnx
     clear hbad hnx hx
     by_cases h1 : x < 48
     · have a1 : (x : Int) < 48 := by omega
       have a2 : decide ((x : Int) < 48) = true := decide_eq_true a1
       have a3 : decide (x < 48) = true := decide_eq_true h1
       have hbf : false = B := by rw [← HBR.out, HB.out (.inl h1)]
       have HBF := hid hbf
       clear hbf
       go_wp2_with fail
       go_ret
       exact ⟨ret_bool HBF.out, rfl⟩
     have a1 : ¬ (x : Int) < 48 := by omega
     have a2 : decide ((x : Int) < 48) = false := decide_eq_false a1
     have a3 : decide (x < 48) = false := decide_eq_false h1
     by_cases h2 : 57 < x
     · have c1 : (57 : Int) < (x : Int) := by omega
       have c2 : decide ((57 : Int) < (x : Int)) = true := decide_eq_true c1
       have c3 : decide (57 < x) = true := decide_eq_true h2
       have hbf : false = B := by rw [← HBR.out, HB.out (.inr h2)]
       have HBF := hid hbf
       clear hbf
       go_wp2_with fail
       go_ret
       exact ⟨ret_bool HBF.out, rfl⟩
     have c1 : ¬ (57 : Int) < (x : Int) := by omega
     have c2 : decide ((57 : Int) < (x : Int)) = false := decide_eq_false c1
     have c3 : decide (57 < x) = false := decide_eq_false h2
     have HX := hid (show 48 ≤ x ∧ x < 58 by omega)
     go_wp2_with fail
     go_round
     case rel => exact ⟨k + 1, by omega, by go_num, HNX.out HX.out⟩
     case measure => simp [RowKit.intOf]; omega
   have hk1 : ¬ (k : Int) < (R.size : Int) := by omega
   have hgood := plain_good (s := R) (fun j hj => hall.out j hj (by omega))
   by_cases z0 : 0 < R.size
   · have d0 : (0 : Int) < (R.size : Int) := by omega
     have d1 : decide ((0 : Int) < (R.size : Int)) = true := decide_eq_true d0
     have d2 : decide (0 < R.size) = true := decide_eq_true z0
     by_cases z2 : R.size ≤ 200
     · have f0 : (R.size : Int) ≤ 200 := by omega
       have f1 : decide ((R.size : Int) ≤ 200) = true := decide_eq_true f0
       have f2 : decide (R.size ≤ 200) = true := decide_eq_true z2
       rw [decide_eq_true (show 0 < R.size ∧ R.size ≤ 200 from ⟨z0, z2⟩), Bool.true_and] at hgood
       by_cases z3 : R = ⟨#[48]⟩
       · have e1 : (R.toList == (⟨#[48]⟩ : ByteArray).toList) = true := by rw [str_eq_iff, decide_eq_true z3]
         have e3 : (R.toList == [48]) = true := by rw [← list48]; exact e1
         rw [decide_eq_true ((bytesL_48 R).2 z3), Bool.true_or] at hgood
         have hbf := HBR.out
         rw [hgood] at hbf
         have HBF := hid hbf
         clear hbf
         clear hgood z3
         go_wp2_with fail
         go_ret
         exact ⟨ret_bool HBF.out, rfl⟩
       have e1 : (R.toList == (⟨#[48]⟩ : ByteArray).toList) = false := by rw [str_eq_iff, decide_eq_false z3]
       have e3 : (R.toList == [48]) = false := by rw [← list48]; exact e1
       rw [decide_eq_false (fun h => z3 ((bytesL_48 R).1 h)), Bool.false_or] at hgood
       by_cases z4 : (R[0]'z0).toNat = 48
       · have g1 : (((R[0]'z0).toNat : Int) != 48) = false := by rw [bne_eq_false_iff_eq]; omega
         have g2 : (((R[0]'z0).toNat : Int) == 48) = true := by rw [beq_iff_eq]; omega
         rw [decide_eq_false (fun h => (head48 R z0).1 h z4)] at hgood
         have hbf := HBR.out
         rw [hgood] at hbf
         have HBF := hid hbf
         clear hbf
         clear hgood z3 z4
         go_wp2_with fail
         go_ret
         first
          | exact ⟨ret_bool HBF.out, rfl⟩
          | exact ⟨ret_bool (g1.trans HBF.out), rfl⟩
       have g1 : (((R[0]'z0).toNat : Int) != 48) = true := by rw [bne_iff_ne]; omega
       have g2 : (((R[0]'z0).toNat : Int) == 48) = false := by rw [beq_eq_false_iff_ne]; omega
       rw [decide_eq_true ((head48 R z0).2 z4)] at hgood
       have hbf := HBR.out
       rw [hgood] at hbf
       have HBF := hid hbf
       clear hbf
       clear hgood z3 z4
       go_wp2_with fail
       go_ret
       first
        | exact ⟨ret_bool HBF.out, rfl⟩
        | exact ⟨ret_bool (g1.trans HBF.out), rfl⟩
     have f0 : ¬ (R.size : Int) ≤ 200 := by omega
     have f1 : decide ((R.size : Int) ≤ 200) = false := decide_eq_false f0
     have f2 : decide (R.size ≤ 200) = false := decide_eq_false z2
     rw [decide_eq_false (show ¬ (0 < R.size ∧ R.size ≤ 200) from fun h => z2 h.2), Bool.false_and] at hgood
     have hbf := HBR.out
     rw [hgood] at hbf
     have HBF := hid hbf
     clear hbf
     clear hgood
     go_wp2_with fail
     go_ret
     exact ⟨ret_bool HBF.out, rfl⟩
   exact absurd h0 z0
 have h0i : ¬ (0 : Int) < (R.size : Int) := by omega
 have hb : plainB (bytesL R) = false := by
  have : bytesL R = [] := List.eq_nil_of_length_eq_zero (by rw [bytesL_length]; omega)
  rw [this]; rfl
 have hd1 : decide ((0 : Int) < (R.size : Int)) = false := decide_eq_false h0i
 have hd2 : decide (0 < R.size) = false := decide_eq_false h0
 rw [hb]
 clear hsg hb
 go_enter Tryz.func113, Tryz.ntmps113
 go_wp2_with fail
 go_loop [3] (fun i => i = .int .i64 0) (fun _ => 0)
 case atStart => exact rfl
 obtain rfl := hrel
 go_wp2_with fail
 go_ret
 exact ⟨rfl, rfl⟩
end Go.Proofs.YtcglcgphgahnpaaGreatDoor
namespace Go.Proofs.YtcglcgphgahnpaaGreatDoor
open Go Go.Proofs Go.RowKit Go.Lib
theorem sum_any (b c : Bool) (m n : Nat) (ad1 ad2 : Option Addr) (c1 c2 n1 n2 : Nat) (w : World) (h1 : HoldI w ad1 c1 (digs m)) (h2 : HoldI w ad2 c2 (digs n)) (e1 : (digs m).length = n1) (e2 : (digs n).length = n2) (hn1 : n1 ≤ 1000) (hn2 : n2 ≤ 1000) :
 Calls Tryz.prog 124 #[.bool b, .slice ad1 n1 c1, .bool c, .slice ad2 n2 c2] w (ResPost w (intD b m + intD c n)) := by
 by_cases hbc : b = c
 · subst hbc
   have cp := plus_any m n ad1 ad2 c1 c2 n1 n2 w h1 h2 e1 e2 hn1 hn2
   have hx := intD_add b m n
   have hbb : (b == b) = true := by simp
   have CP := hid cp; have HX := hid hx
   clear cp hx h1 h2 e1 e2
   go_enter Tryz.func124, Tryz.ntmps124
   go_wp2_with fail
   refine CP.out.mono ?_
   rintro e w1 ⟨ad, cap, rfl, hh, hb, _⟩
   have cc := checked_any b (m + n) ad cap _ w1 hh rfl
   have CC := hid cc
   clear cc hh
   go_wp2_with fail
   refine CC.out.mono ?_
   rintro e w2 ⟨rfl, hb2⟩
   go_wp2
   go_ret2
   exact res_on (by rw [HX.out]; exact ⟨rfl, hb2⟩) hb
 have hbb : (b == c) = false := by rw [beq_eq_false_iff_ne]; exact hbc
 have co := order_any m n ad1 ad2 c1 c2 n1 n2 w h1 h2 e1 e2
 by_cases hmn : n ≤ m
 · have hge := cmp_ge hmn
   obtain ⟨z, hz⟩ : ∃ z, cmpI m n = z := ⟨_, rfl⟩
   rw [hz] at co hge
   have hge1 := hge.1
   have hge2 := hge.2
   have cm := fun W (hb : Below w.heap.size w W) => minus_any m n hmn ad1 ad2 c1 c2 n1 n2 W (h1.below hb (Nat.le_refl _)) (h2.below hb (Nat.le_refl _)) e1 e2
   have hx := intD_sub hbc hmn
   have CO := hid co; have CM := hid cm; have HX := hid hx
   clear co cm hx h1 h2 e1 e2 hmn hbc hge hz
   go_enter Tryz.func124, Tryz.ntmps124
   go_wp2_with fail
   refine CO.out.mono ?_
   rintro e w0 ⟨rfl, k, rfl⟩
   have hb0 : Below w.heap.size w (w.drewN k) := below_drewN (Below.refl _ _) k
   go_wp2_with fail
   refine (CM.out _ hb0).mono ?_
   rintro e w1 ⟨ad, cap, rfl, hh, hb, _⟩
   have cc := checked_any b (m - n) ad cap _ w1 hh rfl
   have CC := hid cc
   clear cc hh
   go_wp2_with fail
   refine CC.out.mono ?_
   rintro e w2 ⟨rfl, hb2⟩
   go_wp2
   go_ret2
   exact res_on (by rw [HX.out]; exact ⟨rfl, hb2⟩) (below_drewN (Below.refl _ _) k |>.trans hb)
 have hz := cmp_lt hmn
 rw [hz] at co
 have cm := fun W (hb : Below w.heap.size w W) => minus_any n m (by omega) ad2 ad1 c2 c1 n2 n1 W (h2.below hb (Nat.le_refl _)) (h1.below hb (Nat.le_refl _)) e2 e1
 have hx := intD_sub' hbc hmn
 have CO := hid co; have CM := hid cm; have HX := hid hx
 clear co cm hx h1 h2 e1 e2 hmn hbc hz
 go_enter Tryz.func124, Tryz.ntmps124
 go_wp2_with fail
 refine CO.out.mono ?_
 rintro e w0 ⟨rfl, k, rfl⟩
 have hb0 : Below w.heap.size w (w.drewN k) := below_drewN (Below.refl _ _) k
 go_wp2_with fail
 refine (CM.out _ hb0).mono ?_
 rintro e w1 ⟨ad, cap, rfl, hh, hb, _⟩
 have cc := checked_any c (n - m) ad cap _ w1 hh rfl
 have CC := hid cc
 clear cc hh
 go_wp2_with fail
 refine CC.out.mono ?_
 rintro e w2 ⟨rfl, hb2⟩
 go_wp2
 go_ret2
 exact res_on (by rw [HX.out]; exact ⟨rfl, hb2⟩) (below_drewN (Below.refl _ _) k |>.trans hb)
end Go.Proofs.YtcglcgphgahnpaaGreatDoor
namespace Go.Proofs.YtcglcgphgahnpaaGreatDoor
open Go Go.Proofs Go.RowKit Go.Lib
theorem subR_any (s t : ByteArray) (hs : s.size ≤ 1099511627776) (ht : t.size ≤ 1099511627776) (w : World) :
 Calls Tryz.prog 94 #[.string s, .string t] w fun e w' => e = .returned (.tuple #[.string (opT (· - ·) s t), .int .i64 (opZ (· - ·) s t)]) ∧ Below w.heap.size w w' := by
 have va := fun W => valid_any s hs W
 have vb := fun W => valid_any t ht W
 unfold opT opZ
 by_cases h1 : validB s = true
 · by_cases h2 : validB t = true
   · rw [h1] at va
     rw [h2] at vb
     obtain ⟨f1, g1⟩ := text_valid h1
     obtain ⟨f2, g2⟩ := text_valid h2
     rw [h1, h2, Bool.true_and, if_pos rfl, if_pos rfl]
     obtain ⟨x, hx⟩ : ∃ x, numB s = x := ⟨_, rfl⟩
     obtain ⟨y, hy⟩ : ∃ x, numB t = x := ⟨_, rfl⟩
     rw [hx] at f1 g1 ⊢
     rw [hy] at f2 g2 ⊢
     have d1 := fun W => digits_any x (fits_size f1) W
     have d2 := fun W => digits_any y (fits_size f2) W
     rw [← g1] at d1
     rw [← g2] at d2
     have l1 := fits_length f1
     have l2 := fits_length f2
     obtain ⟨b, hb⟩ : ∃ b, decide (x < 0) = b := ⟨_, rfl⟩
     obtain ⟨c, hc⟩ : ∃ b, decide (y < 0) = b := ⟨_, rfl⟩
     have i1 := intD_self x
     have i2 := intD_neg y
     rw [hb] at d1 i1
     rw [hc] at d2 i2
     have cs := fun W a1 k1 a2 k2 (q1 : HoldI W a1 k1 (digs x.natAbs)) (q2 : HoldI W a2 k2 (digs y.natAbs)) => sum_any b (!c) x.natAbs y.natAbs a1 a2 k1 k2 _ _ W q1 q2 rfl rfl (by omega) (by omega)
     rw [i1, i2] at cs
     have hL : (· - ·) x y = x + -y := rfl
     rw [hL]
     obtain ⟨m, hm⟩ : ∃ m, (digs x.natAbs).length = m := ⟨_, rfl⟩
     obtain ⟨n, hn⟩ : ∃ m, (digs y.natAbs).length = m := ⟨_, rfl⟩
     rw [hm] at d1 cs
     rw [hn] at d2 cs
     have VA := hid va; have VB := hid vb; have D1 := hid d1; have D2 := hid d2; have CS := hid cs
     clear va vb d1 d2 cs i1 i2 hb hc hL hm hn h1 h2 g1 g2 hx hy f1 f2 l1 l2
     go_enter Tryz.func94, Tryz.ntmps94
     go_wp2_with fail
     refine (VA.out _).mono ?_
     rintro e w1 ⟨rfl, rfl⟩
     go_wp2_with fail
     refine (VB.out _).mono ?_
     rintro e w2 ⟨rfl, rfl⟩
     go_wp2_with fail
     refine (D1.out _).mono ?_
     rintro e w3 ⟨a1, k1, rfl, q1, b3⟩
     go_wp2_with fail
     refine (D2.out _).mono ?_
     rintro e w4 ⟨a2, k2, rfl, q2, b4⟩
     have B4 := hid (b3.trans (b4.mono b3.size))
     have C := hid (CS.out w4 a1 k1 a2 k2 (q1.below b4 (Nat.le_refl _)) q2)
     clear q1 q2 b3 b4 CS
     go_wp2_with fail
     refine C.out.mono ?_
     rintro e w5 ⟨rfl, b5⟩
     go_wp2
     go_ret2
     exact ⟨rfl, B4.out.trans (b5.mono B4.out.size)⟩
   have h2' : validB t = false := by simpa using h2
   rw [h1] at va
   rw [h2'] at vb
   rw [h1, h2', Bool.and_false, if_neg (by simp), if_neg (by simp)]
   have VA := hid va; have VB := hid vb
   clear va vb h1 h2 h2'
   go_enter Tryz.func94, Tryz.ntmps94
   go_wp2_with fail
   refine (VA.out _).mono ?_
   rintro e w1 ⟨rfl, rfl⟩
   go_wp2_with fail
   refine (VB.out _).mono ?_
   rintro e w2 ⟨rfl, rfl⟩
   go_wp2
   go_ret2
   exact ⟨rfl, Below.refl _ _⟩
 have h1' : validB s = false := by simpa using h1
 rw [h1'] at va
 rw [h1', Bool.false_and, if_neg (by simp), if_neg (by simp)]
 have VA := hid va
 clear va vb h1 h1'
 go_enter Tryz.func94, Tryz.ntmps94
 go_wp2_with fail
 refine (VA.out _).mono ?_
 rintro e w1 ⟨rfl, rfl⟩
 go_wp2
 go_ret2
 exact ⟨rfl, Below.refl _ _⟩
theorem cmpR_any (s t : ByteArray) (hs : s.size ≤ 1099511627776) (ht : t.size ≤ 1099511627776) (w : World) :
 Calls Tryz.prog 97 #[.string s, .string t] w fun e w' => e = .returned (.int .i64 (cmpB s t)) ∧ Below w.heap.size w w' := by
 have va := fun W => valid_any s hs W
 have vb := fun W => valid_any t ht W
 unfold cmpB
 by_cases h1 : validB s = true
 · by_cases h2 : validB t = true
   · rw [h1] at va
     rw [h2] at vb
     obtain ⟨f1, g1⟩ := text_valid h1
     obtain ⟨f2, g2⟩ := text_valid h2
     rw [h1, h2, Bool.true_and, if_pos rfl]
     obtain ⟨x, hx⟩ : ∃ x, numB s = x := ⟨_, rfl⟩
     obtain ⟨y, hy⟩ : ∃ x, numB t = x := ⟨_, rfl⟩
     rw [hx] at f1 g1 ⊢
     rw [hy] at f2 g2 ⊢
     have d1 := fun W => digits_any x (fits_size f1) W
     have d2 := fun W => digits_any y (fits_size f2) W
     rw [← g1] at d1
     rw [← g2] at d2
     have l1 := fits_length f1
     have l2 := fits_length f2
     have co1 := fun W a1 k1 a2 k2 (q1 : HoldI W a1 k1 (digs x.natAbs)) (q2 : HoldI W a2 k2 (digs y.natAbs)) => order_any x.natAbs y.natAbs a1 a2 k1 k2 _ _ W q1 q2 rfl rfl
     have co2 := fun W a1 k1 a2 k2 (q1 : HoldI W a1 k1 (digs x.natAbs)) (q2 : HoldI W a2 k2 (digs y.natAbs)) => order_any y.natAbs x.natAbs a2 a1 k2 k1 _ _ W q2 q1 rfl rfl
     obtain ⟨r, hr⟩ : ∃ r, (if x < y then (-1 : Int) else if y < x then 1 else 0) = r := ⟨_, rfl⟩
     rw [hr]
     obtain ⟨m, hm⟩ : ∃ m, (digs x.natAbs).length = m := ⟨_, rfl⟩
     obtain ⟨n, hn⟩ : ∃ m, (digs y.natAbs).length = m := ⟨_, rfl⟩
     rw [hm] at d1 co1 co2
     rw [hn] at d2 co1 co2
     by_cases hx0 : x < 0
     · by_cases hy0 : y < 0
       · have DX : decide (x < 0) = true := decide_eq_true hx0
         have DY : decide (y < 0) = true := decide_eq_true hy0
         have hrr : cmpI y.natAbs x.natAbs = r := by rw [← hr]; unfold cmpI; split <;> (try split) <;> (try split) <;> (try split) <;> omega
         have HRR := hid hrr
         rw [DX] at d1
         rw [DY] at d2
         have VA := hid va; have VB := hid vb; have D1 := hid d1; have D2 := hid d2; have CO1 := hid co1; have CO2 := hid co2
         clear hr hrr DX DY hx0 hy0 va vb d1 d2 co1 co2 hm hn h1 h2 g1 g2 hx hy f1 f2 l1 l2
         go_enter Tryz.func97, Tryz.ntmps97
         go_wp2_with fail
         refine (VA.out _).mono ?_
         rintro e w1 ⟨rfl, rfl⟩
         go_wp2_with fail
         refine (VB.out _).mono ?_
         rintro e w2 ⟨rfl, rfl⟩
         go_wp2_with fail
         refine (D1.out _).mono ?_
         rintro e w3 ⟨a1, k1, rfl, q1, b3⟩
         go_wp2_with fail
         refine (D2.out _).mono ?_
         rintro e w4 ⟨a2, k2, rfl, q2, b4⟩
         have B4 := hid (b3.trans (b4.mono b3.size))
         have C := hid (CO2.out w4 a1 k1 a2 k2 (q1.below b4 (Nat.le_refl _)) q2)
         clear q1 q2 b3 b4 CO1 CO2
         go_wp2_with fail
         refine C.out.mono ?_
         rintro e w5 ⟨rfl, k, rfl⟩
         go_wp2
         go_ret
         exact ⟨ret_w HRR.out, below_drewN B4.out k⟩
       have DX : decide (x < 0) = true := decide_eq_true hx0
       have DY : decide (y < 0) = false := decide_eq_false hy0
       have hrr : r = -1 := by rw [← hr]; rw [if_pos (by omega)]
       have HRR := hid hrr
       rw [DX] at d1
       rw [DY] at d2
       have VA := hid va; have VB := hid vb; have D1 := hid d1; have D2 := hid d2; have CO1 := hid co1; have CO2 := hid co2
       clear hr hrr DX DY hx0 hy0 va vb d1 d2 co1 co2 hm hn h1 h2 g1 g2 hx hy f1 f2 l1 l2
       go_enter Tryz.func97, Tryz.ntmps97
       go_wp2_with fail
       refine (VA.out _).mono ?_
       rintro e w1 ⟨rfl, rfl⟩
       go_wp2_with fail
       refine (VB.out _).mono ?_
       rintro e w2 ⟨rfl, rfl⟩
       go_wp2_with fail
       refine (D1.out _).mono ?_
       rintro e w3 ⟨a1, k1, rfl, q1, b3⟩
       go_wp2_with fail
       refine (D2.out _).mono ?_
       rintro e w4 ⟨a2, k2, rfl, q2, b4⟩
       have B4 := hid (b3.trans (b4.mono b3.size))
       clear q1 q2 b3 b4 CO1 CO2
       go_wp2_with fail
       go_ret
       exact ⟨ret_w HRR.out.symm, B4.out⟩
     by_cases hy0 : y < 0
     · have DX : decide (x < 0) = false := decide_eq_false hx0
       have DY : decide (y < 0) = true := decide_eq_true hy0
       have hrr : r = 1 := by rw [← hr]; rw [if_neg (by omega), if_pos (by omega)]
       have HRR := hid hrr
       rw [DX] at d1
       rw [DY] at d2
       have VA := hid va; have VB := hid vb; have D1 := hid d1; have D2 := hid d2; have CO1 := hid co1; have CO2 := hid co2
       clear hr hrr DX DY hx0 hy0 va vb d1 d2 co1 co2 hm hn h1 h2 g1 g2 hx hy f1 f2 l1 l2
       go_enter Tryz.func97, Tryz.ntmps97
       go_wp2_with fail
       refine (VA.out _).mono ?_
       rintro e w1 ⟨rfl, rfl⟩
       go_wp2_with fail
       refine (VB.out _).mono ?_
       rintro e w2 ⟨rfl, rfl⟩
       go_wp2_with fail
       refine (D1.out _).mono ?_
       rintro e w3 ⟨a1, k1, rfl, q1, b3⟩
       go_wp2_with fail
       refine (D2.out _).mono ?_
       rintro e w4 ⟨a2, k2, rfl, q2, b4⟩
       have B4 := hid (b3.trans (b4.mono b3.size))
       clear q1 q2 b3 b4 CO1 CO2
       go_wp2_with fail
       go_ret
       exact ⟨ret_w HRR.out.symm, B4.out⟩
     have DX : decide (x < 0) = false := decide_eq_false hx0
     have DY : decide (y < 0) = false := decide_eq_false hy0
     have hrr : cmpI x.natAbs y.natAbs = r := by rw [← hr]; unfold cmpI; split <;> (try split) <;> (try split) <;> (try split) <;> omega
     have HRR := hid hrr
     rw [DX] at d1
     rw [DY] at d2
     have VA := hid va; have VB := hid vb; have D1 := hid d1; have D2 := hid d2; have CO1 := hid co1; have CO2 := hid co2
     clear hr hrr DX DY hx0 hy0 va vb d1 d2 co1 co2 hm hn h1 h2 g1 g2 hx hy f1 f2 l1 l2
     go_enter Tryz.func97, Tryz.ntmps97
     go_wp2_with fail
     refine (VA.out _).mono ?_
     rintro e w1 ⟨rfl, rfl⟩
     go_wp2_with fail
     refine (VB.out _).mono ?_
     rintro e w2 ⟨rfl, rfl⟩
     go_wp2_with fail
     refine (D1.out _).mono ?_
     rintro e w3 ⟨a1, k1, rfl, q1, b3⟩
     go_wp2_with fail
     refine (D2.out _).mono ?_
     rintro e w4 ⟨a2, k2, rfl, q2, b4⟩
     have B4 := hid (b3.trans (b4.mono b3.size))
     have C := hid (CO1.out w4 a1 k1 a2 k2 (q1.below b4 (Nat.le_refl _)) q2)
     clear q1 q2 b3 b4 CO1 CO2
     go_wp2_with fail
     refine C.out.mono ?_
     rintro e w5 ⟨rfl, k, rfl⟩
     go_wp2
     go_ret
     exact ⟨ret_w HRR.out, below_drewN B4.out k⟩
   have h2' : validB t = false := by simpa using h2
   rw [h1] at va
   rw [h2'] at vb
   rw [h1, h2', Bool.and_false, if_neg (by simp)]
   have VA := hid va; have VB := hid vb
   clear va vb h1 h2 h2'
   go_enter Tryz.func97, Tryz.ntmps97
   go_wp2_with fail
   refine (VA.out _).mono ?_
   rintro e w1 ⟨rfl, rfl⟩
   go_wp2_with fail
   refine (VB.out _).mono ?_
   rintro e w2 ⟨rfl, rfl⟩
   go_wp2
   go_ret
   exact ⟨rfl, Below.refl _ _⟩
 have h1' : validB s = false := by simpa using h1
 rw [h1'] at va
 rw [h1', Bool.false_and, if_neg (by simp)]
 have VA := hid va
 clear va vb h1 h1'
 go_enter Tryz.func97, Tryz.ntmps97
 go_wp2_with fail
 refine (VA.out _).mono ?_
 rintro e w1 ⟨rfl, rfl⟩
 go_wp2
 go_ret
 exact ⟨rfl, Below.refl _ _⟩
end Go.Proofs.YtcglcgphgahnpaaGreatDoor
namespace Go.Proofs.YtcglcgphgahnpaaGreatDoor
theorem isDig_set {l : List Nat} (h : IsDig l) (p d : Nat) (hd : d < 10) : IsDig (l.set p d) := by
 intro x hx
 rcases List.mem_or_eq_of_mem_set hx with h1 | rfl
 · exact h x h1
 exact hd
end Go.Proofs.YtcglcgphgahnpaaGreatDoor
namespace Go.Proofs.YtcglcgphgahnpaaGreatDoor
open Go Go.Proofs Go.RowKit Go.Lib
end Go.Proofs.YtcglcgphgahnpaaGreatDoor
namespace Go.Proofs.YtcglcgphgahnpaaGreatDoor
def DivInv (a qs : List Nat) (B R k : Nat) : Prop := qs.length = a.length ∧ IsDig qs ∧ R < B ∧ valD (a.drop k) = valD (qs.drop k) * B + R ∧ ∀ j, j < k → qs.getD j 0 = 0
def DivIn (a qs : List Nat) (B R k t : Nat) : Prop := qs.length = a.length ∧ IsDig qs ∧ qs.getD k 0 = t ∧ valD (a.drop k) = valD (qs.drop k) * B + R ∧ (∀ j, j < k → qs.getD j 0 = 0) ∧ R + t * B < 10 * B
theorem valD_drop (l : List Nat) (k : Nat) (h : k < l.length) : valD (l.drop k) = l.getD k 0 + 10 * valD (l.drop (k + 1)) := by
 rw [List.drop_eq_getElem_cons h]
 simp only [valD]
 simp [List.getD_eq_getElem?_getD, h]
theorem div_start (a : List Nat) (B : Nat) (hB : 0 < B) : DivInv a (List.replicate a.length 0) B 0 a.length := by
 refine ⟨by simp, ?_, hB, ?_, ?_⟩
 · intro d hd; rw [List.mem_replicate] at hd; omega
 · rw [List.drop_of_length_le (Nat.le_refl _), List.drop_of_length_le (by simp)]; simp [valD]
 intro j hj; simp [List.getD_eq_getElem?_getD, hj]
theorem div_in {a qs : List Nat} {B R k : Nat} (ha : IsDig a) (h : DivInv a qs B R (k + 1)) (hk : k < a.length) : DivIn a qs B (a.getD k 0 + 10 * R) k 0 := by
 obtain ⟨h1, h2, h3, h4, h5⟩ := h
 have hx := getD_dig ha k
 have h0 := h5 k (by omega)
 refine ⟨h1, h2, h0, ?_, fun j hj => h5 j (by omega), by omega⟩
 rw [valD_drop a k hk, valD_drop qs k (by omega), h0, h4, Nat.zero_add, Nat.mul_add, Nat.mul_assoc]
 omega
theorem div_step {a qs : List Nat} {B R k t : Nat} (h : DivIn a qs B R k t) (hk : k < a.length) (hB : B ≤ R) : t + 1 ≤ 9 ∧ DivIn a (qs.set k (t + 1)) B (R - B) k (t + 1) := by
 obtain ⟨h1, h2, h3, h4, h5, h6⟩ := h
 have hkq : k < qs.length := by omega
 have hb : 0 < B := by
  rcases Nat.eq_zero_or_pos B with h | h
  · subst h; omega
  exact h
 have ht : t + 1 ≤ 9 := by
  rcases Nat.lt_or_ge t 9 with h | h
  · omega
  exfalso
  have : 9 * B ≤ t * B := Nat.mul_le_mul_right _ h
  omega
 refine ⟨ht, by simp [h1], isDig_set h2 _ _ (by omega), by simp [List.getD_eq_getElem?_getD, hkq], ?_, ?_, ?_⟩
 · rw [h4, valD_drop qs k hkq, valD_drop (qs.set k (t + 1)) k (by simpa using hkq)]
   have e1 : (qs.set k (t + 1)).getD k 0 = t + 1 := by simp [List.getD_eq_getElem?_getD, hkq]
   have e2 : (qs.set k (t + 1)).drop (k + 1) = qs.drop (k + 1) := by rw [List.drop_set_of_lt (by omega)]
   rw [e1, e2, h3, show t + 1 + 10 * valD (qs.drop (k + 1)) = (t + 10 * valD (qs.drop (k + 1))) + 1 by omega]
   have hX : ∀ X : Nat, X * B + R = (X + 1) * B + (R - B) := fun X => by
    rw [Nat.add_mul, Nat.one_mul]; omega
   exact hX _
 · intro j hj
   have := h5 j hj
   rw [List.getD_eq_getElem?_getD, List.getElem?_set_ne (by omega), ← List.getD_eq_getElem?_getD]
   exact this
 rw [Nat.add_mul]; omega
theorem div_out {a qs : List Nat} {B R k t : Nat} (h : DivIn a qs B R k t) (hR : R < B) : DivInv a qs B R k := ⟨h.1, h.2.1, hR, h.2.2.2.1, h.2.2.2.2.1⟩
theorem div_end {a qs : List Nat} {B R : Nat} (h : DivInv a qs B R 0) : trimD qs = digs (valD a / B) ∧ R = valD a % B := by
 obtain ⟨_, _, h3, h4, _⟩ := h
 rw [List.drop_zero, List.drop_zero] at h4
 have e : valD a = R + B * valD qs := by rw [h4, Nat.mul_comm]; omega
 unfold trimD
 rw [e, Nat.add_mul_div_left _ _ (by omega), Nat.add_mul_mod_self_left, Nat.div_eq_of_lt h3, Nat.mod_eq_of_lt h3, Nat.zero_add]
 exact ⟨rfl, rfl⟩
theorem trim_cons (x R : Nat) : trimD (x :: digs R) = digs (x + 10 * R) := by
 unfold trimD; simp only [valD]; rw [valD_digs]
end Go.Proofs.YtcglcgphgahnpaaGreatDoor
namespace Go.Proofs.YtcglcgphgahnpaaGreatDoor
open Go Go.Proofs Go.RowKit Go.Lib
theorem run_append_owned_empty (w : World) (n : Nat) (ty : TypeId) (v : Value) (l : List Nat) (hown : OwnI w n v l) (c : Nat) : (Builtin.append_ #[47, 47] ty #[v, .slice none 0 c]).run Tryz.prog w = .ok v w := by
 obtain ⟨i0, hi, hz0, hz1, hz2⟩ := info_parts info_i64
 rcases hown.2 with ⟨rfl, h0⟩ | ⟨g, cap, cur, rfl, _, _, hnc, _⟩
 · simp [Builtin.append_, run_underlying Tryz.underlying47, sizeOf, typeInfo, hi, Builtin.lenOf, Builtin.firstCells]
 simp [Builtin.append_, run_underlying Tryz.underlying47, sizeOf, typeInfo, hi, Builtin.lenOf, Builtin.firstCells, hnc, storeCells]
theorem walk_hold {ops : Array Oper} {o : Oper} {rest : List Oper} {a : Act} {w w0 : World} {Q : Exit → Act → World → Prop}
 (hgd : o.guard = none) (s x : Operand) (hop : o.op = Op.call { callee := Callee.builtin Builtin.append, args := #[s, x], argTypes := #[47, 47] })
 (n : Nat) (v : Value) (l p : List Nat) (hs : a.eval s = v) (hown : OwnI w n v l) (hb : Below n w0 w) (hn : n ≤ w.heap.size) (ad : Option Addr) (m c : Nat) (hx : a.eval x = .slice ad m c) (hm : p.length = m) (hc : HoldI w ad c p) (hl : l.length + m ≤ 17592186044416)
 (hK : ∀ v' w', OwnI w' n v' (l ++ p) → Below n w0 w' → wpList Tryz.prog ops Q rest (a.put o.dst v') w') : wpList Tryz.prog ops Q (o :: rest) a w := by
 have hrun : ∃ v' w', (Builtin.append_ #[47, 47] o.type #[v, .slice ad m c]).run Tryz.prog w = .ok v' w' ∧ OwnI w' n v' (l ++ p) ∧ Below n w0 w' := by
  obtain ⟨i0, hi, hz0, hz1, hz2⟩ := info_parts info_i64
  by_cases h0 : 0 < m
  · obtain ⟨g, off, rfl, _, hns⟩ := hc.at (by omega)
    obtain ⟨v', w', r0, r1, r2, _⟩ := run_pushI w w0 n o.type v l p hown hb hn g off m c hm hns hl
    exact ⟨v', w', r0, r1, r2⟩
  obtain rfl : m = 0 := by omega
  have hp : p = [] := List.eq_nil_of_length_eq_zero hm
  subst hp
  rw [List.append_nil]
  cases ad with
  | none =>
   exact ⟨v, w, run_append_owned_empty w n o.type v l hown c, hown, hb⟩
  | some ad =>
   obtain ⟨v', w', hr, r1, r2, _⟩ := run_append_own (P := Tryz.prog) w n 47 o.type 3 i0 (.int .i64 0) 1 8 Tryz.underlying47 hi hz0 hz1 hz2 rfl (by decide) v l.length (numVals .i64 l) hown
    ad 0 c [] rfl (by intro j u hj; simp at hj) (by intro u hu; cases hu) (by unfold maxLen; omega) (by omega) hn
   refine ⟨v', w', hr, ?_, hb.grown r2 hn (own_ge hown)⟩
   rw [List.append_nil] at r1
   exact r1
 refine wpList_plain hgd fun K hK' => ?_
 obtain ⟨v', w', hrun, r1, r2⟩ := hrun
 unfold Oper.wp
 simp [execOp, hop, resolve, invoke, builtin, hs, hx, hrun, Result.andThen]
 exact hK' _ _ (hK v' w' r1 r2)
theorem HoldI.store {W : World} {ad : Option Addr} {c : Nat} {l : List Nat} (h : HoldI W ad c l) (G j : Nat) (v : Value) (hne : ∀ p, ad = some p → p.block ≠ G) : HoldI (W.setCell ⟨G, j, none⟩ v) ad c l := by
 obtain ⟨h1, h2, h3⟩ := h
 refine ⟨h1, h2, h3.imp id ?_⟩
 rintro ⟨g, o, rfl, hg, hn⟩
 have hgG : g ≠ G := hne _ rfl
 exact ⟨g, o, rfl, by simpa using hg, hn.heq (Below.heap_setCell W ⟨G, j, none⟩ v g hgG)⟩
def cellN (W : World) (g j : Nat) : Nat := match W.cell? ⟨g, j, none⟩ with | some (.int _ q) => q.toNat | _ => 0
theorem IsI.cellN {W : World} {g : Nat} {l : List Nat} (h : IsI W g l) (i : Nat) (hi : i < l.length) : Go.Proofs.YtcglcgphgahnpaaGreatDoor.cellN W g i = l.getD i 0 := by
 unfold Go.Proofs.YtcglcgphgahnpaaGreatDoor.cellN
 rw [h.cell i hi]
 simp
def DivPost (w : World) (p q : List Nat) (e : Ending) (w' : World) : Prop :=
 ∃ a1 k1 a2 k2, e = .returned (.tuple #[.slice a1 p.length k1, .slice a2 q.length k2]) ∧ HoldI w' a1 k1 p ∧ HoldI w' a2 k2 q ∧ Below w.heap.size w w'
theorem divided_any (m n : Nat) (hn0 : 0 < n) (ad1 ad2 : Option Addr) (c1 c2 n1 n2 : Nat) (w : World) (h1 : HoldI w ad1 c1 (digs m)) (h2 : HoldI w ad2 c2 (digs n)) (e1 : (digs m).length = n1) (e2 : (digs n).length = n2) (hn1 : n1 ≤ 1000) (hn2 : n2 ≤ 1000) :
 Calls Tryz.prog 128 #[.slice ad1 n1 c1, .slice ad2 n2 c2] w (DivPost w (digs (m / n)) (digs (m % n))) := by
 have ha := digs_lt m
 have va := valD_digs m
 have hlb : ∀ R, R < n → (digs R).length ≤ 1000 := fun R hR => by have := digs_length_mono (Nat.le_of_lt hR); omega
 have co := fun R a3 k3 W (q3 : HoldI W a3 k3 (digs R)) (q2 : HoldI W ad2 c2 (digs n)) => order_any R n a3 ad2 k3 c2 _ n2 W q3 q2 rfl e2
 have cm := fun R (hR : n ≤ R) a3 k3 W (q3 : HoldI W a3 k3 (digs R)) (q2 : HoldI W ad2 c2 (digs n)) => minus_any R n hR a3 ad2 k3 c2 _ n2 W q3 q2 rfl e2
 obtain ⟨a, hae⟩ : ∃ a, digs m = a := ⟨_, rfl⟩
 rw [hae] at ha va h1 e1
 have hst0 := div_start a n hn0
 rw [e1] at hst0
 have hend : ∀ qs R, DivInv a qs n R 0 → trimD qs = digs (m / n) ∧ R = m % n := fun qs R h => by have := div_end h; rwa [va] at this
 have hmk := fun W => make_ints n1 (by omega) W (n1 : Int) rfl
 have hnew := fun W => heap_alloc_new W (.cells (numVals .i64 (List.replicate n1 0)).toArray 3)
 have HA := hid ha; have H1 := hid h1; have H2 := hid h2; have E1 := hid e1; have HST0 := hid hst0; have HNEW := hid hnew; have HLB := hid hlb; have CO := hid co; have CM := hid cm; have HEND := hid hend
 clear ha va h1 h2 e1 e2 hae hst0 hnew hlb co cm hend
 go_enter Tryz.func128, Tryz.ntmps128
 go_wp2_with fail
 go_loopw [7, 8] (fun r i wr => ∃ (qs : List Nat) (R k : Nat) (ar : Option Addr) (kr : Nat), k ≤ n1 ∧ i = .int .i64 ((k : Int) - 1) ∧ r = .slice ar (digs R).length kr ∧ Hid (HoldI wr ar kr (digs R)) ∧ Hid (DivInv a qs n R k) ∧ Hid (IsI wr w.heap.size qs) ∧ Hid (Below w.heap.size w wr)) (fun _ i _ => (RowKit.intOf i + 1).toNat)
 case atStart => exact ⟨_, 0, n1, none, 0, Nat.le_refl _, rfl, rfl, HoldI.nil _ _ _, HST0.out, HNEW.out w, (Below.refl _ _).alloc (Nat.le_refl _) _⟩
 obtain ⟨qs, R, k, ar, kr, hk, rfl, rfl, hhr, hdi, hIs, hbr⟩ := hrel
 by_cases hk0 : k = 0
 · subst hk0
   have hneg : ¬ (0 : Int) ≤ ((0 : Nat) : Int) - 1 := by omega
   obtain ⟨t1, t2⟩ := HEND.out qs R hdi.out
   subst t2
   have hql : qs.length = n1 := by rw [hdi.out.1, E1.out]
   have hqd := hdi.out.2.1
   have htk := trimD_take _ hql hqd
   rw [t1] at htk
   have hh := hIs.out.holds (by rw [hql]; omega)
   rw [hql] at hh
   have c := trim_any qs hqd _ _ wr hh n1 hql
   rw [t1] at c
   have hh2 := hh.take (digs (m / n)).length
   rw [← htk] at hh2
   have C := hid c; have HH2 := hid hh2
   clear c hh hh2 htk hqd hql t1 hdi
   go_wp2_with fail
   refine C.out.mono ?_
   rintro e W1 ⟨rfl, rfl⟩
   go_wp2
   go_ret2
   exact ⟨_, _, _, _, rfl, HH2.out, hhr.out, hbr.out⟩
 obtain ⟨j, rfl⟩ : ∃ j, k = j + 1 := ⟨k - 1, by omega⟩
 have hj : (((j + 1 : Nat) : Int) - 1) = (j : Int) := by omega
 rw [hj]
 have hj0 : (0 : Int) ≤ (j : Int) := by omega
 have hj1 : (j : Int) < (n1 : Int) := by omega
 have ja : j < a.length := by rw [E1.out]; omega
 obtain ⟨g1, o1, rfl, hg1, hs1⟩ := H1.out.at (by omega)
 have ca := (hs1.below hbr.out hg1) j ja
 have j1 := fun w => atI g1 o1 n1 c1 j (j : Int) rfl (by omega) w
 have hin := div_in HA.out hdi.out ja
 have hRl := HLB.out R hdi.out.2.2.1
 have xl := getD_dig HA.out j
 obtain ⟨x, hx⟩ : ∃ x, a.getD j 0 = x := ⟨_, rfl⟩
 rw [hx] at ca hin xl
 have htc := trim_cons x R
 have hdig : IsDig ([x] ++ digs R) := isDig_append (fun d hd => by simp at hd; omega) (digs_lt R)
 obtain ⟨D, hD⟩ : ∃ D, digs R = D := ⟨_, rfl⟩
 rw [hD] at hhr hRl htc hdig ⊢
 obtain ⟨q, hq⟩ : ∃ q, D.length = q := ⟨_, rfl⟩
 rw [hq] at hRl ⊢
 have hGl := hIs.out.lt
 have hsz := hbr.out.size
 have HIN := hid hin; have HTC := hid htc; have HDG := hid hdig; have HQ := hid hq
 clear hin htc hdig hq hD hx hdi hs1 hk0
 go_wp2_with (first | (at_builtin; refine walk_hold (w0 := wr) rfl _ _ rfl wr.heap.size _ [x] D rfl (ownI_new wr wr.heap.size [x] (Nat.le_refl _) (by simp [maxLen])) ((Below.refl wr.heap.size wr).alloc (Nat.le_refl _) _) (by simp) ar q kr rfl HQ.out (hhr.out.below ((Below.refl wr.heap.size wr).alloc (Nat.le_refl _) _) (Nat.le_refl _)) (by simp; omega) ?_; intro v3 W3 ho3 hb3))
 have hl3 : ([x] ++ D).length = q + 1 := by rw [List.length_append, HQ.out]; simp; omega
 obtain ⟨a3, k3, rfl, hh3, hn3⟩ := own_hold ho3 (q + 1) hl3 (by omega)
 have htk := trimD_take _ hl3 HDG.out
 have c := trim_any ([x] ++ D) HDG.out a3 k3 W3 hh3 (q + 1) hl3
 have ht2 : trimD ([x] ++ D) = digs (x + 10 * R) := HTC.out
 rw [ht2] at htk c
 have hh4 := hh3.take (digs (x + 10 * R)).length
 rw [← htk] at hh4
 have hIs3 := hIs.out.below hb3 hGl
 have hbr3 : Below w.heap.size w W3 := hbr.out.trans (hb3.mono hsz)
 have hne3 : ∀ p, a3 = some p → p.block ≠ w.heap.size := fun p hp => by have := hn3 p hp; omega
 have C := hid c; have HH4 := hid hh4; have HIS3 := hid hIs3; have HBR3 := hid hbr3; have HNE3 := hid hne3
 clear c hh3 hh4 hIs3 hbr3 hne3 htk ht2 hl3 hn3 ho3 hb3 hIs hbr hhr
 refine C.out.mono ?_
 rintro e W4 ⟨rfl, rfl⟩
 go_wp2_with fail
 go_loopw [7] (fun r wr2 => ∃ (qs : List Nat) (R2 t : Nat) (a2 : Option Addr) (k2 : Nat), r = .slice a2 (digs R2).length k2 ∧ Hid (HoldI wr2 a2 k2 (digs R2)) ∧ Hid (DivIn a qs n R2 j t) ∧ Hid (IsI wr2 w.heap.size qs) ∧ Hid (Below w.heap.size w wr2) ∧ Hid (∀ p, a2 = some p → p.block ≠ w.heap.size)) (fun _ wr2 => 10 - cellN wr2 w.heap.size j)
 case atStart => exact ⟨qs, _, 0, _, _, rfl, HH4.out, HIN.out, HIS3.out, HBR3.out, HNE3.out⟩
 obtain ⟨qs, R2, t, a2, k2, rfl, hh2, hdi, hIs2, hbr2, hne2⟩ := hrel
 have co := CO.out R2 a2 k2 wr hh2.out (H2.out.below hbr2.out (Nat.le_refl _))
 have hjq : j < qs.length := by rw [hdi.out.1]; exact ja
 by_cases hB : n ≤ R2
 · have hge := cmp_ge hB
   obtain ⟨z, hz⟩ : ∃ z, cmpI R2 n = z := ⟨_, rfl⟩
   rw [hz] at co hge
   have hge1 := hge.1
   have hge2 := hge.2
   have hstep := div_step hdi.out ja hB
   have ht9 := hstep.1
   have htt : qs.getD j 0 = t := hdi.out.2.2.1
   have hcm := fun kk => CM.out R2 hB a2 k2 (wr.drewN kk) (hh2.out.below (below_drewN (Below.refl wr.heap.size wr) kk) (Nat.le_refl _)) (H2.out.below (below_drewN hbr2.out kk) (Nat.le_refl _))
   have HCO := hid co; have HCM := hid hcm; have HST := hid hstep.2; have HTT := hid htt
   have hG2 := hIs2.out.lt
   clear co hcm hstep hge hz htt hdi hh2 hne2
   go_wp2_with fail
   refine HCO.out.mono ?_
   rintro e W5 ⟨rfl, kk, rfl⟩
   go_wp2_with fail
   refine (HCM.out kk).mono ?_
   rintro e W6 ⟨a6, k6, rfl, hh6, hb6, hn6⟩
   have hIs6 := (hIs2.out.drewN kk).below hb6 (by simpa using hG2)
   have hcell := hIs6.cell j hjq
   rw [HTT.out] at hcell
   have hfro := hIs6.frozen j
   have hat := fun w' => atI w.heap.size 0 n1 n1 j (j : Int) rfl (by omega) w'
   rw [Nat.zero_add] at hat
   have hne6 : ∀ p, a6 = some p → p.block ≠ w.heap.size := fun p hp => by have := hn6 p hp; simp at this; omega
   have hbw6 : Below w.heap.size w W6 := (below_drewN hbr2.out kk).trans (hb6.mono (by have := hbr2.out.size; simpa using this))
   have HIS6 := hid hIs6; have HH6 := hid hh6; have HNE6 := hid hne6; have HBW6 := hid hbw6
   clear hIs6 hh6 hne6 hbw6 hb6 hn6 HCM HCO
   have hwt : IntKind.i64.wrap ((t : Int) + 1) = (t : Int) + 1 := IntWalk.i64_in _ (by omega)
   go_wp2
   go_roundw
   case rel => exact ⟨qs.set j (t + 1), _, t + 1, a6, k6, rfl, HH6.out.store _ _ _ HNE6.out, HST.out, HIS6.out.store j (t + 1) _ (by omega), HBW6.out.setCell (Nat.le_refl _) _, HNE6.out⟩
   case measure =>
    have m1 := hIs2.out.cellN j hjq
    have m2 := (HIS6.out.store j (t + 1) ((t : Int) + 1) (by omega)).cellN j (by simpa using hjq)
    rw [HTT.out] at m1
    have m3 : (qs.set j (t + 1)).getD j 0 = t + 1 := by simp [List.getD_eq_getElem?_getD, hjq]
    rw [m3] at m2
    rw [m1]
    simp only [m2]
    omega
 have hz := cmp_lt hB
 rw [hz] at co
 have hout := div_out hdi.out (by omega)
 have HCO := hid co; have HOUT := hid hout
 clear co hout hz hdi
 go_wp2_with fail
 refine HCO.out.mono ?_
 rintro e W5 ⟨rfl, kk, rfl⟩
 go_wp2
 go_roundw
 case rel => exact ⟨qs, R2, j, a2, k2, by omega, by go_num, rfl, hh2.out.below (below_drewN (Below.refl wr.heap.size wr) kk) (Nat.le_refl _), HOUT.out, hIs2.out.drewN kk, below_drewN hbr2.out kk⟩
 case measure => simp [RowKit.intOf]
end Go.Proofs.YtcglcgphgahnpaaGreatDoor
namespace Go.Proofs.YtcglcgphgahnpaaGreatDoor
open Go Go.Proofs Go.RowKit Go.Lib
def readD (W : World) (v : Value) : Nat := match v with
 | .slice (some p) n _ => valD ((List.range n).map fun j => match W.cell? ⟨p.block, p.off + j, none⟩ with | some (.int _ q) => q.toNat | _ => 0)
 | _ => 0
theorem readD_hold {W : World} {ad : Option Addr} {c : Nat} {l : List Nat} (h : HoldI W ad c l) : readD W (.slice ad l.length c) = valD l := by
 by_cases h0 : 0 < l.length
 · obtain ⟨g, o, rfl, _, hn⟩ := h.at h0
   show valD _ = valD l
   congr 1
   apply List.ext_getElem
   · simp
   intro i h1 h2
   have hc := hn i h2
   simp only [List.getElem_map, List.getElem_range, hc]
   simp [List.getD_eq_getElem?_getD, h2]
 have hl : l = [] := List.eq_nil_of_length_eq_zero (by omega)
 subst hl
 cases ad <;> rfl
theorem gcdR_any (s t : ByteArray) (hs : s.size ≤ 1099511627776) (ht : t.size ≤ 1099511627776) (w : World) :
 Calls Tryz.prog 114 #[.string s, .string t] w fun e w' => e = .returned (.tuple #[.string (opT gcdI s t), .int .i64 (opZ gcdI s t)]) ∧ Below w.heap.size w w' := by
 have va := fun W => valid_any s hs W
 have vb := fun W => valid_any t ht W
 unfold opT opZ
 by_cases h1 : validB s = true
 · by_cases h2 : validB t = true
   · rw [h1] at va
     rw [h2] at vb
     obtain ⟨f1, g1⟩ := text_valid h1
     obtain ⟨f2, g2⟩ := text_valid h2
     rw [h1, h2, Bool.true_and, if_pos rfl, if_pos rfl]
     obtain ⟨x, hx⟩ : ∃ x, numB s = x := ⟨_, rfl⟩
     obtain ⟨y, hy⟩ : ∃ x, numB t = x := ⟨_, rfl⟩
     rw [hx] at f1 g1 ⊢
     rw [hy] at f2 g2 ⊢
     have d1 := fun W => digits_any x (fits_size f1) W
     have d2 := fun W => digits_any y (fits_size f2) W
     rw [← g1] at d1
     rw [← g2] at d2
     have l1 := fits_length f1
     have l2 := fits_length f2
     have hL : gcdI x y = ((Nat.gcd x.natAbs y.natAbs : Nat) : Int) := rfl
     rw [hL]
     obtain ⟨X, hX⟩ : ∃ X, x.natAbs = X := ⟨_, rfl⟩
     obtain ⟨Y, hY⟩ : ∃ X, y.natAbs = X := ⟨_, rfl⟩
     rw [hX] at d1 l1 ⊢
     rw [hY] at d2 l2 ⊢
     have hGf : Nat.gcd X Y < 10 ^ 200 := by
      have hf1 := lt_of_digs_length l1
      have hf2 := lt_of_digs_length l2
      rcases Nat.eq_zero_or_pos X with h | h
      · subst h; rw [Nat.gcd_zero_left]; exact hf2
      exact Nat.lt_of_le_of_lt (Nat.gcd_le_left _ h) hf1
     obtain ⟨G, hG⟩ : ∃ G, Nat.gcd X Y = G := ⟨_, rfl⟩
     rw [hG]
     obtain ⟨m, hm⟩ : ∃ m, (digs X).length = m := ⟨_, rfl⟩
     obtain ⟨n, hn⟩ : ∃ m, (digs Y).length = m := ⟨_, rfl⟩
     rw [hm] at d1
     rw [hn] at d2
     have VA := hid va; have VB := hid vb; have D1 := hid d1; have D2 := hid d2; have HG := hid hG; have HM := hid hm; have HN := hid hn
     clear va vb d1 d2 hL hm hn h1 h2 g1 g2 hx hy f1 f2 hX hY hG hGf
     go_enter Tryz.func114, Tryz.ntmps114
     go_wp2_with fail
     refine (VA.out _).mono ?_
     rintro e w1 ⟨rfl, rfl⟩
     go_wp2_with fail
     refine (VB.out _).mono ?_
     rintro e w2 ⟨rfl, rfl⟩
     go_wp2_with fail
     refine (D1.out _).mono ?_
     rintro e w3 ⟨a1, k1, rfl, q1, b3⟩
     go_wp2_with fail
     refine (D2.out _).mono ?_
     rintro e w4 ⟨a2, k2, rfl, q2, b4⟩
     have B4 := hid (b3.trans (b4.mono b3.size))
     have Q1 := hid (q1.below b4 (Nat.le_refl _)); have Q2 := hid q2
     rw [← HM.out, ← HN.out]
     clear q1 q2 b3 b4 HM HN
     go_wp2_with fail
     go_loopw [7, 9] (fun v u wr => ∃ (K L : Nat) (a1 : Option Addr) (k1 : Nat) (a2 : Option Addr) (k2 : Nat), v = .slice a1 (digs K).length k1 ∧ u = .slice a2 (digs L).length k2 ∧ Hid (HoldI wr a1 k1 (digs K)) ∧ Hid (HoldI wr a2 k2 (digs L)) ∧ Hid (Nat.gcd K L = G) ∧ Hid (Below w.heap.size w wr) ∧ (digs K).length ≤ 200 ∧ (digs L).length ≤ 200) (fun _ u wr => readD wr u)
     case atStart => exact ⟨X, Y, a1, k1, a2, k2, rfl, rfl, Q1.out, Q2.out, HG.out, B4.out, by omega, by omega⟩
     obtain ⟨K, L, a1, k1, a2, k2, rfl, rfl, q1, q2, hg, hbr, lk, ll⟩ := hrel
     have hrd := readD_hold q2.out
     rw [valD_digs] at hrd
     by_cases hL0 : L = 0
     · subst hL0
       have hKG : K = G := by rw [← hg.out, Nat.gcd_zero_right]
       subst hKG
       have ck := checked_any false K a1 k1 _ wr q1.out rfl
       have hi : intD false K = (K : Int) := rfl
       rw [hi] at ck
       have CK := hid ck
       have hz : (digs 0).length = 0 := rfl
       clear ck hrd hi
       go_wp2_with fail
       refine CK.out.mono ?_
       rintro e w6 ⟨rfl, b6⟩
       go_wp2
       go_ret2
       exact ⟨rfl, hbr.out.trans (b6.mono hbr.out.size)⟩
     have hLp : 0 < (digs L).length := by rw [digs_pos hL0]; simp
     have cd := divided_any K L (by omega) a1 a2 k1 k2 _ _ wr q1.out q2.out rfl rfl (by omega) (by omega)
     have hlt : K % L < L := Nat.mod_lt _ (by omega)
     have hg2 : Nat.gcd L (K % L) = G := by rw [← hg.out, Nat.gcd_comm K L, Nat.gcd_rec L K, Nat.gcd_comm]
     have hml := digs_length_mono (Nat.le_of_lt hlt)
     have hQ2 := q2
     obtain ⟨R, hR⟩ : ∃ R, K % L = R := ⟨_, rfl⟩
     obtain ⟨D, hD⟩ : ∃ D, K / L = D := ⟨_, rfl⟩
     rw [hR, hD] at cd
     rw [hR] at hg2 hml hlt
     obtain ⟨mK, hmK⟩ : ∃ q, (digs K).length = q := ⟨_, rfl⟩
     obtain ⟨mL, hmL⟩ : ∃ q, (digs L).length = q := ⟨_, rfl⟩
     rw [hmK, hmL] at cd
     rw [hmK]
     rw [hmL] at hLp hml ll hrd ⊢
     have hLp2 : (0 : Int) < (mL : Int) := by omega
     have CD := hid cd; have HG2 := hid hg2; have HML := hid hmL; have HRD := hid hrd; have HLT := hid hlt
     clear cd hg2 hR hD hmK hg q1 hL0 hmL hrd hlt
     go_wp2_with fail
     refine CD.out.mono ?_
     rintro e w6 ⟨a5, k5, a6, k6, rfl, _, q6, b6⟩
     have hrd6 := readD_hold q6
     rw [valD_digs] at hrd6
     have Q6 := hid q6; have QL := hid (hQ2.out.below b6 (Nat.le_refl _)); have B6 := hid (hbr.out.trans (b6.mono hbr.out.size)); have HR6 := hid hrd6
     clear q6 b6 hrd6 hQ2 hbr
     go_wp2
     go_roundw
     case rel => exact ⟨L, R, a2, k2, a6, k6, by rw [HML.out], rfl, QL.out, Q6.out, HG2.out, B6.out, by rw [HML.out]; exact ll, by omega⟩
     case measure =>
      have m1 := HRD.out
      have m2 := HR6.out
      simp only [m1, m2]
      exact HLT.out
   have h2' : validB t = false := by simpa using h2
   rw [h1] at va
   rw [h2'] at vb
   rw [h1, h2', Bool.and_false, if_neg (by simp), if_neg (by simp)]
   have VA := hid va; have VB := hid vb
   clear va vb h1 h2 h2'
   go_enter Tryz.func114, Tryz.ntmps114
   go_wp2_with fail
   refine (VA.out _).mono ?_
   rintro e w1 ⟨rfl, rfl⟩
   go_wp2_with fail
   refine (VB.out _).mono ?_
   rintro e w2 ⟨rfl, rfl⟩
   go_wp2
   go_ret2
   exact ⟨rfl, Below.refl _ _⟩
 have h1' : validB s = false := by simpa using h1
 rw [h1'] at va
 rw [h1', Bool.false_and, if_neg (by simp), if_neg (by simp)]
 have VA := hid va
 clear va vb h1 h1'
 go_enter Tryz.func114, Tryz.ntmps114
 go_wp2_with fail
 refine (VA.out _).mono ?_
 rintro e w1 ⟨rfl, rfl⟩
 go_wp2
 go_ret2
 exact ⟨rfl, Below.refl _ _⟩
end Go.Proofs.YtcglcgphgahnpaaGreatDoor
namespace Go.Proofs.YtcglcgphgahnpaaGreatDoor
open Go Go.Proofs Go.RowKit Go.Lib
theorem below_up {w W W' : World} (b : Below w.heap.size w W) (b' : Below W.heap.size W W') : Below w.heap.size w W' := b.trans (b'.mono b.size)
def RatAt (W : World) (B : Nat) (n d : ByteArray) : Prop :=
 W.cell? ⟨B, 0, none⟩ = some (.string n) ∧ W.cell? ⟨B, 1, none⟩ = some (.string d) ∧ W.frozen? ⟨B, 0, none⟩ = false ∧ W.frozen? ⟨B, 1, none⟩ = false
theorem ratAt_of {W : World} {B : Nat} {n d : ByteArray} {t : TypeId} (h : W.heap[B]? = some (.cells #[.string n, .string d] t)) : RatAt W B n d := by
 unfold RatAt
 simp [World.cell?, World.frozen?, h]
theorem box_one (w : World) (n d : ByteArray) : ∃ W0, w.alloc (.cells #[.string n, .string d] 23) = W0 ∧ Below w.heap.size w W0 ∧
 ∀ W, Below W0.heap.size W0 W → RatAt W w.heap.size n d :=
 ⟨_, rfl, (Below.refl _ _).alloc (Nat.le_refl _) _, fun W hb => ratAt_of ((hb.block w.heap.size (by simp)).trans (heap_alloc_new w (.cells #[.string n, .string d] 23)))⟩
theorem box_two (w : World) (n d m c : ByteArray) : ∃ W0, (w.alloc (.cells #[.string n, .string d] 23)).alloc (.cells #[.string m, .string c] 23) = W0 ∧ Below w.heap.size w W0 ∧
 ∀ W, Below W0.heap.size W0 W → RatAt W w.heap.size n d ∧ RatAt W (w.heap.size + 1) m c := by
 obtain ⟨W1, h1, b1, f1⟩ := box_one w n d
 obtain ⟨W2, h2, b2, f2⟩ := box_one W1 m c
 have hs : W1.heap.size = w.heap.size + 1 := by rw [← h1]; simp
 refine ⟨W2, by rw [h1, h2], below_up b1 b2, fun W hb => ⟨f1 W (below_up b2 hb), ?_⟩⟩
 have := f2 W hb
 rw [hs] at this
 exact this
theorem box_three (w : World) (n d m c x y : ByteArray) : ∃ W0, ((w.alloc (.cells #[.string n, .string d] 23)).alloc (.cells #[.string m, .string c] 23)).alloc (.cells #[.string x, .string y] 23) = W0 ∧ Below w.heap.size w W0 ∧
 ∀ W, Below W0.heap.size W0 W → RatAt W w.heap.size n d ∧ RatAt W (w.heap.size + 1) m c ∧ RatAt W (w.heap.size + 2) x y := by
 obtain ⟨W1, h1, b1, f1⟩ := box_two w n d m c
 obtain ⟨W2, h2, b2, f2⟩ := box_one W1 x y
 have hs : W1.heap.size = w.heap.size + 2 := by rw [← h1]; simp
 refine ⟨W2, by rw [h1, h2], below_up b1 b2, fun W hb => ⟨(f1 W (below_up b2 hb)).1, (f1 W (below_up b2 hb)).2, ?_⟩⟩
 have := f2 W hb
 rw [hs] at this
 exact this
theorem rat_done {w W0 W : World} {R : Nat} (b0 : Below w.heap.size w W0) (hn : w.heap.size ≤ R) (b : Below W0.heap.size W0 W) (x y : Value) :
 Below w.heap.size w ((W.setCell ⟨R, 0, none⟩ x).setCell ⟨R, 1, none⟩ y) :=
 ((below_up b0 b).setCell (p := ⟨R, 0, none⟩) hn _).setCell (p := ⟨R, 1, none⟩) hn _
theorem list49 : (⟨#[49]⟩ : ByteArray).toList = [49] := by rw [ByteArray.toList_eq]
theorem cmp_zero {t : ByteArray} (h : validB t = true) : cmpB t ⟨#[48]⟩ = sgZ (numB t) 0 := by
 have e : validB (⟨#[48]⟩ : ByteArray) = true ∧ numB ⟨#[48]⟩ = 0 := by decide +kernel
 unfold cmpB
 rw [h, e.1, e.2]
 rfl
theorem sgZ_pos (x : Int) : decide (sgZ x 0 ≤ 0) = decide (¬ 0 < x) := by
 unfold sgZ
 split
 · exact decide_eq_decide.2 (by omega)
 split <;> exact decide_eq_decide.2 (by omega)
theorem gcd_one {n d : ByteArray} (h1 : validB n = true) (h2 : validB d = true) : opZ gcdI n d = 0 ∧ (opT gcdI n d = ⟨#[49]⟩ ↔ Nat.gcd (numB n).natAbs (numB d).natAbs = 1) := by
 have f1 := (text_valid h1).1
 have f2 := (text_valid h2).1
 have hg : Fits (gcdI (numB n) (numB d)) := by
  unfold Fits gcdI at *
  have : Nat.gcd (numB n).natAbs (numB d).natAbs ≤ (numB n).natAbs + (numB d).natAbs := by
   by_cases h : (numB n).natAbs = 0
   · rw [h, Nat.gcd_zero_left]; omega
   have := Nat.le_of_dvd (by omega) (Nat.gcd_dvd_left (numB n).natAbs (numB d).natAbs); omega
  by_cases h : (numB n).natAbs = 0
  · rw [h, Nat.gcd_zero_left]; omega
  have := Nat.le_of_dvd (by omega) (Nat.gcd_dvd_left (numB n).natAbs (numB d).natAbs); omega
 unfold opT opZ resT resZ
 rw [h1, h2, Bool.true_and, if_pos rfl, if_pos rfl]
 have hg' : (gcdI (numB n) (numB d)).natAbs < 10 ^ 200 := hg
 rw [if_pos hg', if_pos hg']
 refine ⟨rfl, ?_⟩
 have t1 : (⟨#[49]⟩ : ByteArray) = textI 1 := by decide +kernel
 rw [t1]
 constructor
 · intro h
   have := textI_inj h
   unfold gcdI at this
   omega
 intro h
 unfold gcdI
 rw [h]; rfl
theorem validR4_any (n d : ByteArray) (hn : n.size ≤ 1099511627776) (hd : d.size ≤ 1099511627776) (w : World) :
 Calls Tryz.prog 86 #[.agg #[.string n, .string d]] w fun e w' => e = .returned (.bool (validQ n d)) ∧ Below w.heap.size w w' := by
 obtain ⟨W0, hW0, b0, hcd⟩ := box_one w n d
 have hcc := fun W b => And.intro (hcd W b).1 (hcd W b).2.1
 have va := fun W => valid_any n hn W
 have vb := fun W => valid_any d hd W
 have cm := fun W => cmpR_any d ⟨#[48]⟩ hd (by decide) W
 have cg := fun W => gcdR_any n d hn hd W
 obtain ⟨ca, cb⟩ := hcc W0 (Below.refl _ _)
 have HW := hid hW0; have HC := hid hcc; have B0 := hid b0
 have P0 := hid (Below.refl W0.heap.size W0)
 cases h1 : validB n with
 | false =>
  have hv : validQ n d = false := by unfold validQ; rw [h1]; rfl
  rw [hv]
  rw [h1] at va
  have VA := hid va; have VB := hid vb
  clear va vb cm cg h1 hv hW0 hcc hcd b0
  go_enter Tryz.func86, Tryz.ntmps86
  go_wp2_with (rw [HW.out])
  refine (VA.out _).mono ?_
  rintro e w1 ⟨rfl, rfl⟩
  go_wp2_with fail
  refine (VB.out _).mono ?_
  rintro e w2 ⟨rfl, rfl⟩
  go_wp2
  go_ret
  exact ⟨rfl, B0.out⟩
 | true =>
  cases h2 : validB d with
  | false =>
   have hv : validQ n d = false := by unfold validQ; rw [h1, h2]; rfl
   rw [hv]
   rw [h1] at va
   rw [h2] at vb
   have VA := hid va; have VB := hid vb
   clear va vb cm cg h1 h2 hv hW0 hcc hcd b0
   go_enter Tryz.func86, Tryz.ntmps86
   go_wp2_with (rw [HW.out])
   refine (VA.out _).mono ?_
   rintro e w1 ⟨rfl, rfl⟩
   go_wp2_with fail
   refine (VB.out _).mono ?_
   rintro e w2 ⟨rfl, rfl⟩
   go_wp2
   go_ret
   exact ⟨rfl, B0.out⟩
  | true =>
   rw [cmp_zero h2] at cm
   have hsg := sgZ_pos (numB d)
   obtain ⟨hgz, hgt⟩ := gcd_one h1 h2
   rw [hgz] at cg
   rw [h1] at va
   rw [h2] at vb
   by_cases h3 : 0 < numB d
   · have hsg2 : decide (sgZ (numB d) 0 ≤ 0) = false := by rw [hsg]; simpa using h3
     have hv : validQ n d = decide (opT gcdI n d = ⟨#[49]⟩) := by
      unfold validQ; rw [h1, h2, decide_eq_true h3]
      simp only [Bool.true_and]
      exact decide_eq_decide.2 hgt.symm
     rw [hv]
     generalize sgZ (numB d) 0 = z at *
     generalize opT gcdI n d = G at *
     have hge : (G.toList == (⟨#[49]⟩ : ByteArray).toList) = decide (G = ⟨#[49]⟩) := by rw [str_eq_iff]
     obtain ⟨r, hr⟩ : ∃ r, decide (G = ⟨#[49]⟩) = r := ⟨_, rfl⟩
     rw [hr] at hge ⊢
     have hge2 : (G.toList == [49]) = r := by rw [← list49]; exact hge
     have VA := hid va; have VB := hid vb; have CM := hid cm; have CG := hid cg
     clear va vb cm cg h1 h2 h3 hv hW0 hcc hcd b0 hgz hgt hr hsg
     go_enter Tryz.func86, Tryz.ntmps86
     go_wp2_with (rw [HW.out])
     refine (VA.out _).mono ?_
     rintro e w1 ⟨rfl, rfl⟩
     go_wp2_with fail
     refine (VB.out _).mono ?_
     rintro e w2 ⟨rfl, rfl⟩
     go_wp2_with fail
     refine (CM.out _).mono ?_
     rintro e w3 ⟨rfl, b3⟩
     have P1 := hid (below_up P0.out b3)
     obtain ⟨ca1, cb1⟩ := HC.out _ P1.out
     clear b3 P0 ca cb
     go_wp2_with fail
     refine (CG.out _).mono ?_
     rintro e w4 ⟨rfl, b4⟩
     have P2 := hid (below_up P1.out b4)
     clear b4 P1
     go_wp2
     go_ret
     exact ⟨rfl, below_up B0.out P2.out⟩
   have hsg2 : decide (sgZ (numB d) 0 ≤ 0) = true := by rw [hsg]; simpa using h3
   have hv : validQ n d = false := by unfold validQ; rw [h1, h2, decide_eq_false h3]; rfl
   rw [hv]
   generalize sgZ (numB d) 0 = z at *
   have VA := hid va; have VB := hid vb; have CM := hid cm
   clear va vb cm cg h1 h2 h3 hv hW0 hcc hcd b0 hgz hgt hsg
   go_enter Tryz.func86, Tryz.ntmps86
   go_wp2_with (rw [HW.out])
   refine (VA.out _).mono ?_
   rintro e w1 ⟨rfl, rfl⟩
   go_wp2_with fail
   refine (VB.out _).mono ?_
   rintro e w2 ⟨rfl, rfl⟩
   go_wp2_with fail
   refine (CM.out _).mono ?_
   rintro e w3 ⟨rfl, b3⟩
   have P1 := hid (below_up P0.out b3)
   clear b3 P0 ca cb
   go_wp2
   go_ret
   exact ⟨rfl, below_up B0.out P1.out⟩
end Go.Proofs.YtcglcgphgahnpaaGreatDoor
namespace Go.Proofs.YtcglcgphgahnpaaGreatDoor
open Go Go.Proofs Go.RowKit Go.Lib
theorem hold_one (W : World) : HoldI (W.alloc (.cells #[.int .i64 1] 3)) (some ⟨W.heap.size, 0, none⟩) 1 (digs 1) := by
 refine ⟨by decide, by decide, .inr ⟨W.heap.size, 0, rfl, by simp, new_num1 .i64 W 1 1 rfl _⟩⟩
theorem divR_any (s t : ByteArray) (hs : s.size ≤ 1099511627776) (ht : t.size ≤ 1099511627776) (w : World) :
 Calls Tryz.prog 96 #[.string s, .string t] w fun e w' => e = .returned (.tuple #[.string (divQ s t), .string (divR s t), .int .i64 (divZ s t)]) ∧ Below w.heap.size w w' := by
 have va := fun W => valid_any s hs W
 have vb := fun W => valid_any t ht W
 unfold divQ divR divZ
 by_cases h1 : validB s = true
 · by_cases h2 : validB t = true
   · rw [h1] at va
     rw [h2] at vb
     obtain ⟨f1, g1⟩ := text_valid h1
     obtain ⟨f2, g2⟩ := text_valid h2
     rw [h1, h2, Bool.true_and, Bool.true_and]
     obtain ⟨x, hx⟩ : ∃ x, numB s = x := ⟨_, rfl⟩
     obtain ⟨y, hy⟩ : ∃ x, numB t = x := ⟨_, rfl⟩
     rw [hx] at f1 g1 ⊢
     rw [hy] at f2 g2 ⊢
     by_cases hy0 : y = 0
     · have ht48 : t = ⟨#[48]⟩ := by rw [g2, hy0]; rfl
       have e1 : (t.toList == (⟨#[48]⟩ : ByteArray).toList) = true := by rw [str_eq_iff, decide_eq_true ht48]
       have e3 : (t.toList == [48]) = true := by rw [← list48]; exact e1
       have hdz : decide (y ≠ 0) = false := by rw [hy0]; rfl
       rw [hdz, if_neg (by simp), if_neg (by simp), if_neg (by simp)]
       have VA := hid va; have VB := hid vb
       clear va vb g1 g2 hx hy f1 f2 h1 h2 ht48 hy0 hdz
       go_enter Tryz.func96, Tryz.ntmps96
       go_wp2_with fail
       refine (VA.out _).mono ?_
       rintro e w1 ⟨rfl, rfl⟩
       go_wp2_with fail
       refine (VB.out _).mono ?_
       rintro e w2 ⟨rfl, rfl⟩
       go_wp2
       go_ret3
       exact ⟨rfl, Below.refl _ _⟩
     have ht48 : ¬ t = ⟨#[48]⟩ := fun e => hy0 (textI_inj (show textI y = textI 0 by rw [← g2, e]; rfl))
     have e1 : (t.toList == (⟨#[48]⟩ : ByteArray).toList) = false := by rw [str_eq_iff, decide_eq_false ht48]
     have e3 : (t.toList == [48]) = false := by rw [← list48]; exact e1
     have hdz : decide (y ≠ 0) = true := decide_eq_true hy0
     rw [hdz, if_pos rfl, if_pos rfl, if_pos rfl]
     have d1 := fun W => digits_any x (fits_size f1) W
     have d2 := fun W => digits_any y (fits_size f2) W
     rw [← g1] at d1
     rw [← g2] at d2
     have l1 := fits_length f1
     have l2 := fits_length f2
     obtain ⟨c, hc⟩ : ∃ b, decide (y < 0) = b := ⟨_, rfl⟩
     have i2 := intD_self y
     rw [hc] at d2 i2
     have i1 := intD_self x
     have hyn : 0 < y.natAbs := by omega
     have cd := fun W a1 k1 a2 k2 (q1 : HoldI W a1 k1 (digs x.natAbs)) (q2 : HoldI W a2 k2 (digs y.natAbs)) => divided_any x.natAbs y.natAbs hyn a1 a2 k1 k2 _ _ W q1 q2 rfl rfl (by omega) (by omega)
     have hql : (digs (x.natAbs / y.natAbs)).length ≤ 200 := by have := digs_length_mono (Nat.div_le_self x.natAbs y.natAbs); omega
     have hmod := Nat.mod_lt x.natAbs hyn
     by_cases hfit : (x / y).natAbs < 10 ^ 200
     · by_cases hx0 : x < 0
       · have DX : decide (x < 0) = true := decide_eq_true hx0
         by_cases hmore : 0 < x.natAbs % y.natAbs
         · rw [DX] at d1 i1
           obtain ⟨hq, hr⟩ := div_more i1 i2 hy0 hmore
           have hbc : (true != c) = (!c) := by cases c <;> rfl
           rw [hbc] at hq
           have ck := fun W a1 k1 (q1 : HoldI W a1 k1 (digs (x.natAbs / y.natAbs + 1))) => checked_any (!c) (x.natAbs / y.natAbs + 1) a1 k1 _ W q1 rfl
           have ct := fun W a1 k1 (q1 : HoldI W a1 k1 (digs (y.natAbs - x.natAbs % y.natAbs))) => text_any false (y.natAbs - x.natAbs % y.natAbs) a1 k1 _ W q1 rfl
           rw [hq] at ck
           have hcast : intD false (y.natAbs - x.natAbs % y.natAbs) = (((y.natAbs - x.natAbs % y.natAbs) : Nat) : Int) := rfl
           rw [hcast, hr] at ct
           have hT : resT (x / y) = textI (x / y) := by unfold resT; rw [if_pos hfit]
           have hZ : resZ (x / y) = 0 := by unfold resZ; rw [if_pos hfit]
           have hR : resR x y = textI (x % y) := by unfold resR; rw [if_pos hfit]
           rw [hT, hZ] at ck
           rw [hT, hZ, hR]
           have cp := fun W a1 k1 (q1 : HoldI W a1 k1 (digs (x.natAbs / y.natAbs))) => plus_any (x.natAbs / y.natAbs) 1 a1 (some ⟨W.heap.size, 0, none⟩) k1 1 _ 1 (W.alloc (.cells #[.int .i64 1] 3)) (q1.below ((Below.refl W.heap.size W).alloc (Nat.le_refl _) _) (Nat.le_refl _)) (hold_one W) rfl rfl (by omega) (by omega)
           have cm := fun W a1 k1 a2 k2 (q1 : HoldI W a1 k1 (digs y.natAbs)) (q2 : HoldI W a2 k2 (digs (x.natAbs % y.natAbs))) => minus_any y.natAbs (x.natAbs % y.natAbs) (by omega) a1 a2 k1 k2 _ _ W q1 q2 rfl rfl
           have hrlen : 0 < (digs (x.natAbs % y.natAbs)).length := by rw [digs_pos (by omega)]; simp
           obtain ⟨TQ, hTQ⟩ : ∃ T, textI (x / y) = T := ⟨_, rfl⟩
           obtain ⟨TR, hTR⟩ : ∃ T, textI (x % y) = T := ⟨_, rfl⟩
           rw [hTQ] at ck
           rw [hTR] at ct
           rw [hTQ, hTR]
           obtain ⟨qn, hqn⟩ : ∃ q, x.natAbs / y.natAbs = q := ⟨_, rfl⟩
           obtain ⟨rn, hrn⟩ : ∃ q, x.natAbs % y.natAbs = q := ⟨_, rfl⟩
           obtain ⟨r2, hr2⟩ : ∃ q, y.natAbs - x.natAbs % y.natAbs = q := ⟨_, rfl⟩
           rw [hr2] at ct
           rw [hrn] at hr2
           rw [hqn, hrn] at cd
           rw [hqn] at ck cp
           rw [hrn] at cm hrlen
           simp only [hr2] at cm
           obtain ⟨m, hm⟩ : ∃ m, (digs x.natAbs).length = m := ⟨_, rfl⟩
           obtain ⟨n, hn⟩ : ∃ m, (digs y.natAbs).length = m := ⟨_, rfl⟩
           rw [hm] at d1 cd
           rw [hn] at d2 cd cm
           obtain ⟨rl, hrl⟩ : ∃ m, (digs rn).length = m := ⟨_, rfl⟩
           rw [hrl] at hrlen
           rw [hrl] at cm
           have HRL := hid hrl
           have hrp : (0 : Int) < (rl : Int) := by omega
           have VA := hid va; have VB := hid vb; have D1 := hid d1; have D2 := hid d2; have CD := hid cd; have CK := hid ck; have CT := hid ct; have CP := hid cp; have CM := hid cm
           clear va vb d1 d2 cd ck ct i1 i2 hc hm hn h1 h2 g1 g2 hx hy f1 f2 l1 l2 hq hr hT hZ hR hTQ hTR hqn hrn hrl hbc hcast hql hmod hyn hy0 hdz ht48 hfit DX hx0 cp cm hr2 hmore
           go_enter Tryz.func96, Tryz.ntmps96
           go_wp2_with fail
           refine (VA.out _).mono ?_
           rintro e w1 ⟨rfl, rfl⟩
           go_wp2_with fail
           refine (VB.out _).mono ?_
           rintro e w2 ⟨rfl, rfl⟩
           go_wp2_with fail
           refine (D1.out _).mono ?_
           rintro e w3 ⟨a1, k1, rfl, q1, b3⟩
           go_wp2_with fail
           refine (D2.out _).mono ?_
           rintro e w4 ⟨a2, k2, rfl, q2, b4⟩
           have B4 := hid (b3.trans (b4.mono b3.size))
           have Q2 := hid q2
           have C := hid (CD.out w4 a1 k1 a2 k2 (q1.below b4 (Nat.le_refl _)) q2)
           clear q1 q2 b3 b4 CD
           go_wp2_with fail
           refine C.out.mono ?_
           rintro e w5 ⟨a5, k5, a6, k6, rfl, q5, q6, b5⟩
           have B5 := hid (B4.out.trans (b5.mono B4.out.size))
           have Q5 := hid q5; have Q6 := hid q6; have L5 := hid (Q2.out.below b5 (Nat.le_refl _))
           rw [HRL.out]
           clear q5 q6 b5 Q2 C
           go_wp2_with fail
           refine (CP.out w5 a5 k5 Q5.out).mono ?_
           rintro e w6 ⟨a7, k7, rfl, q7, b7, _⟩
           have b7' : Below w5.heap.size w5 w6 := ((Below.refl w5.heap.size w5).alloc (Nat.le_refl _) _).trans (b7.mono (by simp))
           have B6 := hid (B5.out.trans (b7'.mono B5.out.size)); have Q7 := hid q7
           have C := hid (CM.out w6 a2 k2 a6 k6 (L5.out.below b7' (Nat.le_refl _)) (Q6.out.below b7' (Nat.le_refl _)))
           clear q7 b7 b7' CP CM Q5 Q6 L5
           go_wp2_with fail
           refine C.out.mono ?_
           rintro e w7 ⟨a8, k8, rfl, q8, b8, _⟩
           have B7 := hid (B6.out.trans (b8.mono B6.out.size)); have Q8 := hid q8
           have CC := hid (CK.out w7 a7 k7 (Q7.out.below b8 (Nat.le_refl _)))
           clear q8 b8 CK Q7 C
           go_wp2_with fail
           refine CC.out.mono ?_
           rintro e w8 ⟨rfl, b8⟩
           have B8 := hid (B7.out.trans (b8.mono B7.out.size))
           have CX := hid (CT.out w8 a8 k8 (Q8.out.below b8 (Nat.le_refl _)))
           clear b8 CT Q8 CC
           go_wp2_with fail
           refine CX.out.mono ?_
           rintro e w9 ⟨rfl, b9⟩
           go_wp2
           go_ret3
           exact ⟨rfl, B8.out.trans (b9.mono B8.out.size)⟩
         replace hmore : x.natAbs % y.natAbs = 0 := by omega
         rw [DX] at d1 i1
         obtain ⟨hq, hr⟩ := div_plain i1 i2 hy0 (.inr hmore)
         have hbc : (true != c) = (!c) := by cases c <;> rfl
         rw [hbc] at hq
         have ck := fun W a1 k1 (q1 : HoldI W a1 k1 (digs (x.natAbs / y.natAbs))) => checked_any (!c) (x.natAbs / y.natAbs) a1 k1 _ W q1 rfl
         have ct := fun W a1 k1 (q1 : HoldI W a1 k1 (digs (x.natAbs % y.natAbs))) => text_any false (x.natAbs % y.natAbs) a1 k1 _ W q1 rfl
         rw [hq] at ck
         have hcast : intD false (x.natAbs % y.natAbs) = (((x.natAbs % y.natAbs) : Nat) : Int) := rfl
         rw [hcast, hr] at ct
         have hT : resT (x / y) = textI (x / y) := by unfold resT; rw [if_pos hfit]
         have hZ : resZ (x / y) = 0 := by unfold resZ; rw [if_pos hfit]
         have hR : resR x y = textI (x % y) := by unfold resR; rw [if_pos hfit]
         rw [hT, hZ] at ck
         rw [hT, hZ, hR]
         have hrlen : (digs (x.natAbs % y.natAbs)).length = 0 := by rw [hmore]; rfl
         obtain ⟨TQ, hTQ⟩ : ∃ T, textI (x / y) = T := ⟨_, rfl⟩
         obtain ⟨TR, hTR⟩ : ∃ T, textI (x % y) = T := ⟨_, rfl⟩
         rw [hTQ] at ck
         rw [hTR] at ct
         rw [hTQ, hTR]
         obtain ⟨qn, hqn⟩ : ∃ q, x.natAbs / y.natAbs = q := ⟨_, rfl⟩
         obtain ⟨rn, hrn⟩ : ∃ q, x.natAbs % y.natAbs = q := ⟨_, rfl⟩
         rw [hqn, hrn] at cd
         rw [hqn] at ck
         rw [hrn] at ct hrlen
         obtain ⟨m, hm⟩ : ∃ m, (digs x.natAbs).length = m := ⟨_, rfl⟩
         obtain ⟨n, hn⟩ : ∃ m, (digs y.natAbs).length = m := ⟨_, rfl⟩
         rw [hm] at d1 cd
         rw [hn] at d2 cd
         obtain ⟨rl, hrl⟩ : ∃ m, (digs rn).length = m := ⟨_, rfl⟩
         rw [hrl] at hrlen
         have HRL := hid hrl
         subst hrlen
         have VA := hid va; have VB := hid vb; have D1 := hid d1; have D2 := hid d2; have CD := hid cd; have CK := hid ck; have CT := hid ct
         clear va vb d1 d2 cd ck ct i1 i2 hc hm hn h1 h2 g1 g2 hx hy f1 f2 l1 l2 hq hr hT hZ hR hTQ hTR hqn hrn hrl hbc hcast hql hmod hyn hy0 hdz ht48 hfit DX hx0 hmore
         go_enter Tryz.func96, Tryz.ntmps96
         go_wp2_with fail
         refine (VA.out _).mono ?_
         rintro e w1 ⟨rfl, rfl⟩
         go_wp2_with fail
         refine (VB.out _).mono ?_
         rintro e w2 ⟨rfl, rfl⟩
         go_wp2_with fail
         refine (D1.out _).mono ?_
         rintro e w3 ⟨a1, k1, rfl, q1, b3⟩
         go_wp2_with fail
         refine (D2.out _).mono ?_
         rintro e w4 ⟨a2, k2, rfl, q2, b4⟩
         have B4 := hid (b3.trans (b4.mono b3.size))
         have Q2 := hid q2
         have C := hid (CD.out w4 a1 k1 a2 k2 (q1.below b4 (Nat.le_refl _)) q2)
         clear q1 q2 b3 b4 CD
         go_wp2_with fail
         refine C.out.mono ?_
         rintro e w5 ⟨a5, k5, a6, k6, rfl, q5, q6, b5⟩
         have B5 := hid (B4.out.trans (b5.mono B4.out.size))
         have Q5 := hid q5; have Q6 := hid q6; have L5 := hid (Q2.out.below b5 (Nat.le_refl _))
         rw [HRL.out]
         clear q5 q6 b5 Q2 C
         have CC := hid (CK.out w5 a5 k5 Q5.out)
         clear CK Q5 L5
         go_wp2_with fail
         refine CC.out.mono ?_
         rintro e w8 ⟨rfl, b8⟩
         have B8 := hid (B5.out.trans (b8.mono B5.out.size))
         have CX := hid (CT.out w8 a6 k6 (Q6.out.below b8 (Nat.le_refl _)))
         rw [HRL.out] at CX
         clear b8 CT Q6 CC
         go_wp2_with fail
         refine CX.out.mono ?_
         rintro e w9 ⟨rfl, b9⟩
         go_wp2
         go_ret3
         exact ⟨rfl, B8.out.trans (b9.mono B8.out.size)⟩
       have DX : decide (x < 0) = false := decide_eq_false hx0
       rw [DX] at d1 i1
       obtain ⟨hq, hr⟩ := div_plain i1 i2 hy0 (.inl rfl)
       have hbc : (false != c) = c := by cases c <;> rfl
       rw [hbc] at hq
       have ck := fun W a1 k1 (q1 : HoldI W a1 k1 (digs (x.natAbs / y.natAbs))) => checked_any c (x.natAbs / y.natAbs) a1 k1 _ W q1 rfl
       have ct := fun W a1 k1 (q1 : HoldI W a1 k1 (digs (x.natAbs % y.natAbs))) => text_any false (x.natAbs % y.natAbs) a1 k1 _ W q1 rfl
       rw [hq] at ck
       have hcast : intD false (x.natAbs % y.natAbs) = (((x.natAbs % y.natAbs) : Nat) : Int) := rfl
       rw [hcast, hr] at ct
       have hT : resT (x / y) = textI (x / y) := by unfold resT; rw [if_pos hfit]
       have hZ : resZ (x / y) = 0 := by unfold resZ; rw [if_pos hfit]
       have hR : resR x y = textI (x % y) := by unfold resR; rw [if_pos hfit]
       rw [hT, hZ] at ck
       rw [hT, hZ, hR]
       have hrlen : (digs (x.natAbs % y.natAbs)).length = (digs (x.natAbs % y.natAbs)).length := rfl
       obtain ⟨TQ, hTQ⟩ : ∃ T, textI (x / y) = T := ⟨_, rfl⟩
       obtain ⟨TR, hTR⟩ : ∃ T, textI (x % y) = T := ⟨_, rfl⟩
       rw [hTQ] at ck
       rw [hTR] at ct
       rw [hTQ, hTR]
       obtain ⟨qn, hqn⟩ : ∃ q, x.natAbs / y.natAbs = q := ⟨_, rfl⟩
       obtain ⟨rn, hrn⟩ : ∃ q, x.natAbs % y.natAbs = q := ⟨_, rfl⟩
       rw [hqn, hrn] at cd
       rw [hqn] at ck
       rw [hrn] at ct hrlen
       obtain ⟨m, hm⟩ : ∃ m, (digs x.natAbs).length = m := ⟨_, rfl⟩
       obtain ⟨n, hn⟩ : ∃ m, (digs y.natAbs).length = m := ⟨_, rfl⟩
       rw [hm] at d1 cd
       rw [hn] at d2 cd
       obtain ⟨rl, hrl⟩ : ∃ m, (digs rn).length = m := ⟨_, rfl⟩
       rw [hrl] at hrlen
       have HRL := hid hrl
       have VA := hid va; have VB := hid vb; have D1 := hid d1; have D2 := hid d2; have CD := hid cd; have CK := hid ck; have CT := hid ct
       clear va vb d1 d2 cd ck ct i1 i2 hc hm hn h1 h2 g1 g2 hx hy f1 f2 l1 l2 hq hr hT hZ hR hTQ hTR hqn hrn hrl hbc hcast hql hmod hyn hy0 hdz ht48 hfit DX hx0 hrlen
       go_enter Tryz.func96, Tryz.ntmps96
       go_wp2_with fail
       refine (VA.out _).mono ?_
       rintro e w1 ⟨rfl, rfl⟩
       go_wp2_with fail
       refine (VB.out _).mono ?_
       rintro e w2 ⟨rfl, rfl⟩
       go_wp2_with fail
       refine (D1.out _).mono ?_
       rintro e w3 ⟨a1, k1, rfl, q1, b3⟩
       go_wp2_with fail
       refine (D2.out _).mono ?_
       rintro e w4 ⟨a2, k2, rfl, q2, b4⟩
       have B4 := hid (b3.trans (b4.mono b3.size))
       have Q2 := hid q2
       have C := hid (CD.out w4 a1 k1 a2 k2 (q1.below b4 (Nat.le_refl _)) q2)
       clear q1 q2 b3 b4 CD
       go_wp2_with fail
       refine C.out.mono ?_
       rintro e w5 ⟨a5, k5, a6, k6, rfl, q5, q6, b5⟩
       have B5 := hid (B4.out.trans (b5.mono B4.out.size))
       have Q5 := hid q5; have Q6 := hid q6; have L5 := hid (Q2.out.below b5 (Nat.le_refl _))
       rw [HRL.out]
       clear q5 q6 b5 Q2 C
       have CC := hid (CK.out w5 a5 k5 Q5.out)
       clear CK Q5 L5
       go_wp2_with fail
       refine CC.out.mono ?_
       rintro e w8 ⟨rfl, b8⟩
       have B8 := hid (B5.out.trans (b8.mono B5.out.size))
       have CX := hid (CT.out w8 a6 k6 (Q6.out.below b8 (Nat.le_refl _)))
       rw [HRL.out] at CX
       clear b8 CT Q6 CC
       go_wp2_with fail
       refine CX.out.mono ?_
       rintro e w9 ⟨rfl, b9⟩
       go_wp2
       go_ret3
       exact ⟨rfl, B8.out.trans (b9.mono B8.out.size)⟩
     by_cases hx0 : x < 0
     · have DX : decide (x < 0) = true := decide_eq_true hx0
       by_cases hmore : 0 < x.natAbs % y.natAbs
       · rw [DX] at d1 i1
         obtain ⟨hq, hr⟩ := div_more i1 i2 hy0 hmore
         have hbc : (true != c) = (!c) := by cases c <;> rfl
         rw [hbc] at hq
         have ck := fun W a1 k1 (q1 : HoldI W a1 k1 (digs (x.natAbs / y.natAbs + 1))) => checked_any (!c) (x.natAbs / y.natAbs + 1) a1 k1 _ W q1 rfl
         have ct := fun W a1 k1 (q1 : HoldI W a1 k1 (digs (y.natAbs - x.natAbs % y.natAbs))) => text_any false (y.natAbs - x.natAbs % y.natAbs) a1 k1 _ W q1 rfl
         rw [hq] at ck
         have hcast : intD false (y.natAbs - x.natAbs % y.natAbs) = (((y.natAbs - x.natAbs % y.natAbs) : Nat) : Int) := rfl
         rw [hcast, hr] at ct
         have hT : resT (x / y) = ByteArray.empty := by unfold resT; rw [if_neg hfit]
         have hZ : resZ (x / y) = 30 := by unfold resZ; rw [if_neg hfit]
         have hR : resR x y = ByteArray.empty := by unfold resR; rw [if_neg hfit]
         rw [hT, hZ] at ck
         rw [hT, hZ, hR]
         have cp := fun W a1 k1 (q1 : HoldI W a1 k1 (digs (x.natAbs / y.natAbs))) => plus_any (x.natAbs / y.natAbs) 1 a1 (some ⟨W.heap.size, 0, none⟩) k1 1 _ 1 (W.alloc (.cells #[.int .i64 1] 3)) (q1.below ((Below.refl W.heap.size W).alloc (Nat.le_refl _) _) (Nat.le_refl _)) (hold_one W) rfl rfl (by omega) (by omega)
         have cm := fun W a1 k1 a2 k2 (q1 : HoldI W a1 k1 (digs y.natAbs)) (q2 : HoldI W a2 k2 (digs (x.natAbs % y.natAbs))) => minus_any y.natAbs (x.natAbs % y.natAbs) (by omega) a1 a2 k1 k2 _ _ W q1 q2 rfl rfl
         have hrlen : 0 < (digs (x.natAbs % y.natAbs)).length := by rw [digs_pos (by omega)]; simp
         obtain ⟨TQ, hTQ⟩ : ∃ T, textI (x / y) = T := ⟨_, rfl⟩
         obtain ⟨TR, hTR⟩ : ∃ T, textI (x % y) = T := ⟨_, rfl⟩
         rw [hTR] at ct
         obtain ⟨qn, hqn⟩ : ∃ q, x.natAbs / y.natAbs = q := ⟨_, rfl⟩
         obtain ⟨rn, hrn⟩ : ∃ q, x.natAbs % y.natAbs = q := ⟨_, rfl⟩
         obtain ⟨r2, hr2⟩ : ∃ q, y.natAbs - x.natAbs % y.natAbs = q := ⟨_, rfl⟩
         rw [hr2] at ct
         rw [hrn] at hr2
         rw [hqn, hrn] at cd
         rw [hqn] at ck cp
         rw [hrn] at cm hrlen
         simp only [hr2] at cm
         obtain ⟨m, hm⟩ : ∃ m, (digs x.natAbs).length = m := ⟨_, rfl⟩
         obtain ⟨n, hn⟩ : ∃ m, (digs y.natAbs).length = m := ⟨_, rfl⟩
         rw [hm] at d1 cd
         rw [hn] at d2 cd cm
         obtain ⟨rl, hrl⟩ : ∃ m, (digs rn).length = m := ⟨_, rfl⟩
         rw [hrl] at hrlen
         rw [hrl] at cm
         have HRL := hid hrl
         have hrp : (0 : Int) < (rl : Int) := by omega
         have VA := hid va; have VB := hid vb; have D1 := hid d1; have D2 := hid d2; have CD := hid cd; have CK := hid ck; have CT := hid ct; have CP := hid cp; have CM := hid cm
         clear va vb d1 d2 cd ck ct i1 i2 hc hm hn h1 h2 g1 g2 hx hy f1 f2 l1 l2 hq hr hT hZ hR hTQ hTR hqn hrn hrl hbc hcast hql hmod hyn hy0 hdz ht48 hfit DX hx0 cp cm hr2 hmore
         go_enter Tryz.func96, Tryz.ntmps96
         go_wp2_with fail
         refine (VA.out _).mono ?_
         rintro e w1 ⟨rfl, rfl⟩
         go_wp2_with fail
         refine (VB.out _).mono ?_
         rintro e w2 ⟨rfl, rfl⟩
         go_wp2_with fail
         refine (D1.out _).mono ?_
         rintro e w3 ⟨a1, k1, rfl, q1, b3⟩
         go_wp2_with fail
         refine (D2.out _).mono ?_
         rintro e w4 ⟨a2, k2, rfl, q2, b4⟩
         have B4 := hid (b3.trans (b4.mono b3.size))
         have Q2 := hid q2
         have C := hid (CD.out w4 a1 k1 a2 k2 (q1.below b4 (Nat.le_refl _)) q2)
         clear q1 q2 b3 b4 CD
         go_wp2_with fail
         refine C.out.mono ?_
         rintro e w5 ⟨a5, k5, a6, k6, rfl, q5, q6, b5⟩
         have B5 := hid (B4.out.trans (b5.mono B4.out.size))
         have Q5 := hid q5; have Q6 := hid q6; have L5 := hid (Q2.out.below b5 (Nat.le_refl _))
         rw [HRL.out]
         clear q5 q6 b5 Q2 C
         go_wp2_with fail
         refine (CP.out w5 a5 k5 Q5.out).mono ?_
         rintro e w6 ⟨a7, k7, rfl, q7, b7, _⟩
         have b7' : Below w5.heap.size w5 w6 := ((Below.refl w5.heap.size w5).alloc (Nat.le_refl _) _).trans (b7.mono (by simp))
         have B6 := hid (B5.out.trans (b7'.mono B5.out.size)); have Q7 := hid q7
         have C := hid (CM.out w6 a2 k2 a6 k6 (L5.out.below b7' (Nat.le_refl _)) (Q6.out.below b7' (Nat.le_refl _)))
         clear q7 b7 b7' CP CM Q5 Q6 L5
         go_wp2_with fail
         refine C.out.mono ?_
         rintro e w7 ⟨a8, k8, rfl, q8, b8, _⟩
         have B7 := hid (B6.out.trans (b8.mono B6.out.size)); have Q8 := hid q8
         have CC := hid (CK.out w7 a7 k7 (Q7.out.below b8 (Nat.le_refl _)))
         clear q8 b8 CK Q7 C
         go_wp2_with fail
         refine CC.out.mono ?_
         rintro e w8 ⟨rfl, b8⟩
         have B8 := hid (B7.out.trans (b8.mono B7.out.size))
         have CX := hid (CT.out w8 a8 k8 (Q8.out.below b8 (Nat.le_refl _)))
         clear b8 CT Q8 CC
         go_wp2_with fail
         refine CX.out.mono ?_
         rintro e w9 ⟨rfl, b9⟩
         go_wp2
         go_ret3
         exact ⟨rfl, B8.out.trans (b9.mono B8.out.size)⟩
       replace hmore : x.natAbs % y.natAbs = 0 := by omega
       rw [DX] at d1 i1
       obtain ⟨hq, hr⟩ := div_plain i1 i2 hy0 (.inr hmore)
       have hbc : (true != c) = (!c) := by cases c <;> rfl
       rw [hbc] at hq
       have ck := fun W a1 k1 (q1 : HoldI W a1 k1 (digs (x.natAbs / y.natAbs))) => checked_any (!c) (x.natAbs / y.natAbs) a1 k1 _ W q1 rfl
       have ct := fun W a1 k1 (q1 : HoldI W a1 k1 (digs (x.natAbs % y.natAbs))) => text_any false (x.natAbs % y.natAbs) a1 k1 _ W q1 rfl
       rw [hq] at ck
       have hcast : intD false (x.natAbs % y.natAbs) = (((x.natAbs % y.natAbs) : Nat) : Int) := rfl
       rw [hcast, hr] at ct
       have hT : resT (x / y) = ByteArray.empty := by unfold resT; rw [if_neg hfit]
       have hZ : resZ (x / y) = 30 := by unfold resZ; rw [if_neg hfit]
       have hR : resR x y = ByteArray.empty := by unfold resR; rw [if_neg hfit]
       rw [hT, hZ] at ck
       rw [hT, hZ, hR]
       have hrlen : (digs (x.natAbs % y.natAbs)).length = 0 := by rw [hmore]; rfl
       obtain ⟨TQ, hTQ⟩ : ∃ T, textI (x / y) = T := ⟨_, rfl⟩
       obtain ⟨TR, hTR⟩ : ∃ T, textI (x % y) = T := ⟨_, rfl⟩
       rw [hTR] at ct
       obtain ⟨qn, hqn⟩ : ∃ q, x.natAbs / y.natAbs = q := ⟨_, rfl⟩
       obtain ⟨rn, hrn⟩ : ∃ q, x.natAbs % y.natAbs = q := ⟨_, rfl⟩
       rw [hqn, hrn] at cd
       rw [hqn] at ck
       rw [hrn] at ct hrlen
       obtain ⟨m, hm⟩ : ∃ m, (digs x.natAbs).length = m := ⟨_, rfl⟩
       obtain ⟨n, hn⟩ : ∃ m, (digs y.natAbs).length = m := ⟨_, rfl⟩
       rw [hm] at d1 cd
       rw [hn] at d2 cd
       obtain ⟨rl, hrl⟩ : ∃ m, (digs rn).length = m := ⟨_, rfl⟩
       rw [hrl] at hrlen
       have HRL := hid hrl
       subst hrlen
       have VA := hid va; have VB := hid vb; have D1 := hid d1; have D2 := hid d2; have CD := hid cd; have CK := hid ck; have CT := hid ct
       clear va vb d1 d2 cd ck ct i1 i2 hc hm hn h1 h2 g1 g2 hx hy f1 f2 l1 l2 hq hr hT hZ hR hTQ hTR hqn hrn hrl hbc hcast hql hmod hyn hy0 hdz ht48 hfit DX hx0 hmore
       go_enter Tryz.func96, Tryz.ntmps96
       go_wp2_with fail
       refine (VA.out _).mono ?_
       rintro e w1 ⟨rfl, rfl⟩
       go_wp2_with fail
       refine (VB.out _).mono ?_
       rintro e w2 ⟨rfl, rfl⟩
       go_wp2_with fail
       refine (D1.out _).mono ?_
       rintro e w3 ⟨a1, k1, rfl, q1, b3⟩
       go_wp2_with fail
       refine (D2.out _).mono ?_
       rintro e w4 ⟨a2, k2, rfl, q2, b4⟩
       have B4 := hid (b3.trans (b4.mono b3.size))
       have Q2 := hid q2
       have C := hid (CD.out w4 a1 k1 a2 k2 (q1.below b4 (Nat.le_refl _)) q2)
       clear q1 q2 b3 b4 CD
       go_wp2_with fail
       refine C.out.mono ?_
       rintro e w5 ⟨a5, k5, a6, k6, rfl, q5, q6, b5⟩
       have B5 := hid (B4.out.trans (b5.mono B4.out.size))
       have Q5 := hid q5; have Q6 := hid q6; have L5 := hid (Q2.out.below b5 (Nat.le_refl _))
       rw [HRL.out]
       clear q5 q6 b5 Q2 C
       have CC := hid (CK.out w5 a5 k5 Q5.out)
       clear CK Q5 L5
       go_wp2_with fail
       refine CC.out.mono ?_
       rintro e w8 ⟨rfl, b8⟩
       have B8 := hid (B5.out.trans (b8.mono B5.out.size))
       have CX := hid (CT.out w8 a6 k6 (Q6.out.below b8 (Nat.le_refl _)))
       rw [HRL.out] at CX
       clear b8 CT Q6 CC
       go_wp2_with fail
       refine CX.out.mono ?_
       rintro e w9 ⟨rfl, b9⟩
       go_wp2
       go_ret3
       exact ⟨rfl, B8.out.trans (b9.mono B8.out.size)⟩
     have DX : decide (x < 0) = false := decide_eq_false hx0
     rw [DX] at d1 i1
     obtain ⟨hq, hr⟩ := div_plain i1 i2 hy0 (.inl rfl)
     have hbc : (false != c) = c := by cases c <;> rfl
     rw [hbc] at hq
     have ck := fun W a1 k1 (q1 : HoldI W a1 k1 (digs (x.natAbs / y.natAbs))) => checked_any c (x.natAbs / y.natAbs) a1 k1 _ W q1 rfl
     have ct := fun W a1 k1 (q1 : HoldI W a1 k1 (digs (x.natAbs % y.natAbs))) => text_any false (x.natAbs % y.natAbs) a1 k1 _ W q1 rfl
     rw [hq] at ck
     have hcast : intD false (x.natAbs % y.natAbs) = (((x.natAbs % y.natAbs) : Nat) : Int) := rfl
     rw [hcast, hr] at ct
     have hT : resT (x / y) = ByteArray.empty := by unfold resT; rw [if_neg hfit]
     have hZ : resZ (x / y) = 30 := by unfold resZ; rw [if_neg hfit]
     have hR : resR x y = ByteArray.empty := by unfold resR; rw [if_neg hfit]
     rw [hT, hZ] at ck
     rw [hT, hZ, hR]
     have hrlen : (digs (x.natAbs % y.natAbs)).length = (digs (x.natAbs % y.natAbs)).length := rfl
     obtain ⟨TQ, hTQ⟩ : ∃ T, textI (x / y) = T := ⟨_, rfl⟩
     obtain ⟨TR, hTR⟩ : ∃ T, textI (x % y) = T := ⟨_, rfl⟩
     rw [hTR] at ct
     obtain ⟨qn, hqn⟩ : ∃ q, x.natAbs / y.natAbs = q := ⟨_, rfl⟩
     obtain ⟨rn, hrn⟩ : ∃ q, x.natAbs % y.natAbs = q := ⟨_, rfl⟩
     rw [hqn, hrn] at cd
     rw [hqn] at ck
     rw [hrn] at ct hrlen
     obtain ⟨m, hm⟩ : ∃ m, (digs x.natAbs).length = m := ⟨_, rfl⟩
     obtain ⟨n, hn⟩ : ∃ m, (digs y.natAbs).length = m := ⟨_, rfl⟩
     rw [hm] at d1 cd
     rw [hn] at d2 cd
     obtain ⟨rl, hrl⟩ : ∃ m, (digs rn).length = m := ⟨_, rfl⟩
     rw [hrl] at hrlen
     have HRL := hid hrl
     have VA := hid va; have VB := hid vb; have D1 := hid d1; have D2 := hid d2; have CD := hid cd; have CK := hid ck; have CT := hid ct
     clear va vb d1 d2 cd ck ct i1 i2 hc hm hn h1 h2 g1 g2 hx hy f1 f2 l1 l2 hq hr hT hZ hR hTQ hTR hqn hrn hrl hbc hcast hql hmod hyn hy0 hdz ht48 hfit DX hx0 hrlen
     go_enter Tryz.func96, Tryz.ntmps96
     go_wp2_with fail
     refine (VA.out _).mono ?_
     rintro e w1 ⟨rfl, rfl⟩
     go_wp2_with fail
     refine (VB.out _).mono ?_
     rintro e w2 ⟨rfl, rfl⟩
     go_wp2_with fail
     refine (D1.out _).mono ?_
     rintro e w3 ⟨a1, k1, rfl, q1, b3⟩
     go_wp2_with fail
     refine (D2.out _).mono ?_
     rintro e w4 ⟨a2, k2, rfl, q2, b4⟩
     have B4 := hid (b3.trans (b4.mono b3.size))
     have Q2 := hid q2
     have C := hid (CD.out w4 a1 k1 a2 k2 (q1.below b4 (Nat.le_refl _)) q2)
     clear q1 q2 b3 b4 CD
     go_wp2_with fail
     refine C.out.mono ?_
     rintro e w5 ⟨a5, k5, a6, k6, rfl, q5, q6, b5⟩
     have B5 := hid (B4.out.trans (b5.mono B4.out.size))
     have Q5 := hid q5; have Q6 := hid q6; have L5 := hid (Q2.out.below b5 (Nat.le_refl _))
     rw [HRL.out]
     clear q5 q6 b5 Q2 C
     have CC := hid (CK.out w5 a5 k5 Q5.out)
     clear CK Q5 L5
     go_wp2_with fail
     refine CC.out.mono ?_
     rintro e w8 ⟨rfl, b8⟩
     have B8 := hid (B5.out.trans (b8.mono B5.out.size))
     have CX := hid (CT.out w8 a6 k6 (Q6.out.below b8 (Nat.le_refl _)))
     rw [HRL.out] at CX
     clear b8 CT Q6 CC
     go_wp2_with fail
     refine CX.out.mono ?_
     rintro e w9 ⟨rfl, b9⟩
     go_wp2
     go_ret3
     exact ⟨rfl, B8.out.trans (b9.mono B8.out.size)⟩
   have h2' : validB t = false := by simpa using h2
   rw [h1] at va
   rw [h2'] at vb
   rw [h1, h2', Bool.and_false, Bool.false_and, if_neg (by simp), if_neg (by simp), if_neg (by simp)]
   have VA := hid va; have VB := hid vb
   clear va vb h1 h2 h2'
   go_enter Tryz.func96, Tryz.ntmps96
   go_wp2_with fail
   refine (VA.out _).mono ?_
   rintro e w1 ⟨rfl, rfl⟩
   go_wp2_with fail
   refine (VB.out _).mono ?_
   rintro e w2 ⟨rfl, rfl⟩
   go_wp2
   go_ret3
   exact ⟨rfl, Below.refl _ _⟩
 have h1' : validB s = false := by simpa using h1
 rw [h1'] at va
 rw [h1', Bool.false_and, Bool.false_and, if_neg (by simp), if_neg (by simp), if_neg (by simp)]
 have VA := hid va
 clear va vb h1 h1'
 go_enter Tryz.func96, Tryz.ntmps96
 go_wp2_with fail
 refine (VA.out _).mono ?_
 rintro e w1 ⟨rfl, rfl⟩
 go_wp2
 go_ret3
 exact ⟨rfl, Below.refl _ _⟩
end Go.Proofs.YtcglcgphgahnpaaGreatDoor
namespace Go.Proofs.YtcglcgphgahnpaaGreatDoor
open Go Go.Proofs Go.RowKit Go.Lib
theorem fromR_any (n : Int) (hlo : -9223372036854775808 ≤ n) (hhi : n ≤ 9223372036854775807) (w : World) :
 Calls Tryz.prog 84 #[.int .i64 n] w fun e w' => e = .returned (.string (textI n)) ∧ Below w.heap.size w w' := by
 obtain ⟨N, hN⟩ : ∃ N, n.natAbs = N := ⟨_, rfl⟩
 have hN63 : N ≤ 9223372036854775808 := by omega
 have hl20 : (digs N).length ≤ 19 := digs_length_le 19 N (by omega)
 obtain ⟨T, hT⟩ : ∃ T, textI n = T := ⟨_, rfl⟩
 rw [hT]
 by_cases hneg : n < 0
 · have hnd : n = -(N : Int) := by omega
   have ct := fun W a k m (q : HoldI W a k (digs N)) (hm : (digs N).length = m) => text_any true N a k m W q hm
   have hi : intD true N = n := by simp [intD]; omega
   rw [hi, hT] at ct
   have CT := hid ct
   clear ct hi hT hN
   subst hnd
   have hlt1 : (-(N : Int) < 0) := hneg
   have hlt2 : decide (-(N : Int) < 0) = true := decide_eq_true hlt1
   have hlt3 : decide (0 < (N : Int)) = true := decide_eq_true (by omega)
   have hlt4 : decide (0 < N) = true := decide_eq_true (by omega)
   go_enter Tryz.func84, Tryz.ntmps84
   go_wp2_with fail
   go_loopw [3, 4] (fun v u wr => ∃ (out : List Nat) (M : Nat), M ≤ 9223372036854775808 ∧ u = .int .i64 (-(M : Int)) ∧ Hid (out ++ digs M = digs N) ∧ Hid (OwnI wr w.heap.size v out) ∧ Hid (Below w.heap.size w wr)) (fun _ u _ => (RowKit.intOf u).natAbs)
   case atStart => exact ⟨[], N, hN63, rfl, rfl, OwnI.nil _ _, Below.refl _ _⟩
   obtain ⟨out, M, hM, rfl, hap, hown, hbr⟩ := hrel
   by_cases hM0 : M = 0
   · subst hM0
     have ho : out = digs N := by rw [← hap.out, digs_zero, List.append_nil]
     subst ho
     have hz : ((-((0 : Nat) : Int)) != 0) = false := by simp
     obtain ⟨q, hq⟩ : ∃ q, (digs N).length = q := ⟨_, rfl⟩
     obtain ⟨ad, cap, rfl, hh⟩ := hown.out.holds q hq (by omega)
     have C := hid (CT.out wr ad cap q hh hq)
     clear hh hown hap CT hq hl20
     go_wp2_with fail
     refine C.out.mono ?_
     rintro e w1 ⟨rfl, b1⟩
     go_wp2
     go_ret
     exact ⟨rfl, hbr.out.trans (b1.mono hbr.out.size)⟩
   have hMn : -(M : Int) ≠ 0 := by omega
   have hz1 : ((-(M : Int)) != 0) = true := by rw [bne_iff_ne]; exact hMn
   have hz2 : ((M : Int) != 0) = true := by rw [bne_iff_ne]; omega
   have hz3 : ((M : Int) == 0) = false := by rw [beq_eq_false_iff_ne]; omega
   have hz4 : 0 < M := by omega
   have hdp := digs_pos hM0
   obtain ⟨d, hd⟩ : ∃ d, M % 10 = d := ⟨_, rfl⟩
   obtain ⟨c, hc⟩ : ∃ d, M / 10 = d := ⟨_, rfl⟩
   rw [hd, hc] at hdp
   have hd10 : d < 10 := by omega
   have hr1 : (M : Int) % 10 = (d : Int) := by omega
   have hr2 : (M : Int) / 10 = (c : Int) := by omega
   have hr3 : Int.tmod (M : Int) 10 = (d : Int) := by rw [Int.tmod_eq_emod_of_nonneg (by omega)]; exact hr1
   have hr4 : Int.tdiv (M : Int) 10 = (c : Int) := by rw [Int.tdiv_eq_ediv_of_nonneg (by omega)]; exact hr2
   have hr5 : Int.tmod (-(M : Int)) 10 = -(d : Int) := by rw [Int.neg_tmod, hr3]
   have hr6 : Int.tdiv (-(M : Int)) 10 = -(c : Int) := by rw [Int.neg_tdiv, hr4]
   have hap2 : (out ++ [d]) ++ digs c = digs N := by rw [List.append_assoc, ← hap.out, hdp]; rfl
   have hol : out.length + 1 ≤ 17592186044416 := by
    have := congrArg List.length hap.out
    rw [List.length_append] at this; omega
   have hsize := hbr.out.size
   have hcM : c < M := by omega
   have HAP := hid hap2
   clear hap2 hdp hd hc hap hM0
   by_cases hd0 : d = 0
   · subst hd0
     have hg1 : ¬ (-((0 : Nat) : Int) < 0) := by omega
     go_wp2_with (first | (at_builtin; refine walk_pushI (w0 := w) rfl _ _ rfl w.heap.size _ out [0] rfl (hown.out.alloc _) (hbr.out.alloc hsize _) (Nat.le_trans hsize (by simp)) wr.heap.size 0 1 1 rfl rfl (new_num1 .i64 wr _ 0 (by first | rfl | omega) _) hol ?_; intro v3 W3 ho3 hb3))
     go_roundw
     case rel => exact ⟨out ++ [0], c, by omega, by first | rfl | go_num, HAP.out, ho3, hb3⟩
     case measure => simp [RowKit.intOf]; omega
   have hg1 : -(d : Int) < 0 := by omega
   have hg2 : (0 : Int) < (d : Int) := by omega
   have hg3 : 0 < d := by omega
   go_wp2_with (first | (at_builtin; refine walk_pushI (w0 := w) rfl _ _ rfl w.heap.size _ out [d] rfl (hown.out.alloc _) (hbr.out.alloc hsize _) (Nat.le_trans hsize (by simp)) wr.heap.size 0 1 1 rfl rfl (new_num1 .i64 wr _ d (by first | rfl | omega) _) hol ?_; intro v3 W3 ho3 hb3))
   go_roundw
   case rel => exact ⟨out ++ [d], c, by omega, by first | rfl | go_num, HAP.out, ho3, hb3⟩
   case measure => simp [RowKit.intOf]; omega
 have hnd : n = (N : Int) := by omega
 have ct := fun W a k m (q : HoldI W a k (digs N)) (hm : (digs N).length = m) => text_any false N a k m W q hm
 have hi : intD false N = n := by simp [intD]; omega
 rw [hi, hT] at ct
 have CT := hid ct
 clear ct hi hT hN
 subst hnd
 have hlt1 : ¬ ((N : Int) < 0) := hneg
 have hlt2 : decide ((N : Int) < 0) = false := decide_eq_false hlt1
 go_enter Tryz.func84, Tryz.ntmps84
 go_wp2_with fail
 go_loopw [3, 4] (fun v u wr => ∃ (out : List Nat) (M : Nat), M ≤ 9223372036854775808 ∧ u = .int .i64 ((M : Int)) ∧ Hid (out ++ digs M = digs N) ∧ Hid (OwnI wr w.heap.size v out) ∧ Hid (Below w.heap.size w wr)) (fun _ u _ => (RowKit.intOf u).natAbs)
 case atStart => exact ⟨[], N, hN63, rfl, rfl, OwnI.nil _ _, Below.refl _ _⟩
 obtain ⟨out, M, hM, rfl, hap, hown, hbr⟩ := hrel
 by_cases hM0 : M = 0
 · subst hM0
   have ho : out = digs N := by rw [← hap.out, digs_zero, List.append_nil]
   subst ho
   have hz : ((((0 : Nat) : Int)) != 0) = false := by simp
   obtain ⟨q, hq⟩ : ∃ q, (digs N).length = q := ⟨_, rfl⟩
   obtain ⟨ad, cap, rfl, hh⟩ := hown.out.holds q hq (by omega)
   have C := hid (CT.out wr ad cap q hh hq)
   clear hh hown hap CT hq hl20
   go_wp2_with fail
   refine C.out.mono ?_
   rintro e w1 ⟨rfl, b1⟩
   go_wp2
   go_ret
   exact ⟨rfl, hbr.out.trans (b1.mono hbr.out.size)⟩
 have hMn : (M : Int) ≠ 0 := by omega
 have hz1 : (((M : Int)) != 0) = true := by rw [bne_iff_ne]; exact hMn
 have hz2 : ((M : Int) != 0) = true := by rw [bne_iff_ne]; omega
 have hz3 : ((M : Int) == 0) = false := by rw [beq_eq_false_iff_ne]; omega
 have hz4 : 0 < M := by omega
 have hdp := digs_pos hM0
 obtain ⟨d, hd⟩ : ∃ d, M % 10 = d := ⟨_, rfl⟩
 obtain ⟨c, hc⟩ : ∃ d, M / 10 = d := ⟨_, rfl⟩
 rw [hd, hc] at hdp
 have hd10 : d < 10 := by omega
 have hr1 : (M : Int) % 10 = (d : Int) := by omega
 have hr2 : (M : Int) / 10 = (c : Int) := by omega
 have hr3 : Int.tmod (M : Int) 10 = (d : Int) := by rw [Int.tmod_eq_emod_of_nonneg (by omega)]; exact hr1
 have hr4 : Int.tdiv (M : Int) 10 = (c : Int) := by rw [Int.tdiv_eq_ediv_of_nonneg (by omega)]; exact hr2
 have hr5 : Int.tmod (-(M : Int)) 10 = -(d : Int) := by rw [Int.neg_tmod, hr3]
 have hr6 : Int.tdiv (-(M : Int)) 10 = -(c : Int) := by rw [Int.neg_tdiv, hr4]
 have hap2 : (out ++ [d]) ++ digs c = digs N := by rw [List.append_assoc, ← hap.out, hdp]; rfl
 have hol : out.length + 1 ≤ 17592186044416 := by
  have := congrArg List.length hap.out
  rw [List.length_append] at this; omega
 have hsize := hbr.out.size
 have hcM : c < M := by omega
 have HAP := hid hap2
 clear hap2 hdp hd hc hap hM0
 have hg1 : ¬ ((d : Int) < 0) := by omega
 go_wp2_with (first | (at_builtin; refine walk_pushI (w0 := w) rfl _ _ rfl w.heap.size _ out [d] rfl (hown.out.alloc _) (hbr.out.alloc hsize _) (Nat.le_trans hsize (by simp)) wr.heap.size 0 1 1 rfl rfl (new_num1 .i64 wr _ d (by first | rfl | omega) _) hol ?_; intro v3 W3 ho3 hb3))
 go_roundw
 case rel => exact ⟨out ++ [d], c, by omega, by first | rfl | go_num, HAP.out, ho3, hb3⟩
 case measure => simp [RowKit.intOf]; omega
end Go.Proofs.YtcglcgphgahnpaaGreatDoor
namespace Go.Proofs.YtcglcgphgahnpaaGreatDoor
open Go Go.Proofs Go.RowKit Go.Lib
theorem zero_eqQ {t : ByteArray} (h : validB t = true) : numB t = 0 ↔ t = ⟨#[48]⟩ := by
 constructor
 · intro e
   have := (text_valid h).2
   rw [e] at this
   exact this
 rintro rfl
 decide +kernel
theorem reduce_num {n d : Int} (hd : 0 < d) : (Rat.divInt n d).num = n / gcdI n d ∧ ((Rat.divInt n d).den : Int) = d / gcdI n d := by
 have e : ((d.gcd n : Nat) : Int) = gcdI n d := by unfold gcdI; rw [Int.gcd, Nat.gcd_comm]
 constructor
 · rw [Rat.num_divInt, Int.sign_eq_one_of_pos hd, Int.one_mul, e]
 rw [Rat.den_divInt, if_neg (by omega), ← e, Int.natCast_ediv]
 rw [show ((d.natAbs : Nat) : Int) = d by omega]
theorem gcd_posQ {n d : Int} (hd : 0 < d) : 0 < gcdI n d := by
 unfold gcdI
 have := Nat.gcd_pos_of_pos_right n.natAbs (show 0 < d.natAbs by omega)
 omega
theorem quot_fitsQ {x y : Int} (hx : Fits x) : (x / y).natAbs < 10 ^ 200 := Nat.lt_of_le_of_lt (Int.natAbs_ediv_le_natAbs x y) hx
theorem gcd_texts {n d : Int} (hn : Fits n) (hd : Fits d) (hp : 0 < d) : opT gcdI (textI n) (textI d) = textI (gcdI n d) ∧ opZ gcdI (textI n) (textI d) = 0 ∧ Fits (gcdI n d) := by
 have hg : Fits (gcdI n d) := by
  unfold Fits gcdI at *
  have := Nat.le_of_dvd (by omega) (Nat.gcd_dvd_right n.natAbs d.natAbs)
  omega
 have hg' : (gcdI n d).natAbs < 10 ^ 200 := hg
 unfold opT opZ resT resZ
 rw [(valid_text hn).1, (valid_text hd).1, (valid_text hn).2, (valid_text hd).2, Bool.true_and, if_pos rfl, if_pos rfl, if_pos hg', if_pos hg']
 exact ⟨rfl, rfl, hg⟩
theorem div_texts {n g : Int} (hn : Fits n) (hg : Fits g) (h0 : g ≠ 0) : divQ (textI n) (textI g) = textI (n / g) ∧ divZ (textI n) (textI g) = 0 := by
 unfold divQ divZ resT resZ
 rw [(valid_text hn).1, (valid_text hg).1, (valid_text hn).2, (valid_text hg).2, decide_eq_true h0, Bool.true_and, Bool.true_and, if_pos rfl, if_pos rfl, if_pos (quot_fitsQ hn), if_pos (quot_fitsQ hn)]
 exact ⟨rfl, rfl⟩
theorem sub_zero_text {s : ByteArray} (h : validB s = true) : opT (· - ·) ⟨#[48]⟩ s = textI (-numB s) ∧ opZ (· - ·) ⟨#[48]⟩ s = 0 ∧ Fits (-numB s) := by
 have e : validB (⟨#[48]⟩ : ByteArray) = true ∧ numB ⟨#[48]⟩ = 0 := by decide +kernel
 have hf : Fits (-numB s) := by have := (text_valid h).1; unfold Fits at *; omega
 have hf' : (0 - numB s).natAbs < 10 ^ 200 := by rw [show 0 - numB s = -numB s by omega]; exact hf
 unfold opT opZ resT resZ
 rw [e.1, e.2, h, Bool.true_and, if_pos rfl, if_pos rfl]
 show (if (0 - numB s).natAbs < 10 ^ 200 then textI (0 - numB s) else ByteArray.empty) = _ ∧ _
 rw [if_pos hf', show 0 - numB s = -numB s by omega]
 refine ⟨rfl, ?_, hf⟩
 show (if (0 - numB s).natAbs < 10 ^ 200 then (0 : Int) else 30) = 0
 rw [if_pos hf']
theorem le_of_fits {x : Int} (h : Fits x) : (textI x).size ≤ 1099511627776 := by have := fits_size h; omega
theorem makeR4_any (s t : ByteArray) (hs : s.size ≤ 1099511627776) (ht : t.size ≤ 1099511627776) (w : World) :
 Calls Tryz.prog 83 #[.string s, .string t] w fun e w' => e = .returned (.tuple #[.agg #[.string (outN (makeB s t) (valQ s t)), .string (outD (makeB s t) (valQ s t))], .int .i64 (outE (makeB s t))]) ∧ Below w.heap.size w w' := by
 obtain ⟨W0, hW0, b0, hcc⟩ := box_one w ⟨#[]⟩ ⟨#[]⟩
 have va := fun W => valid_any s hs W
 have vb := fun W => valid_any t ht W
 have cm := fun W => cmpR_any t ⟨#[48]⟩ ht (by decide) W
 have cs := fun W => subR_any ⟨#[48]⟩ s (by decide) hs W
 have ct := fun W => subR_any ⟨#[48]⟩ t (by decide) ht W
 have HW := hid hW0; have HC := hid hcc; have B0 := hid b0
 have P0 := hid (Below.refl W0.heap.size W0)
 clear hW0 hcc b0
 cases h1 : validB s with
 | false =>
  have hv : makeB s t = false := by unfold makeB; rw [h1]; rfl
  rw [h1] at va
  rw [hv]
  have VA := hid va; have VB := hid vb
  clear va vb cm cs ct h1 hv
  go_enter Tryz.func83, Tryz.ntmps83
  obtain ⟨ca0, cb0, cc0, cd0⟩ := HC.out _ (Below.refl _ _)
  go_wp2_with (rw [HW.out])
  refine (VA.out _).mono ?_
  rintro e wq107 ⟨rfl, rfl⟩
  go_wp2_with fail
  refine (VB.out _).mono ?_
  rintro e wq110 ⟨rfl, rfl⟩
  go_wp2_with fail
  refine bodyPost_ret (v := .tuple #[.agg #[.string ⟨#[]⟩, .string ⟨#[]⟩], .int .i64 40]) (by simp [results, Tryz.results83, go_sem, ca0, cb0]) rfl ⟨rfl, rat_done B0.out (Nat.le_refl _) P0.out _ _⟩
 | true =>
  cases h2 : validB t with
  | false =>
   have hv : makeB s t = false := by unfold makeB; rw [h1, h2]; rfl
   rw [h1] at va
   rw [h2] at vb
   rw [hv]
   have VA := hid va; have VB := hid vb
   clear va vb cm cs ct h1 h2 hv
   go_enter Tryz.func83, Tryz.ntmps83
   obtain ⟨ca0, cb0, cc0, cd0⟩ := HC.out _ (Below.refl _ _)
   go_wp2_with (rw [HW.out])
   refine (VA.out _).mono ?_
   rintro e wq107 ⟨rfl, rfl⟩
   go_wp2_with fail
   refine (VB.out _).mono ?_
   rintro e wq110 ⟨rfl, rfl⟩
   go_wp2_with fail
   refine bodyPost_ret (v := .tuple #[.agg #[.string ⟨#[]⟩, .string ⟨#[]⟩], .int .i64 40]) (by simp [results, Tryz.results83, go_sem, ca0, cb0]) rfl ⟨rfl, rat_done B0.out (Nat.le_refl _) P0.out _ _⟩
  | true =>
   rw [h1] at va
   rw [h2] at vb
   have he1 : (t.toList == (⟨#[48]⟩ : ByteArray).toList) = decide (numB t = 0) := by rw [str_eq_iff]; exact decide_eq_decide.2 (zero_eqQ h2).symm
   have he2 : (t.toList == [48]) = decide (numB t = 0) := by rw [← list48]; exact he1
   by_cases h3 : numB t = 0
   · have hv : makeB s t = false := by unfold makeB; rw [h1, h2, decide_eq_false (by omega)]; rfl
     rw [decide_eq_true h3] at he1 he2
     rw [hv]
     have VA := hid va; have VB := hid vb
     clear va vb cm cs ct h1 h2 h3 hv
     go_enter Tryz.func83, Tryz.ntmps83
     obtain ⟨ca0, cb0, cc0, cd0⟩ := HC.out _ (Below.refl _ _)
     go_wp2_with (rw [HW.out])
     refine (VA.out _).mono ?_
     rintro e wq107 ⟨rfl, rfl⟩
     go_wp2_with fail
     refine (VB.out _).mono ?_
     rintro e wq110 ⟨rfl, rfl⟩
     go_wp2_with fail
     refine bodyPost_ret (v := .tuple #[.agg #[.string ⟨#[]⟩, .string ⟨#[]⟩], .int .i64 40]) (by simp [results, Tryz.results83, go_sem, ca0, cb0]) rfl ⟨rfl, rat_done B0.out (Nat.le_refl _) P0.out _ _⟩
   have hv : makeB s t = true := by unfold makeB; rw [h1, h2, decide_eq_true h3]; rfl
   rw [decide_eq_false h3] at he1 he2
   rw [hv, cmp_zero h2] at *
   by_cases h4 : numB t < 0
   · obtain ⟨s1, s2, s3⟩ := sub_zero_text h1
     obtain ⟨t1, t2, t3⟩ := sub_zero_text h2
     rw [s1, s2] at cs
     rw [t1, t2] at ct
     have hval : valQ s t = Rat.divInt (-numB s) (-numB t) := by unfold valQ; rw [Rat.neg_divInt_neg]
     have hsg : decide (sgZ (numB t) 0 < 0) = true := by unfold sgZ; rw [if_pos h4]; rfl
     have hp : 0 < -numB t := by omega
     obtain ⟨n, hn⟩ : ∃ n, -numB s = n := ⟨_, rfl⟩
     obtain ⟨d, hd⟩ : ∃ n, -numB t = n := ⟨_, rfl⟩
     rw [hn] at s3 hval cs
     rw [hd] at t3 hval ct hp
     obtain ⟨g1, g2, g3⟩ := gcd_texts s3 t3 hp
     have gp := gcd_posQ (n := n) hp
     obtain ⟨q1, q2⟩ := div_texts s3 g3 (by omega)
     obtain ⟨q3, q4⟩ := div_texts t3 g3 (by omega)
     obtain ⟨e1, e2⟩ := reduce_num (n := n) hp
     have cg := fun W => gcdR_any (textI n) (textI d) (le_of_fits s3) (le_of_fits t3) W
     have dn := fun W => divR_any (textI n) (textI (gcdI n d)) (le_of_fits s3) (le_of_fits g3) W
     have dd := fun W => divR_any (textI d) (textI (gcdI n d)) (le_of_fits t3) (le_of_fits g3) W
     rw [g1, g2] at cg
     rw [q1, q2, ← e1] at dn
     rw [q3, q4, ← e2] at dd
     rw [hval]
     show Calls _ _ _ _ fun e w' => e = .returned (.tuple #[.agg #[.string (textI (Rat.divInt n d).num), .string (textI ((Rat.divInt n d).den : Int))], .int .i64 0]) ∧ _
     obtain ⟨TN, hTN⟩ : ∃ x, textI (Rat.divInt n d).num = x := ⟨_, rfl⟩
     obtain ⟨TD, hTD⟩ : ∃ x, textI ((Rat.divInt n d).den : Int) = x := ⟨_, rfl⟩
     obtain ⟨G, hG⟩ : ∃ x, textI (gcdI n d) = x := ⟨_, rfl⟩
     obtain ⟨R1, hR1⟩ : ∃ x, divR (textI n) (textI (gcdI n d)) = x := ⟨_, rfl⟩
     obtain ⟨R2, hR2⟩ : ∃ x, divR (textI d) (textI (gcdI n d)) = x := ⟨_, rfl⟩
     rw [hR1, hTN] at dn
     rw [hR2, hTD] at dd
     rw [hG] at cg dn dd
     rw [hTN, hTD]
     clear g1 g2 g3 gp q1 q2 q3 q4 e1 e2 hTN hTD hG hR1 hR2
     have CG := hid cg; have DN := hid dn; have DD := hid dd
     clear cg dn dd
     generalize sgZ (numB t) 0 = z at *
     have VA := hid va; have VB := hid vb; have CM := hid cm; have CS := hid cs; have CT := hid ct
     clear va vb cm cs ct h1 h2 h3 h4 hv s1 s2 t1 t2 hn hd hval hs ht s3 t3 hp
     go_enter Tryz.func83, Tryz.ntmps83
     obtain ⟨ca0, cb0, cc0, cd0⟩ := HC.out _ (Below.refl _ _)
     go_wp2_with (rw [HW.out])
     refine (VA.out _).mono ?_
     rintro e wq104 ⟨rfl, rfl⟩
     go_wp2_with fail
     refine (VB.out _).mono ?_
     rintro e wq107 ⟨rfl, rfl⟩
     go_wp2_with fail
     refine (CM.out _).mono ?_
     rintro e w1 ⟨rfl, b1⟩
     have P1 := hid (below_up P0.out b1)
     obtain ⟨ca1, cb1, cc1, cd1⟩ := HC.out _ P1.out
     clear b1 P0 ca0 cb0 cc0 cd0 
     go_wp2_with fail
     refine (CS.out _).mono ?_
     rintro e w2 ⟨rfl, b2⟩
     have P2 := hid (below_up P1.out b2)
     obtain ⟨ca2, cb2, cc2, cd2⟩ := HC.out _ P2.out
     clear b2 P1 ca1 cb1 cc1 cd1 
     go_wp2_with fail
     refine (CT.out _).mono ?_
     rintro e w3 ⟨rfl, b3⟩
     have P3 := hid (below_up P2.out b3)
     obtain ⟨ca3, cb3, cc3, cd3⟩ := HC.out _ P3.out
     clear b3 P2 ca2 cb2 cc2 cd2 
     go_wp2_with fail
     refine (CG.out _).mono ?_
     rintro e w4 ⟨rfl, b4⟩
     have P4 := hid (below_up P3.out b4)
     obtain ⟨ca4, cb4, cc4, cd4⟩ := HC.out _ P4.out
     clear b4 P3 ca3 cb3 cc3 cd3 
     go_wp2_with fail
     refine (DN.out _).mono ?_
     rintro e w5 ⟨rfl, b5⟩
     have P5 := hid (below_up P4.out b5)
     obtain ⟨ca5, cb5, cc5, cd5⟩ := HC.out _ P5.out
     clear b5 P4 ca4 cb4 cc4 cd4 
     go_wp2_with fail
     refine (DD.out _).mono ?_
     rintro e w6 ⟨rfl, b6⟩
     have P6 := hid (below_up P5.out b6)
     obtain ⟨ca6, cb6, cc6, cd6⟩ := HC.out _ P6.out
     clear b6 P5 ca5 cb5 cc5 cd5 
     go_wp2_with fail
     refine bodyPost_ret (v := .tuple #[.agg #[.string TN, .string TD], .int .i64 0]) (by simp [results, Tryz.results83, go_sem, ca6, cb6]) rfl ⟨rfl, rat_done B0.out (Nat.le_refl _) P6.out _ _⟩
   have hval : valQ s t = Rat.divInt (numB s) (numB t) := rfl
   have hsg : decide (sgZ (numB t) 0 < 0) = false := by unfold sgZ; rw [if_neg h4, if_pos (by omega)]; rfl
   have hp : 0 < numB t := by omega
   obtain ⟨s3, s4⟩ := text_valid h1
   obtain ⟨t3, t4⟩ := text_valid h2
   obtain ⟨n, hn⟩ : ∃ n, numB s = n := ⟨_, rfl⟩
   obtain ⟨d, hd⟩ : ∃ n, numB t = n := ⟨_, rfl⟩
   rw [hn] at s3 s4 hval
   rw [hd] at t3 t4 hval hp
   obtain ⟨g1, g2, g3⟩ := gcd_texts s3 t3 hp
   have gp := gcd_posQ (n := n) hp
   obtain ⟨q1, q2⟩ := div_texts s3 g3 (by omega)
   obtain ⟨q3, q4⟩ := div_texts t3 g3 (by omega)
   obtain ⟨e1, e2⟩ := reduce_num (n := n) hp
   have cg := fun W => gcdR_any (textI n) (textI d) (le_of_fits s3) (le_of_fits t3) W
   have dn := fun W => divR_any (textI n) (textI (gcdI n d)) (le_of_fits s3) (le_of_fits g3) W
   have dd := fun W => divR_any (textI d) (textI (gcdI n d)) (le_of_fits t3) (le_of_fits g3) W
   rw [g1, g2] at cg
   rw [q1, q2, ← e1] at dn
   rw [q3, q4, ← e2] at dd
   rw [hval]
   show Calls _ _ _ _ fun e w' => e = .returned (.tuple #[.agg #[.string (textI (Rat.divInt n d).num), .string (textI ((Rat.divInt n d).den : Int))], .int .i64 0]) ∧ _
   obtain ⟨TN, hTN⟩ : ∃ x, textI (Rat.divInt n d).num = x := ⟨_, rfl⟩
   obtain ⟨TD, hTD⟩ : ∃ x, textI ((Rat.divInt n d).den : Int) = x := ⟨_, rfl⟩
   obtain ⟨G, hG⟩ : ∃ x, textI (gcdI n d) = x := ⟨_, rfl⟩
   obtain ⟨R1, hR1⟩ : ∃ x, divR (textI n) (textI (gcdI n d)) = x := ⟨_, rfl⟩
   obtain ⟨R2, hR2⟩ : ∃ x, divR (textI d) (textI (gcdI n d)) = x := ⟨_, rfl⟩
   rw [hR1, hTN] at dn
   rw [hR2, hTD] at dd
   rw [hG] at cg dn dd
   rw [hTN, hTD]
   clear g1 g2 g3 gp q1 q2 q3 q4 e1 e2 hTN hTD hG hR1 hR2
   rw [hd] at cm hsg
   rw [← s4] at cg dn
   rw [← t4] at cg dd
   have CG := hid cg; have DN := hid dn; have DD := hid dd
   clear cg dn dd
   generalize sgZ d 0 = z at *
   have VA := hid va; have VB := hid vb; have CM := hid cm
   clear va vb cm cs ct h1 h2 h3 h4 hv hn hd hval hs ht s3 t3 hp s4 t4
   go_enter Tryz.func83, Tryz.ntmps83
   obtain ⟨ca0, cb0, cc0, cd0⟩ := HC.out _ (Below.refl _ _)
   go_wp2_with (rw [HW.out])
   refine (VA.out _).mono ?_
   rintro e wq104 ⟨rfl, rfl⟩
   go_wp2_with fail
   refine (VB.out _).mono ?_
   rintro e wq107 ⟨rfl, rfl⟩
   go_wp2_with fail
   refine (CM.out _).mono ?_
   rintro e w1 ⟨rfl, b1⟩
   have P1 := hid (below_up P0.out b1)
   obtain ⟨ca1, cb1, cc1, cd1⟩ := HC.out _ P1.out
   clear b1 P0 ca0 cb0 cc0 cd0 
   go_wp2_with fail
   refine (CG.out _).mono ?_
   rintro e w2 ⟨rfl, b2⟩
   have P2 := hid (below_up P1.out b2)
   obtain ⟨ca2, cb2, cc2, cd2⟩ := HC.out _ P2.out
   clear b2 P1 ca1 cb1 cc1 cd1 
   go_wp2_with fail
   refine (DN.out _).mono ?_
   rintro e w3 ⟨rfl, b3⟩
   have P3 := hid (below_up P2.out b3)
   obtain ⟨ca3, cb3, cc3, cd3⟩ := HC.out _ P3.out
   clear b3 P2 ca2 cb2 cc2 cd2 
   go_wp2_with fail
   refine (DD.out _).mono ?_
   rintro e w4 ⟨rfl, b4⟩
   have P4 := hid (below_up P3.out b4)
   obtain ⟨ca4, cb4, cc4, cd4⟩ := HC.out _ P4.out
   clear b4 P3 ca3 cb3 cc3 cd3 
   go_wp2_with fail
   refine bodyPost_ret (v := .tuple #[.agg #[.string TN, .string TD], .int .i64 0]) (by simp [results, Tryz.results83, go_sem, ca4, cb4]) rfl ⟨rfl, rat_done B0.out (Nat.le_refl _) P4.out _ _⟩
theorem res_yes {x : Int} (h : fitB x = true) : resT x = textI x ∧ resZ x = 0 := by
 have h' : x.natAbs < 10 ^ 200 := (fitB_iff x).1 h
 unfold resT resZ
 rw [if_pos h', if_pos h']
 exact ⟨rfl, rfl⟩
theorem res_no {x : Int} (h : fitB x = false) : resT x = ByteArray.empty ∧ resZ x = 30 := by
 have h' : ¬ x.natAbs < 10 ^ 200 := fun h2 => by rw [(fitB_iff x).2 h2] at h; cases h
 unfold resT resZ
 rw [if_neg h', if_neg h']
 exact ⟨rfl, rfl⟩
theorem op_valid (f : Int → Int → Int) {s t : ByteArray} (h1 : validB s = true) (h2 : validB t = true) : opT f s t = resT (f (numB s) (numB t)) ∧ opZ f s t = resZ (f (numB s) (numB t)) := by
 unfold opT opZ
 rw [h1, h2]
 exact ⟨rfl, rfl⟩
theorem resT_size (x : Int) : (resT x).size ≤ 1099511627776 := by
 unfold resT
 split
 · rename_i h; exact le_of_fits h
 show (0 : Nat) ≤ _; omega
theorem ofR4_any (n d : Int) (h1 : -9223372036854775808 ≤ n) (h2 : n ≤ 9223372036854775807) (h3 : -9223372036854775808 ≤ d) (h4 : d ≤ 9223372036854775807) (w : World) :
 Calls Tryz.prog 37 #[.int .i64 n, .int .i64 d] w fun e w' => e = .returned (.tuple #[.agg #[.string (outN (decide (d ≠ 0)) (Rat.divInt n d)), .string (outD (decide (d ≠ 0)) (Rat.divInt n d))], .int .i64 (outE (decide (d ≠ 0)))]) ∧ Below w.heap.size w w' := by
 obtain ⟨W0, hW0, b0, hcc⟩ := box_one w ⟨#[]⟩ ⟨#[]⟩
 have HW := hid hW0; have HC := hid hcc; have B0 := hid b0
 have P0 := hid (Below.refl W0.heap.size W0)
 clear hW0 hcc b0
 have fn : Fits n := Nat.lt_of_lt_of_le (show n.natAbs < 10 ^ 19 by omega) (Nat.pow_le_pow_right (by decide) (by decide))
 have fd : Fits d := Nat.lt_of_lt_of_le (show d.natAbs < 10 ^ 19 by omega) (Nat.pow_le_pow_right (by decide) (by decide))
 have ca := fun W => fromR_any n h1 h2 W
 have cb := fun W => fromR_any d h3 h4 W
 have cm := fun W => makeR4_any (textI n) (textI d) (le_of_fits fn) (le_of_fits fd) W
 have hmk : makeB (textI n) (textI d) = decide (d ≠ 0) := by
  unfold makeB
  rw [(valid_text fn).1, (valid_text fd).1, (valid_text fd).2, Bool.true_and, Bool.true_and]
 have hvq : valQ (textI n) (textI d) = Rat.divInt n d := by
  unfold valQ
  rw [(valid_text fn).2, (valid_text fd).2]
 rw [hmk, hvq] at cm
 obtain ⟨XN, hXN⟩ : ∃ t, outN (decide (d ≠ 0)) (Rat.divInt n d) = t := ⟨_, rfl⟩
 obtain ⟨XD, hXD⟩ : ∃ t, outD (decide (d ≠ 0)) (Rat.divInt n d) = t := ⟨_, rfl⟩
 obtain ⟨XE, hXE⟩ : ∃ t, outE (decide (d ≠ 0)) = t := ⟨_, rfl⟩
 rw [hXN, hXD, hXE] at cm ⊢
 generalize textI n = T1 at *
 generalize textI d = T2 at *
 have CA := hid ca; have CB := hid cb; have CM := hid cm
 clear ca cb cm hmk hvq hXN hXD hXE fn fd
 go_enter Tryz.func37, Tryz.ntmps37
 obtain ⟨ca0, cb0, cc0, cd0⟩ := HC.out _ (Below.refl _ _)
 go_wp2_with (rw [HW.out])
 refine (CA.out _).mono ?_
 rintro e w1 ⟨rfl, b1⟩
 have P1 := hid (below_up P0.out b1)
 obtain ⟨ca1, cb1, cc1, cd1⟩ := HC.out _ P1.out
 clear b1 P0 ca0 cb0 cc0 cd0 
 go_wp2_with fail
 refine (CB.out _).mono ?_
 rintro e w2 ⟨rfl, b2⟩
 have P2 := hid (below_up P1.out b2)
 obtain ⟨ca2, cb2, cc2, cd2⟩ := HC.out _ P2.out
 clear b2 P1 ca1 cb1 cc1 cd1 
 go_wp2_with fail
 refine (CM.out _).mono ?_
 rintro e w3 ⟨rfl, b3⟩
 have P3 := hid (below_up P2.out b3)
 obtain ⟨ca3, cb3, cc3, cd3⟩ := HC.out _ P3.out
 clear b3 P2 ca2 cb2 cc2 cd2 
 go_wp2_with fail
 refine bodyPost_ret (v := .tuple #[.agg #[.string XN, .string XD], .int .i64 XE]) (by simp [results, Tryz.results37, go_sem, ca3, cb3]) rfl ⟨rfl, rat_done B0.out (Nat.le_refl _) P3.out _ _⟩
end Go.Proofs.YtcglcgphgahnpaaGreatDoor
namespace Go.Proofs.YtcglcgphgahnpaaGreatDoor
abbrev StepF := ByteArray → ByteArray → Option (ByteArray × ByteArray)
def zeroT : ByteArray := ⟨#[48]⟩
def timesF (n d : ByteArray) : StepF := fun s t =>
 if opZ (· * ·) s n = 0 then (if opZ (· * ·) t d = 0 then some (opT (· * ·) s n, opT (· * ·) t d) else none) else none
def withF (f : Int → Int → Int) (n d : ByteArray) : StepF := fun s t =>
 if opZ (· * ·) n d = 0 then (if opZ f s (opT (· * ·) n d) = 0 then some (opT f s (opT (· * ·) n d), t) else none) else none
def unsF : StepF := fun s t =>
 if cmpB t zeroT = 1 then some (s, t) else if cmpB t zeroT = 0 then none else if opZ (· - ·) zeroT s = 0 then (if opZ (· - ·) zeroT t = 0 then some (opT (· - ·) zeroT s, opT (· - ·) zeroT t) else none) else none
def lowF : StepF := fun s t =>
 if opZ gcdI s t = 0 then (if divZ s (opT gcdI s t) = 0 then (if divZ t (opT gcdI s t) = 0 then some (divQ s (opT gcdI s t), divQ t (opT gcdI s t)) else none) else none) else none
def chain : List StepF → StepF
 | [], s, t => some (s, t)
 | f :: fs, s, t => match f s t with
  | some (a, b) => chain fs a b
  | none => none
theorem chain_some {f : StepF} {fs : List StepF} {s t a b : ByteArray} (h : f s t = some (a, b)) : chain (f :: fs) s t = chain fs a b := by simp only [chain, h]
theorem chain_none {f : StepF} {fs : List StepF} {s t : ByteArray} (h : f s t = none) : chain (f :: fs) s t = none := by simp only [chain, h]
theorem opZ_iff (f : Int → Int → Int) (s t : ByteArray) : opZ f s t = 0 ↔ validB s = true ∧ validB t = true ∧ Fits (f (numB s) (numB t)) := by
 unfold opZ resZ Fits
 cases validB s <;> cases validB t <;> simp
theorem low_none {s t : ByteArray} (h : ¬ (validB s = true ∧ validB t = true)) : lowF s t = none := by
 unfold lowF
 rw [if_neg (fun e => h ⟨((opZ_iff _ _ _).1 e).1, ((opZ_iff _ _ _).1 e).2.1⟩)]
theorem low_texts {n d : Int} (hn : Fits n) (hd : Fits d) (hp : 0 < d) : lowF (textI n) (textI d) = some (nT (Rat.divInt n d), dT (Rat.divInt n d)) := by
 obtain ⟨g1, g2, g3⟩ := gcd_texts hn hd hp
 have gp := gcd_posQ (n := n) hp
 obtain ⟨q1, q2⟩ := div_texts hn g3 (by omega)
 obtain ⟨q3, q4⟩ := div_texts hd g3 (by omega)
 obtain ⟨e1, e2⟩ := reduce_num (n := n) hp
 unfold lowF
 rw [g1, g2, if_pos rfl, q1, q2, if_pos rfl, q3, q4, if_pos rfl]
 unfold nT dT
 rw [e1, e2]
theorem cmp_zeroT {t : ByteArray} (h : validB t = true) : cmpB t zeroT = sgZ (numB t) 0 := cmp_zero h
theorem chain_make (s t : ByteArray) : chain [unsF, lowF] s t = if makeB s t then some (nT (valQ s t), dT (valQ s t)) else none := by
 cases h2 : validB t with
 | false =>
  have e : cmpB t zeroT = 0 := by unfold cmpB; rw [h2]; rfl
  have hm : makeB s t = false := by unfold makeB; rw [h2]; cases validB s <;> rfl
  rw [chain_none (by unfold unsF; rw [e]; rfl), hm]; rfl
 | true =>
  have hc := cmp_zeroT h2
  rcases Int.lt_trichotomy (numB t) 0 with h | h | h
  · have e : cmpB t zeroT = -1 := by rw [hc]; exact sgZ_lt h
    cases h1 : validB s with
    | false =>
     have hm : makeB s t = false := by unfold makeB; rw [h1]; rfl
     have hz : ¬ opZ (· - ·) zeroT s = 0 := fun x => by have := ((opZ_iff _ _ _).1 x).2.1; rw [h1] at this; cases this
     rw [chain_none (by unfold unsF; rw [e, if_neg (by decide), if_neg (by decide), if_neg hz]), hm]; rfl
    | true =>
     have hm : makeB s t = true := by unfold makeB; rw [h1, h2, decide_eq_true (by omega)]; rfl
     obtain ⟨s1, s2, s3⟩ := sub_zero_text h1
     obtain ⟨t1, t2, t3⟩ := sub_zero_text h2
     have hu : unsF s t = some (textI (-numB s), textI (-numB t)) := by
      unfold unsF
      show (if cmpB t zeroT = 1 then some (s, t) else if cmpB t zeroT = 0 then none else if opZ (· - ·) ⟨#[48]⟩ s = 0 then (if opZ (· - ·) ⟨#[48]⟩ t = 0 then some (opT (· - ·) ⟨#[48]⟩ s, opT (· - ·) ⟨#[48]⟩ t) else none) else none) = _
      rw [e, if_neg (by decide), if_neg (by decide), s2, if_pos rfl, t2, if_pos rfl, s1, t1]
     rw [chain_some hu, chain_some (low_texts s3 t3 (by omega)), hm, if_pos rfl, Rat.neg_divInt_neg]
     rfl
  · have e : cmpB t zeroT = 0 := by rw [hc, h]; exact sgZ_self 0
    have hm : makeB s t = false := by unfold makeB; rw [h2, decide_eq_false (by omega)]; cases validB s <;> rfl
    rw [chain_none (by unfold unsF; rw [e]; rfl), hm]; rfl
  have e : cmpB t zeroT = 1 := by rw [hc]; exact sgZ_gt h
  have hu : unsF s t = some (s, t) := by unfold unsF; rw [e, if_pos rfl]
  rw [chain_some hu]
  cases h1 : validB s with
  | false =>
   have hm : makeB s t = false := by unfold makeB; rw [h1]; rfl
   rw [chain_none (low_none (fun x => by rw [h1] at x; cases x.1)), hm]; rfl
  | true =>
   have hm : makeB s t = true := by unfold makeB; rw [h1, h2, decide_eq_true (by omega)]; rfl
   obtain ⟨s3, s4⟩ := text_valid h1
   obtain ⟨t3, t4⟩ := text_valid h2
   have hl := low_texts s3 t3 h
   rw [← s4, ← t4] at hl
   rw [chain_some hl, hm, if_pos rfl]
   rfl
theorem chain_texts {n d : Int} (hn : Fits n) (hd : Fits d) : chain [unsF, lowF] (textI n) (textI d) = if decide (d ≠ 0) then some (nT (Rat.divInt n d), dT (Rat.divInt n d)) else none := by
 rw [chain_make]
 have : makeB (textI n) (textI d) = decide (d ≠ 0) := by
  unfold makeB
  rw [(valid_text hn).1, (valid_text hd).1, (valid_text hd).2]
  rfl
 rw [this]
 unfold valQ
 rw [(valid_text hn).2, (valid_text hd).2]
theorem times_some {s t n d : ByteArray} (hs : validB s = true) (ht : validB t = true) (hn : validB n = true) (hd : validB d = true) :
 timesF n d s t = if fitB (numB s * numB n) && fitB (numB t * numB d) then some (textI (numB s * numB n), textI (numB t * numB d)) else none := by
 unfold timesF
 rw [(op_valid _ hs hn).1, (op_valid _ hs hn).2, (op_valid _ ht hd).1, (op_valid _ ht hd).2]
 cases f1 : fitB (numB s * numB n) with
 | false => rw [(res_no f1).2]; rfl
 | true =>
  rw [(res_yes f1).1, (res_yes f1).2, if_pos rfl]
  cases f2 : fitB (numB t * numB d) with
  | false => rw [(res_no f2).2]; rfl
  | true => rw [(res_yes f2).1, (res_yes f2).2]; rfl
theorem with_some (f : Int → Int → Int) {s n d t : ByteArray} (hs : validB s = true) (hn : validB n = true) (hd : validB d = true) :
 withF f n d s t = if fitB (numB n * numB d) && fitB (f (numB s) (numB n * numB d)) then some (textI (f (numB s) (numB n * numB d)), t) else none := by
 unfold withF
 rw [(op_valid _ hn hd).1, (op_valid _ hn hd).2]
 cases f1 : fitB (numB n * numB d) with
 | false => rw [(res_no f1).2]; rfl
 | true =>
  have f1' := (fitB_iff _).1 f1
  rw [(res_yes f1).1, (res_yes f1).2, if_pos rfl, (op_valid _ hs (valid_text f1').1).1, (op_valid _ hs (valid_text f1').1).2, (valid_text f1').2]
  cases f2 : fitB (f (numB s) (numB n * numB d)) with
  | false => rw [(res_no f2).2]; rfl
  | true => rw [(res_yes f2).1, (res_yes f2).2]; rfl
def pairN (o : Option (ByteArray × ByteArray)) : ByteArray := match o with | some p => p.1 | none => ByteArray.empty
def pairD (o : Option (ByteArray × ByteArray)) : ByteArray := match o with | some p => p.2 | none => ByteArray.empty
def pairE (o : Option (ByteArray × ByteArray)) : Int := match o with | some _ => 0 | none => 40
theorem pair_out (b : Bool) (x : Rat) : pairN (if b then some (nT x, dT x) else none) = outN b x ∧ pairD (if b then some (nT x, dT x) else none) = outD b x ∧ pairE (if b then some (nT x, dT x) else none) = outE b := by
 cases b <;> exact ⟨rfl, rfl, rfl⟩
theorem chain_sum (f : Int → Int → Int) {an ad bn bd : ByteArray} (h : bothB an ad bn bd = true) :
 chain [timesF bd bd, withF f bn ad, unsF, lowF] an ad = if ((fitB (numB an * numB bd) && (fitB (numB bn * numB ad) && fitB (numB ad * numB bd))) && fitB (f (numB an * numB bd) (numB bn * numB ad))) then some (nT (Rat.divInt (f (numB an * numB bd) (numB bn * numB ad)) (numB ad * numB bd)), dT (Rat.divInt (f (numB an * numB bd) (numB bn * numB ad)) (numB ad * numB bd))) else none := by
 obtain ⟨v1, v2⟩ := both_parts h
 obtain ⟨u1, u2, _, _⟩ := validQ_parts v1
 obtain ⟨u3, u4, _, _⟩ := validQ_parts v2
 have h0 : numB ad * numB bd ≠ 0 := Int.mul_ne_zero (den_ne v1) (den_ne v2)
 have ht := times_some u1 u2 u4 u4
 cases f1 : fitB (numB an * numB bd) with
 | false => rw [f1] at ht; rw [chain_none ht]; rfl
 | true =>
  cases f3 : fitB (numB ad * numB bd) with
  | false => rw [f1, f3] at ht; rw [chain_none ht]; cases fitB (numB bn * numB ad) <;> rfl
  | true =>
   rw [f1, f3] at ht
   rw [chain_some ht]
   have f1' := (fitB_iff _).1 f1
   have f3' := (fitB_iff _).1 f3
   have hw := with_some f (s := textI (numB an * numB bd)) (t := textI (numB ad * numB bd)) (valid_text f1').1 u3 u2
   rw [(valid_text f1').2] at hw
   cases f2 : fitB (numB bn * numB ad) with
   | false => rw [f2] at hw; rw [chain_none hw]; rfl
   | true =>
    cases f4 : fitB (f (numB an * numB bd) (numB bn * numB ad)) with
    | false => rw [f2, f4] at hw; rw [chain_none hw]; rfl
    | true =>
     rw [f2, f4] at hw
     rw [chain_some hw, chain_texts ((fitB_iff _).1 f4) f3', decide_eq_true h0]; rfl
theorem chain_add {an ad bn bd : ByteArray} (h : bothB an ad bn bd = true) : chain [timesF bd bd, withF (· + ·) bn ad, unsF, lowF] an ad = if addB an ad bn bd then some (nT (valQ an ad + valQ bn bd), dT (valQ an ad + valQ bn bd)) else none := by
 rw [chain_sum _ h, ← add_val h]
 unfold addB
 rw [h]; rfl
theorem chain_sub {an ad bn bd : ByteArray} (h : bothB an ad bn bd = true) : chain [timesF bd bd, withF (· - ·) bn ad, unsF, lowF] an ad = if subB an ad bn bd then some (nT (valQ an ad - valQ bn bd), dT (valQ an ad - valQ bn bd)) else none := by
 rw [chain_sum _ h, ← sub_val h]
 unfold subB
 rw [h]; rfl
theorem chain_prod {s t n d : ByteArray} (hs : validB s = true) (ht : validB t = true) (hn : validB n = true) (hd : validB d = true) :
 chain [timesF n d, unsF, lowF] s t = if (fitB (numB s * numB n) && fitB (numB t * numB d)) && decide (numB t * numB d ≠ 0) then some (nT (Rat.divInt (numB s * numB n) (numB t * numB d)), dT (Rat.divInt (numB s * numB n) (numB t * numB d))) else none := by
 have h := times_some hs ht hn hd
 cases f1 : fitB (numB s * numB n) with
 | false => rw [f1] at h; rw [chain_none h]; rfl
 | true =>
  cases f2 : fitB (numB t * numB d) with
  | false => rw [f1, f2] at h; rw [chain_none h]; rfl
  | true => rw [f1, f2] at h; rw [chain_some h, chain_texts ((fitB_iff _).1 f1) ((fitB_iff _).1 f2)]; rfl
theorem chain_mul {an ad bn bd : ByteArray} (h : bothB an ad bn bd = true) : chain [timesF bn bd, unsF, lowF] an ad = if mulB an ad bn bd then some (nT (valQ an ad * valQ bn bd), dT (valQ an ad * valQ bn bd)) else none := by
 obtain ⟨v1, v2⟩ := both_parts h
 obtain ⟨u1, u2, _, _⟩ := validQ_parts v1
 obtain ⟨u3, u4, _, _⟩ := validQ_parts v2
 rw [chain_prod u1 u2 u3 u4, ← mul_val, decide_eq_true (Int.mul_ne_zero (den_ne v1) (den_ne v2)), Bool.and_true]
 unfold mulB
 rw [h]; rfl
theorem chain_div {an ad bn bd : ByteArray} (h : bothB an ad bn bd = true) : chain [timesF bd bn, unsF, lowF] an ad = if divB an ad bn bd then some (nT (valQ an ad / valQ bn bd), dT (valQ an ad / valQ bn bd)) else none := by
 obtain ⟨v1, v2⟩ := both_parts h
 obtain ⟨u1, u2, _, _⟩ := validQ_parts v1
 obtain ⟨u3, u4, _, _⟩ := validQ_parts v2
 rw [chain_prod u1 u2 u4 u3, ← div_val]
 unfold divB
 have : decide (numB ad * numB bn ≠ 0) = decide (numB bn ≠ 0) := decide_eq_decide.2 (by
  rw [ne_eq, Int.mul_eq_zero, ne_eq]
  exact ⟨fun x y => x (.inr y), fun x y => x (y.resolve_left (den_ne v1))⟩)
 rw [this, h]; rfl
theorem quot_fit {x y : Int} (hx : Fits x) : Fits (x / y) := Nat.lt_of_le_of_lt (Int.natAbs_ediv_le_natAbs x y) hx
theorem rem_text {n d : Int} (hn : Fits n) (hd : Fits d) (h0 : d ≠ 0) : divR (textI n) (textI d) = textI (n % d) := by
 unfold divR resR
 rw [(valid_text hn).1, (valid_text hd).1, (valid_text hn).2, (valid_text hd).2, decide_eq_true h0, Bool.true_and, Bool.true_and, if_pos rfl, if_pos (quot_fitsQ hn)]
theorem textI_zero {x : Int} : textI x = zeroT ↔ x = 0 := by
 have e : zeroT = textI 0 := by decide +kernel
 rw [e]
 exact ⟨fun h => textI_inj h, fun h => by rw [h]⟩
end Go.Proofs.YtcglcgphgahnpaaGreatDoor
namespace Go.Proofs.YtcglcgphgahnpaaGreatDoor
open Go Go.Proofs Go.RowKit Go.Lib
def strOfV : Value → ByteArray
 | .string s => s
 | _ => ByteArray.empty
def CmpInv (n d m c s R : Int) : Prop := Fits n ∧ Fits d ∧ Fits m ∧ Fits c ∧ 0 < d ∧ 0 < c ∧ (s = 1 ∨ s = -1) ∧ s * sgZ (n * c) (m * d) = R
theorem sgZ_cases (x y : Int) : (sgZ x y = 1 ∧ y < x) ∨ (sgZ x y = 0 ∧ x = y) ∨ (sgZ x y = -1 ∧ x < y) := by
 rcases Int.lt_trichotomy x y with h | h | h
 · exact .inr (.inr ⟨sgZ_lt h, h⟩)
 · exact .inr (.inl ⟨by rw [h]; exact sgZ_self y, h⟩)
 exact .inl ⟨sgZ_gt h, h⟩
theorem rem_fits {x d : Int} (hd : Fits d) (h0 : 0 < d) : Fits (x % d) := by
 have h1 := Int.emod_nonneg x (show d ≠ 0 by omega)
 have h2 := Int.emod_lt_of_pos x h0
 unfold Fits at *
 omega
theorem cmp_whole {n d m c s R : Int} (h : CmpInv n d m c s R) (hz : n / d ≠ m / c) : s * sgZ (n / d) (m / c) = R := by
 obtain ⟨_, _, _, _, h5, h6, _, h8⟩ := h
 rw [← whole_ne h5 h6 hz]; exact h8
theorem cmp_end {n d m c s R : Int} (h : CmpInv n d m c s R) (hz : n / d = m / c) (hr : n % d = 0 ∨ m % c = 0) : s * sgZ (zOr (n % d)) (zOr (m % c)) = R := by
 obtain ⟨_, _, _, _, h5, h6, _, h8⟩ := h
 rw [← rest_end h5 h6 (Int.emod_nonneg n (by omega)) (Int.emod_nonneg m (by omega)) hr, ← whole_eq hz]; exact h8
theorem zOr_sg {x y : Int} (hx : 0 ≤ x) (hy : 0 ≤ y) (h : x = 0 ∨ y = 0) : sgZ (zOr x) (zOr y) = sgZ x y := by
 unfold zOr
 rcases h with h | h
 · subst h
   rw [if_pos rfl]
   by_cases h2 : y = 0
   · subst h2; rfl
   rw [if_neg h2, sgZ_lt (show (0 : Int) < y by omega)]; rfl
 subst h
 rw [if_pos rfl]
 by_cases h2 : x = 0
 · subst h2; rfl
 rw [if_neg h2, sgZ_gt (show (0 : Int) < x by omega)]; rfl
theorem cmp_texts {x y : Int} (hx : Fits x) (hy : Fits y) : cmpB (textI x) (textI y) = sgZ x y := by
 unfold cmpB sgZ
 rw [(valid_text hx).1, (valid_text hy).1, (valid_text hx).2, (valid_text hy).2]
 rfl
theorem text_is0 (x : Int) : ((textI x).toList == [48]) = decide (x = 0) := by
 rw [← list48, str_eq_iff]
 exact decide_eq_decide.2 textI_zero
theorem cmpInv_start {an ad bn bd : ByteArray} (h : bothB an ad bn bd = true) : CmpInv (numB an) (numB ad) (numB bn) (numB bd) 1 (cmpQ an ad bn bd) := by
 obtain ⟨v1, v2⟩ := both_parts h
 obtain ⟨u1, u2, u3, _⟩ := validQ_parts v1
 obtain ⟨u4, u5, u6, _⟩ := validQ_parts v2
 refine ⟨(text_valid u1).1, (text_valid u2).1, (text_valid u4).1, (text_valid u5).1, u3, u6, .inl rfl, ?_⟩
 rw [Int.one_mul, cmpQ_both h]
def pickI (c n : Int) : Int := (if c < 0 then -(c + 1) else c) % n
theorem pickI_range (c : Int) {n : Int} (h : 0 < n) : 0 ≤ pickI c n ∧ pickI c n < n := ⟨Int.emod_nonneg _ (by omega), Int.emod_lt_of_pos _ h⟩
theorem len_le {n : ByteArray} (h : validB n = true) : n.size ≤ 1000 := by
 have := fits_size (text_valid h).1
 rw [← (text_valid h).2] at this
 exact this
end Go.Proofs.YtcglcgphgahnpaaGreatDoor
namespace Go.Proofs.YtcglcgphgahnpaaGreatDoor
def ordL : List Int := [-3, 3, -2, 2, -1, 1]
def seekP (i : Nat) (l : List Nat) : List Int → Int × List Nat
 | [] => (0, l)
 | n :: ns => if (partL i n).isPrefixOf l then (n, l.drop (partL i n).length) else seekP i l ns
def scanP (i : Nat) (l : List Nat) : Int × List Nat := seekP i l ordL
theorem ord_exps : ∀ n ∈ ordL, n ∈ expsL := by decide
theorem exps_ord : ∀ n ∈ expsL, n ∈ ordL := by decide
theorem prefix_drop {p l : List Nat} (h : p.isPrefixOf l = true) : p ++ l.drop p.length = l := by
 obtain ⟨r, rfl⟩ := List.isPrefixOf_iff_prefix.1 h
 rw [List.drop_left]
theorem seekP_sound (i : Nat) (l : List Nat) : ∀ ns : List Int, (∀ n ∈ ns, n ∈ expsL) → partL i (seekP i l ns).1 ++ (seekP i l ns).2 = l ∧ ((seekP i l ns).1 = 0 ∨ (seekP i l ns).1 ∈ expsL)
 | [], _ => ⟨rfl, .inl rfl⟩
 | n :: ns, h => by
  unfold seekP
  split
  · rename_i e
    exact ⟨prefix_drop e, .inr (h n (List.mem_cons_self ..))⟩
  exact seekP_sound i l ns (fun k hk => h k (List.mem_cons_of_mem _ hk))
theorem scanP_sound (i : Nat) (l : List Nat) : partL i (scanP i l).1 ++ (scanP i l).2 = l ∧ InE (scanP i l).1 := by
 obtain ⟨h1, h2⟩ := seekP_sound i l ordL ord_exps
 refine ⟨h1, ?_⟩
 rcases h2 with h2 | h2
 · show InE (seekP i l ordL).1
   rw [h2]; decide
 exact (exps_in h2).1
theorem seekP_miss {i : Nat} {l : List Nat} : ∀ ns : List Int, (∀ k ∈ ns, (partL i k).isPrefixOf l = false) → seekP i l ns = (0, l)
 | [], _ => rfl
 | k :: ns, h => by
  unfold seekP
  rw [h k (List.mem_cons_self ..), if_neg (by decide)]
  exact seekP_miss ns (fun q hq => h q (List.mem_cons_of_mem _ hq))
theorem parts_apart : ∀ i, i < 4 → ∀ j, j < 4 → ∀ n ∈ expsL, ∀ k ∈ expsL, (partL i k).isPrefixOf (partL j n) = true → i = j ∧ (k = n ∨ k = 1) := by decide +kernel
theorem part_within {i j : Nat} (hi : i < 4) (hj : j < 4) {n k : Int} (hn : n ∈ expsL) (hk : k ∈ expsL) {s : List Nat} (hs : s = [] ∨ s.head? = some 32) (h : (partL i k).isPrefixOf (partL j n ++ s) = true) : (partL i k).isPrefixOf (partL j n) = true := by
 have h1 := List.isPrefixOf_iff_prefix.1 h
 have h2 : partL j n <+: partL j n ++ s := ⟨s, rfl⟩
 refine List.isPrefixOf_iff_prefix.2 ?_
 by_cases hl : (partL i k).length ≤ (partL j n).length
 · exact List.prefix_of_prefix_length_le h1 h2 hl
 obtain ⟨u, hu⟩ := List.prefix_of_prefix_length_le h2 h1 (by omega)
 obtain ⟨r, er, hr⟩ := part_shape i hi k hk
 obtain ⟨r', er', hr'⟩ := part_shape j hj n hn
 obtain ⟨v, hv⟩ := h1
 rw [← hu, List.append_assoc] at hv
 have hs2 := List.append_cancel_left hv
 cases u with
 | nil => rw [List.append_nil] at hu; rw [hu] at hl; exact absurd (Nat.le_refl _) hl
 | cons a q =>
  rcases hs with rfl | hs
  · cases hs2
  rw [← hs2] at hs
  injection hs with e
  subst e
  rw [er, er', List.cons_append] at hu
  injection hu with _ hu
  exact absurd (by rw [← hu]; exact List.mem_append.2 (.inr (List.mem_cons_self ..))) hr
theorem seekP_hit {i : Nat} {n : Int} {l : List Nat} (h : (partL i n).isPrefixOf l = true) : ∀ ns : List Int, (∀ k ∈ ns, k ≠ n → (partL i k).isPrefixOf l = true → k = 1) → n ∈ ns → (n = 1 ∨ ∀ a b, ns = a ++ b → n ∈ b → 1 ∉ a) → seekP i l ns = (n, l.drop (partL i n).length)
 | [], _, h2, _ => by cases h2
 | k :: ns, hk, h2, h3 => by
  unfold seekP
  split
  · rename_i e
    by_cases hkn : k = n
    · subst hkn; rfl
    have h1 := hk k (List.mem_cons_self ..) hkn e
    subst h1
    rcases h3 with h3 | h3
    · exact absurd h3.symm hkn
    rcases List.mem_cons.1 h2 with h4 | h4
    · exact absurd h4.symm hkn
    exact absurd (List.mem_cons_self ..) (h3 [1] ns rfl h4)
  rename_i e
  rcases List.mem_cons.1 h2 with h4 | h4
  · subst h4; exact absurd h e
  refine seekP_hit h ns (fun q hq => hk q (List.mem_cons_of_mem _ hq)) h4 ?_
  rcases h3 with h3 | h3
  · exact .inl h3
  exact .inr (fun a b hab hb hm => h3 (k :: a) b (by rw [hab]; rfl) hb (List.mem_cons_of_mem _ hm))
theorem one_last (n : Int) : n = 1 ∨ ∀ a b, ordL = a ++ b → n ∈ b → 1 ∉ a := by
 by_cases h : n = 1
 · exact .inl h
 refine .inr (fun a b hab hb hm => ?_)
 obtain ⟨a1, a2, rfl⟩ := List.append_of_mem hm
 have hc : ordL = [-3, 3, -2, 2, -1] ++ [1] := rfl
 have hcnt : (a1 ++ 1 :: a2 ++ b).length = 6 := by rw [← hab]; rfl
 have hget : ∀ k, k < 6 → ordL[k]? = some 1 → k = 5 := by decide
 have e1 : ordL[a1.length]? = some 1 := by rw [hab]; simp
 have e2 := hget a1.length (by simp at hcnt; omega) e1
 have : b.length = 0 := by simp at hcnt; omega
 rw [List.length_eq_zero_iff.1 this] at hb
 cases hb
theorem scanP_part {i : Nat} (hi : i < 4) {n : Int} (hn : InE n) {s : List Nat} (hs : Behind i s) : scanP i (partL i n ++ s) = (n, s) := by
 by_cases h0 : n = 0
 · subst h0
   have e : partL i 0 ++ s = s := rfl
   rw [e]
   refine seekP_miss _ (fun k hk => ?_)
   have hk' := ord_exps k hk
   rcases hs with rfl | ⟨j, q, r, hij, hj, hq, rfl, hr⟩
   · obtain ⟨t, et, _⟩ := part_shape i hi k hk'
     rw [et]; rfl
   cases hb : (partL i k).isPrefixOf (partL j q ++ r) with
   | false => rfl
   | true =>
    have := (parts_apart i hi j hj q hq k hk' (part_within hi hj hq hk' hr hb)).1
    omega
 have hm := exps_mem hn h0
 have hp : (partL i n).isPrefixOf (partL i n ++ s) = true := List.isPrefixOf_iff_prefix.2 ⟨s, rfl⟩
 have := seekP_hit hp ordL (fun k hk hkn hb => ((parts_apart i hi i hi n hm k (ord_exps k hk) (part_within hi hi hm (ord_exps k hk) hs.head hb)).2).resolve_left hkn) (exps_ord n hm) (one_last n)
 unfold scanP
 rw [this, List.drop_left]
def readP (l : List Nat) : Int × Int × Int × Int × List Nat :=
 ((scanP 0 l).1, (scanP 1 (scanP 0 l).2).1, (scanP 2 (scanP 1 (scanP 0 l).2).2).1, (scanP 3 (scanP 2 (scanP 1 (scanP 0 l).2).2).2).1, (scanP 3 (scanP 2 (scanP 1 (scanP 0 l).2).2).2).2)
theorem readP_unit {t b m c : Int} (ht : InE t) (hb : InE b) (hm : InE m) (hc : InE c) : readP (unitL t b m c) = (t, b, m, c, []) := by
 have h3 : Behind 2 (partL 3 c) := by have := behind_part (i := 2) (j := 3) (by omega) (by omega) hc (behind_nil 3); rwa [List.append_nil] at this
 have h2 : Behind 1 (partL 2 m ++ partL 3 c) := behind_part (by omega) (by omega) hm h3
 have h1 : Behind 0 (partL 1 b ++ (partL 2 m ++ partL 3 c)) := behind_part (by omega) (by omega) hb h2
 have e0 : scanP 0 (unitL t b m c) = (t, _) := scanP_part (by omega) ht h1
 have e1 := scanP_part (i := 1) (by omega) hb h2
 have e2 := scanP_part (i := 2) (by omega) hm h3
 have e3 : scanP 3 (partL 3 c) = (c, []) := by have := scanP_part (i := 3) (by omega) hc (behind_nil 3); rwa [List.append_nil] at this
 unfold readP
 rw [e0, e1, e2, e3]
theorem readP_sound {l : List Nat} (h : (readP l).2.2.2.2 = []) : unitL (readP l).1 (readP l).2.1 (readP l).2.2.1 (readP l).2.2.2.1 = l ∧ InE (readP l).1 ∧ InE (readP l).2.1 ∧ InE (readP l).2.2.1 ∧ InE (readP l).2.2.2.1 := by
 obtain ⟨s0, i0⟩ := scanP_sound 0 l
 obtain ⟨s1, i1⟩ := scanP_sound 1 (scanP 0 l).2
 obtain ⟨s2, i2⟩ := scanP_sound 2 (scanP 1 (scanP 0 l).2).2
 obtain ⟨s3, i3⟩ := scanP_sound 3 (scanP 2 (scanP 1 (scanP 0 l).2).2).2
 refine ⟨?_, i0, i1, i2, i3⟩
 have h' : (scanP 3 (scanP 2 (scanP 1 (scanP 0 l).2).2).2).2 = [] := h
 rw [h', List.append_nil] at s3
 show partL 0 _ ++ (partL 1 _ ++ (partL 2 _ ++ partL 3 _)) = l
 rw [show partL 3 (readP l).2.2.2.1 = _ from s3, show partL 2 (readP l).2.2.1 ++ _ = _ from s2, show partL 1 (readP l).2.1 ++ _ = _ from s1]
 exact s0
theorem readP_same (l : List Nat) : ((readP l).2.2.2.2 = [] → readP l = readU l) ∧ ((readU l).2.2.2.2 = [] → readP l = readU l) := by
 constructor
 · intro h
   obtain ⟨e, h0, h1, h2, h3⟩ := readP_sound h
   have := readU_unit h0 h1 h2 h3
   rw [e] at this
   rw [this]
   rw [← h]
 intro h
 obtain ⟨e, h0, h1, h2, h3⟩ := readU_sound h
 have := readP_unit h0 h1 h2 h3
 rw [e] at this
 rw [this]
 rw [← h]
end Go.Proofs.YtcglcgphgahnpaaGreatDoor
