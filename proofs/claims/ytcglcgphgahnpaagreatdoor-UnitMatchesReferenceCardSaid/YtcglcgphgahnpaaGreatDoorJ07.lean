/-
  Plain mathematics of layer 3: digits, the lowest one first; the text of an integer.   Plain mathematics of layer 3: which strings are integers.   Plain mathematics of layer 3: comparing, adding, subtracting digit by digit.   What the proofs of layer 3 stand on: rows of numbers of the call's own, what they hold, and append to them; words for results.   Slices that hold digits or groups; the contract of the reference's trim.   Plain mathematics of layer 3: groups of four digits, the lowest one first (out of the text on digits, by renaming).   Plain mathematics of layer 3 in groups of four digits: from digits and to digits, sums with a factor, products, quotients, roots.
-/
import Derived.Test.YtcglcgphgahnpaaGreatDoorProg
import Derived.Laws.Rows
import Derived.Below
import Derived.OwnWalk
import Derived.OwnWalkIn
import Derived.BigQuiet
import Derived.IntWalk
import Derived.RegionTactic
import Derived.Deep.RegionLaw
import Derived.Deep.RegionWith
import Derived.Deep.RegionHeld3
import Derived.Deep.QuietTactic
import Derived.Shelf.Abstract
import Derived.Laws.AppendOwn
import Derived.WalkKit
import Derived.WalkLawsBesides
import Derived.Outline
import Derived.Lib.Hide
import Derived.Laws.MakeOwn
set_option maxRecDepth 100000
set_option maxHeartbeats 16000000
namespace Go.Proofs.YtcglcgphgahnpaaGreatDoor
def valD : List Nat → Nat
 | [] => 0
 | d :: l => d + 10 * valD l
def IsDig (l : List Nat) : Prop := ∀ d ∈ l, d < 10
def Canon (l : List Nat) : Prop := l.getLast? ≠ some 0
def digsF : Nat → Nat → List Nat
 | 0, _ => []
 | f + 1, n => if n = 0 then [] else n % 10 :: digsF f (n / 10)
def digs (n : Nat) : List Nat := digsF n n
theorem digsF_any : ∀ (f g n : Nat), n ≤ f → n ≤ g → digsF f n = digsF g n
  | 0, 0, _, _, _ => rfl
  | 0, g + 1, n, h, _ => by obtain rfl : n = 0 := by omega
                            simp [digsF]
  | f + 1, 0, n, _, h => by obtain rfl : n = 0 := by omega
                            simp [digsF]
  | f + 1, g + 1, n, h1, h2 => by
    simp only [digsF]
    split
    · rfl
    · rw [digsF_any f g (n / 10) (by omega) (by omega)]
theorem digs_zero : digs 0 = [] := rfl
theorem digs_pos {n : Nat} (h : n ≠ 0) : digs n = n % 10 :: digs (n / 10) := by
 obtain ⟨m, rfl⟩ : ∃ m, n = m + 1 := ⟨n - 1, by omega⟩
 unfold digs
 rw [digsF, if_neg h, digsF_any m ((m + 1) / 10) ((m + 1) / 10) (by omega) (Nat.le_refl _)]
theorem digs_ind {p : Nat → Prop} (h0 : p 0) (h : ∀ n, n ≠ 0 → p (n / 10) → p n) : ∀ n, p n := by
 intro n
 induction n using Nat.strongRecOn with
 | _ n ih =>
  by_cases hn : n = 0
  · subst hn; exact h0
  exact h n hn (ih (n / 10) (by omega))
theorem valD_digs : ∀ n, valD (digs n) = n := digs_ind rfl fun n hn ih => by
 rw [digs_pos hn]; simp only [valD]; rw [ih]; omega
theorem digs_lt : ∀ n, IsDig (digs n) := digs_ind (fun _ h => by cases h) fun n hn ih => by
 rw [digs_pos hn]
 intro d hd
 rcases List.mem_cons.1 hd with rfl | h
 · omega
 exact ih d h
theorem canon_nil : Canon [] := by unfold Canon; simp
theorem canon_cons {d : Nat} {l : List Nat} (h : Canon (d :: l)) : Canon l := by
 unfold Canon at *
 cases l with
 | nil => simp
 | cons e l => simpa [List.getLast?_cons_cons] using h
theorem canon_one {d : Nat} (h : Canon [d]) : d ≠ 0 := by
 unfold Canon at h; simpa using h
theorem digs_canon : ∀ n, Canon (digs n) := digs_ind canon_nil fun n hn ih => by
 rw [digs_pos hn]
 unfold Canon at *
 by_cases h : n / 10 = 0
 · rw [h, digs_zero]; simp; omega
 rw [digs_pos h] at ih ⊢
 rw [List.getLast?_cons_cons]; exact ih
theorem valD_pos : ∀ {l : List Nat}, Canon l → l ≠ [] → valD l ≠ 0
 | [], _, h => absurd rfl h
 | [d], h, _ => by have := canon_one h; simp only [valD]; omega
 | d :: e :: l, h, _ => by
  have := valD_pos (canon_cons h) (by simp)
  have e1 : valD (d :: e :: l) = d + 10 * valD (e :: l) := rfl
  omega
theorem digs_valD : ∀ {l : List Nat}, IsDig l → Canon l → digs (valD l) = l
 | [], _, _ => rfl
 | d :: l, hd, hc => by
  have hdl := hd d (by simp)
  have ih := digs_valD (l := l) (fun x hx => hd x (by simp [hx])) (canon_cons hc)
  rw [digs_pos (valD_pos hc (by simp))]
  simp only [valD]
  rw [show (d + 10 * valD l) % 10 = d by omega, show (d + 10 * valD l) / 10 = valD l by omega, ih]
theorem valD_lt : ∀ {l : List Nat}, IsDig l → valD l < 10 ^ l.length
 | [], _ => by simp [valD]
 | d :: l, hd => by
  have hdl := hd d (by simp)
  have ih := valD_lt (l := l) (fun x hx => hd x (by simp [hx]))
  rw [List.length_cons, Nat.pow_succ]
  simp only [valD]; omega
theorem digs_length_le : ∀ (k n : Nat), n < 10 ^ k → (digs n).length ≤ k
  | 0, n, h => by obtain rfl : n = 0 := by simpa using h
                  simp [digs_zero]
  | k + 1, n, h => by
    by_cases hn : n = 0
    · subst hn; simp [digs_zero]
    · rw [digs_pos hn, List.length_cons]
      have := digs_length_le k (n / 10) (by rw [Nat.pow_succ] at h; omega)
      omega
theorem lt_of_digs_length {k n : Nat} (h : (digs n).length ≤ k) : n < 10 ^ k := by
 have h1 := valD_lt (digs_lt n)
 rw [valD_digs] at h1
 exact Nat.lt_of_lt_of_le h1 (Nat.pow_le_pow_right (by decide) h)
theorem digs_length_iff (k n : Nat) : (digs n).length ≤ k ↔ n < 10 ^ k := ⟨lt_of_digs_length, digs_length_le k n⟩
theorem valD_append : ∀ (l m : List Nat), valD (l ++ m) = valD l + 10 ^ l.length * valD m
 | [], m => by simp [valD]
 | d :: l, m => by
  rw [List.cons_append, List.length_cons, Nat.pow_succ]
  simp only [valD]
  rw [valD_append l m, Nat.mul_add, Nat.mul_comm (10 ^ l.length) 10, Nat.mul_assoc]; omega
theorem isDig_append {l m : List Nat} (h1 : IsDig l) (h2 : IsDig m) : IsDig (l ++ m) := fun d hd => (List.mem_append.1 hd).elim (h1 d) (h2 d)
theorem isDig_take {l : List Nat} (h : IsDig l) (k : Nat) : IsDig (l.take k) := fun d hd => h d (List.mem_of_mem_take hd)
def trimD (l : List Nat) : List Nat := digs (valD l)
theorem trimD_canon {l : List Nat} (h : IsDig l) (d : Nat) (hd : d ≠ 0) (h2 : IsDig (l ++ [d])) : trimD (l ++ [d]) = l ++ [d] := by
 have _ := h
 exact digs_valD h2 (by unfold Canon; simpa using hd)
/-! ### Text -/
def byteL (l : List Nat) : ByteArray := ⟨(l.map Nat.toUInt8).toArray⟩
def textN (n : Nat) : List Nat := if n = 0 then [48] else (digs n).reverse.map (48 + ·)
def textI (x : Int) : ByteArray := byteL ((if x < 0 then [45] else []) ++ textN x.natAbs)
def intD (neg : Bool) (n : Nat) : Int := if neg then -(n : Int) else n
theorem intD_abs (neg : Bool) (n : Nat) : (intD neg n).natAbs = n := by cases neg <;> simp [intD]
def Fits (x : Int) : Prop := x.natAbs < 10 ^ 200
theorem byteL_size (l : List Nat) : (byteL l).size = l.length := by
 show (l.map Nat.toUInt8).toArray.size = _
 simp
theorem byteL_get (l : List Nat) (h : ∀ x ∈ l, x < 256) (i : Nat) (hi : i < (byteL l).size) : ((byteL l)[i]).toNat = l.getD i 0 := by
 have hl : i < l.length := by rwa [byteL_size] at hi
 have e1 : (byteL l)[i] = (l.map Nat.toUInt8).toArray[i]'(by simpa using hl) := rfl
 rw [e1]
 have hb := h l[i] (List.getElem_mem _)
 simp [List.getD_eq_getElem?_getD, hl]
 omega
theorem byteL_inj {l m : List Nat} (hl : ∀ x ∈ l, x < 256) (hm : ∀ x ∈ m, x < 256) (h : byteL l = byteL m) : l = m := by
 have hs : l.length = m.length := by rw [← byteL_size l, ← byteL_size m, h]
 apply List.ext_getElem hs
 intro i h1 h2
 have a := byteL_get l hl i (by rw [byteL_size]; exact h1)
 have b := byteL_get m hm i (by rw [byteL_size]; exact h2)
 simp only [h] at a
 rw [a] at b
 simpa [List.getD_eq_getElem?_getD, h1, h2] using b
theorem textN_dig (n : Nat) : ∀ x ∈ textN n, 48 ≤ x ∧ x < 58 := by
 unfold textN
 split
 · intro x hx; simp at hx; omega
 intro x hx
 rw [List.mem_map] at hx
 obtain ⟨d, hd, rfl⟩ := hx
 have := digs_lt n d (List.mem_reverse.1 hd)
 omega
theorem textN_lt (n : Nat) : ∀ x ∈ textN n, x < 256 := fun x hx => by have := textN_dig n x hx; omega
theorem textN_inj {m n : Nat} (h : textN m = textN n) : m = n := by
 have key : ∀ n, n ≠ 0 → textN n ≠ [48] := by
  intro n hn he
  unfold textN at he
  rw [if_neg hn] at he
  have hd : (digs n).reverse.map (48 + ·) = [0].map (48 + ·) := he
  have hl : (digs n).reverse = [0] := by
   have := congrArg (List.map (· - 48)) hd
   simpa [List.map_map, Function.comp_def] using this
  have h2 : digs n = [0] := by have := congrArg List.reverse hl; simpa using this
  have := digs_canon n
  rw [h2] at this
  exact this rfl
 by_cases hm : m = 0
 · by_cases hn : n = 0
   · rw [hm, hn]
   rw [hm] at h; exact absurd h.symm (key n hn)
 by_cases hn : n = 0
 · rw [hn] at h; exact absurd h (key m hm)
 unfold textN at h
 rw [if_neg hm, if_neg hn] at h
 have hl : (digs m).reverse = (digs n).reverse := by
  have := congrArg (List.map (· - 48)) h
  simpa [List.map_map, Function.comp_def] using this
 have h2 : digs m = digs n := by have := congrArg List.reverse hl; simpa using this
 rw [← valD_digs m, h2, valD_digs]
theorem textN_ne_nil (n : Nat) : textN n ≠ [] := by
 unfold textN
 split
 · simp
 rename_i h; rw [digs_pos h]; simp
theorem textI_inj {x y : Int} (h : textI x = textI y) : x = y := by
 unfold textI at h
 have hx : ∀ z ∈ (if x < 0 then [45] else []) ++ textN x.natAbs, z < 256 := by
  intro z hz
  rcases List.mem_append.1 hz with h1 | h1
  · split at h1 <;> simp at h1; omega
  exact textN_lt _ z h1
 have hy : ∀ z ∈ (if y < 0 then [45] else []) ++ textN y.natAbs, z < 256 := by
  intro z hz
  rcases List.mem_append.1 hz with h1 | h1
  · split at h1 <;> simp at h1; omega
  exact textN_lt _ z h1
 have hl := byteL_inj hx hy h
 have key : ∀ m n : Nat, [45] ++ textN m ≠ textN n := by
  intro m n he
  have := textN_dig n 45 (by rw [← he]; simp)
  omega
 by_cases h1 : x < 0
 · by_cases h2 : y < 0
   · rw [if_pos h1, if_pos h2] at hl
     have := textN_inj (List.append_cancel_left hl)
     omega
   rw [if_pos h1, if_neg h2] at hl
   exact absurd hl (key _ _)
 by_cases h2 : y < 0
 · rw [if_neg h1, if_pos h2] at hl
   exact absurd hl.symm (key _ _)
 rw [if_neg h1, if_neg h2] at hl
 have := textN_inj (List.append_cancel_left hl)
 omega
end Go.Proofs.YtcglcgphgahnpaaGreatDoor
namespace Go.Proofs.YtcglcgphgahnpaaGreatDoor
def bytesL (s : ByteArray) : List Nat := s.data.toList.map UInt8.toNat
theorem bytesL_length (s : ByteArray) : (bytesL s).length = s.size := by simp [bytesL]
theorem bytesL_byteL {l : List Nat} (h : ∀ x ∈ l, x < 256) : bytesL (byteL l) = l := by
 unfold bytesL byteL
 rw [List.map_map]
 have : ∀ (m : List Nat), (∀ x ∈ m, x < 256) → m.map (UInt8.toNat ∘ Nat.toUInt8) = m := by
  intro m
  induction m with
  | nil => intro _; rfl
  | cons a m ih =>
   intro hm
   have ha := hm a (by simp)
   rw [List.map_cons, ih (fun x hx => hm x (by simp [hx]))]
   simp
   omega
 exact this l h
theorem byteL_bytesL (s : ByteArray) : byteL (bytesL s) = s := by
 apply ByteArray.ext
 unfold byteL bytesL
 rw [List.map_map]
 have : (Nat.toUInt8 ∘ UInt8.toNat) = (id : UInt8 → UInt8) := by
  funext b
  simp
 rw [this, List.map_id]
def digT (r : List Nat) : List Nat := (r.map (· - 48)).reverse
def plainB (r : List Nat) : Bool := r.all (fun x => decide (48 ≤ x ∧ x < 58)) && (decide (0 < r.length ∧ r.length ≤ 200) && (decide (r = [48]) || decide (r.head? ≠ some 48)))
def validL (l : List Nat) : Bool := match l with
 | 45 :: r => decide (r ≠ [48]) && plainB r
 | l => plainB l
def numL (l : List Nat) : Int := match l with
 | 45 :: r => -(valD (digT r) : Int)
 | l => (valD (digT l) : Int)
def validB (s : ByteArray) : Bool := validL (bytesL s)
def numB (s : ByteArray) : Int := numL (bytesL s)
theorem digT_dig {r : List Nat} (h : ∀ x ∈ r, 48 ≤ x ∧ x < 58) : IsDig (digT r) := by
 intro d hd
 unfold digT at hd
 rw [List.mem_reverse, List.mem_map] at hd
 obtain ⟨x, hx, rfl⟩ := hd
 have := h x hx; omega
theorem plainB_parts {r : List Nat} (h : plainB r = true) : (∀ x ∈ r, 48 ≤ x ∧ x < 58) ∧ 0 < r.length ∧ r.length ≤ 200 ∧ (r = [48] ∨ r.head? ≠ some 48) := by
 unfold plainB at h
 simp only [Bool.and_eq_true, Bool.or_eq_true, decide_eq_true_eq, List.all_eq_true] at h
 exact ⟨h.1, h.2.1.1, h.2.1.2, h.2.2⟩
theorem back48 {r : List Nat} (h : ∀ x ∈ r, 48 ≤ x ∧ x < 58) : (r.map (· - 48)).map (48 + ·) = r := by
 induction r with
 | nil => rfl
 | cons a r ih =>
  have := h a (by simp)
  rw [List.map_cons, List.map_cons, ih (fun x hx => h x (by simp [hx]))]
  rw [show 48 + (a - 48) = a by omega]
theorem plain_canon {r : List Nat} (h : plainB r = true) (h0 : r ≠ [48]) : digs (valD (digT r)) = digT r ∧ valD (digT r) ≠ 0 := by
 obtain ⟨hd, hl, _, h2⟩ := plainB_parts h
 have h3 : r.head? ≠ some 48 := h2.resolve_left h0
 have hne : digT r ≠ [] := by
  intro e
  have := congrArg List.length e
  simp [digT] at this
  simp [this] at hl
 have hc : Canon (digT r) := by
  cases r with
  | nil => simp at hl
  | cons a r =>
   have ha := hd a (by simp)
   have h4 : a ≠ 48 := by intro e; apply h3; simp [e]
   unfold Canon digT
   simp
   omega
 exact ⟨digs_valD (digT_dig hd) hc, valD_pos hc hne⟩
theorem plain_text {r : List Nat} (h : plainB r = true) : textN (valD (digT r)) = r ∧ valD (digT r) < 10 ^ 200 := by
 obtain ⟨hd, hl, hl2, _⟩ := plainB_parts h
 have hlt := valD_lt (digT_dig hd)
 have hlen : (digT r).length = r.length := by simp [digT]
 rw [hlen] at hlt
 refine ⟨?_, Nat.lt_of_lt_of_le hlt (Nat.pow_le_pow_right (by decide) hl2)⟩
 by_cases h0 : r = [48]
 · subst h0; rfl
 obtain ⟨h5, h6⟩ := plain_canon h h0
 unfold textN
 rw [if_neg h6, h5]
 unfold digT
 rw [List.reverse_reverse, back48 hd]
theorem textN_plain {n : Nat} (h : n < 10 ^ 200) : plainB (textN n) = true ∧ valD (digT (textN n)) = n := by
 have hd := textN_dig n
 by_cases hn : n = 0
 · subst hn; exact ⟨by decide, by decide⟩
 have hl := digs_length_le 200 n h
 have ht : textN n = (digs n).reverse.map (48 + ·) := by unfold textN; rw [if_neg hn]
 have hv : digT (textN n) = digs n := by
  rw [ht]; unfold digT
  rw [List.map_map]
  have : ((· - 48) ∘ (48 + ·) : Nat → Nat) = id := by funext x; simp
  rw [this, List.map_id, List.reverse_reverse]
 refine ⟨?_, by rw [hv, valD_digs]⟩
 have hne := textN_ne_nil n
 have hlen : (textN n).length = (digs n).length := by rw [ht]; simp
 unfold plainB
 simp only [Bool.and_eq_true, Bool.or_eq_true, decide_eq_true_eq, List.all_eq_true]
 refine ⟨hd, ⟨List.length_pos_iff.2 hne, by omega⟩, .inr ?_⟩
 intro he
 have hc := digs_canon n
 unfold Canon at hc
 rw [ht] at he
 cases hg : (digs n).getLast? with
 | none => rw [List.getLast?_eq_none_iff] at hg; rw [digs_pos hn] at hg; cases hg
 | some d =>
  rw [hg] at hc
  have : (digs n).reverse.head? = some d := by rw [List.head?_reverse, hg]
  rw [List.head?_map, this] at he
  simp at he
  exact hc (by rw [he])
theorem text_lt (x : Int) : ∀ z ∈ (if x < 0 then [45] else []) ++ textN x.natAbs, z < 256 := by
 intro z hz
 rcases List.mem_append.1 hz with h1 | h1
 · split at h1 <;> simp at h1; omega
 exact textN_lt _ z h1
theorem bytesL_textI (x : Int) : bytesL (textI x) = (if x < 0 then [45] else []) ++ textN x.natAbs := bytesL_byteL (text_lt x)
theorem textN_no_sign (n : Nat) (r : List Nat) : textN n ≠ 45 :: r := by
 intro h
 have := textN_dig n 45 (by rw [h]; simp)
 omega
theorem valid_text {x : Int} (h : Fits x) : validB (textI x) = true ∧ numB (textI x) = x := by
 unfold Fits at h
 obtain ⟨h1, h2⟩ := textN_plain h
 unfold validB numB
 rw [bytesL_textI]
 by_cases hx : x < 0
 · rw [if_pos hx]
   have hne : textN x.natAbs ≠ [48] := by
    intro e
    have : x.natAbs = 0 := textN_inj (e.trans (show [48] = textN 0 from rfl))
    omega
   show (decide (textN x.natAbs ≠ [48]) && plainB (textN x.natAbs)) = true ∧ -(valD (digT (textN x.natAbs)) : Int) = x
   rw [decide_eq_true hne, h1, h2]
   exact ⟨rfl, by omega⟩
 rw [if_neg hx, List.nil_append]
 have e1 : validL (textN x.natAbs) = plainB (textN x.natAbs) := by
  unfold validL; split
  · rename_i r he; exact absurd he (textN_no_sign _ r)
  rfl
 have e2 : numL (textN x.natAbs) = (valD (digT (textN x.natAbs)) : Int) := by
  unfold numL; split
  · rename_i r he; exact absurd he (textN_no_sign _ r)
  rfl
 rw [e1, e2, h1, h2]
 exact ⟨rfl, by omega⟩
theorem text_valid {s : ByteArray} (h : validB s = true) : Fits (numB s) ∧ s = textI (numB s) := by
 unfold validB at h
 unfold numB Fits
 have key : ∀ l, validL l = true → (numL l).natAbs < 10 ^ 200 ∧ byteL l = textI (numL l) := by
  intro l hl
  unfold validL at hl
  unfold numL
  split at hl
  · rename_i r
    simp only [Bool.and_eq_true, decide_eq_true_eq] at hl
    obtain ⟨h0, h1⟩ := hl
    obtain ⟨h2, h3⟩ := plain_text h1
    obtain ⟨_, h5⟩ := plain_canon h1 h0
    refine ⟨by omega, ?_⟩
    unfold textI
    rw [if_pos (by omega), show (-(valD (digT r) : Int)).natAbs = valD (digT r) by omega, h2]
    rfl
  rename_i l' hno
  obtain ⟨h2, h3⟩ := plain_text hl
  refine ⟨by simp; omega, ?_⟩
  unfold textI
  rw [if_neg (by omega), Int.natAbs_natCast, h2]
  rfl
 obtain ⟨h1, h2⟩ := key _ h
 exact ⟨h1, by rw [← h2, byteL_bytesL]⟩
theorem validB_iff (s : ByteArray) : validB s = true ↔ ∃ x, Fits x ∧ s = textI x := by
 constructor
 · intro h; exact ⟨numB s, text_valid h⟩
 rintro ⟨x, hx, rfl⟩; exact (valid_text hx).1
end Go.Proofs.YtcglcgphgahnpaaGreatDoor
namespace Go.Proofs.YtcglcgphgahnpaaGreatDoor
theorem getD_dig {l : List Nat} (h : IsDig l) (i : Nat) : l.getD i 0 < 10 := by
 rw [List.getD_eq_getElem?_getD]
 cases hx : l[i]? with
 | none => simp
 | some x => exact h x (List.mem_of_getElem? hx)
theorem take_snoc (l : List Nat) (k : Nat) (h : k < l.length) : l.take (k + 1) = l.take k ++ [l.getD k 0] := by
 rw [List.take_succ_eq_append_getElem h]; simp [List.getD_eq_getElem?_getD, h]
theorem valD_take (l : List Nat) (k : Nat) (h : k < l.length) : valD (l.take (k + 1)) = valD (l.take k) + 10 ^ k * l.getD k 0 := by
 rw [take_snoc l k h, valD_append, List.length_take, Nat.min_eq_left (by omega)]; simp [valD]
theorem valD_take_all (l : List Nat) (k : Nat) (h : l.length ≤ k) : valD (l.take k) = valD l := by rw [List.take_of_length_le h]
theorem valD_take_getD (l : List Nat) (k : Nat) : valD (l.take (k + 1)) = valD (l.take k) + 10 ^ k * l.getD k 0 := by
 rcases Nat.lt_or_ge k l.length with h | h
 · exact valD_take l k h
 rw [valD_take_all l _ (by omega), valD_take_all l k h]
 simp [List.getD_eq_getElem?_getD, h]
theorem valD_snoc (l : List Nat) (d : Nat) : valD (l ++ [d]) = valD l + 10 ^ l.length * d := by rw [valD_append]; simp [valD]
/-! ### Trimming -/
theorem trim_step_zero (l : List Nat) (k : Nat) (hk : k < l.length) (h : l.getD k 0 = 0) : trimD (l.take (k + 1)) = trimD (l.take k) := by
 unfold trimD; rw [valD_take l k hk, h]; simp
theorem trim_step_stop {l : List Nat} (hl : IsDig l) (k : Nat) (hk : k < l.length) (h : l.getD k 0 ≠ 0) : trimD (l.take (k + 1)) = l.take (k + 1) := by
 have := isDig_take hl (k + 1)
 rw [take_snoc l k hk] at this ⊢
 exact trimD_canon (isDig_take hl k) _ h this
theorem trimD_take : ∀ (k : Nat) {l : List Nat}, l.length = k → IsDig l → trimD l = l.take (trimD l).length
  | 0, l, hk, _ => by obtain rfl : l = [] := List.eq_nil_of_length_eq_zero hk
                      rfl
  | k + 1, l, hk, hl => by
    have e : l = l.take (k + 1) := (List.take_of_length_le (by omega)).symm
    by_cases h : l.getD k 0 = 0
    · have h1 := trim_step_zero l k (by omega) h
      rw [← e] at h1
      have h2 := trimD_take k (l := l.take k) (by rw [List.length_take]; omega) (isDig_take hl k)
      rw [h1]
      have hlen : (trimD (l.take k)).length ≤ k := by
        have := congrArg List.length h2
        rw [List.length_take, List.length_take] at this
        omega
      conv => lhs; rw [h2]
      rw [List.take_take, Nat.min_eq_left hlen]
    · have h1 := trim_step_stop hl k (by omega) h
      rw [← e] at h1
      rw [h1, List.take_of_length_le (Nat.le_refl _)]
def cmpI (m n : Nat) : Int := if m < n then -1 else if n < m then 1 else 0
theorem len_lt {m n : Nat} (h : (digs m).length < (digs n).length) : m < n := by
 rcases Nat.lt_or_ge m n with h1 | h1
 · exact h1
 have h2 := lt_of_digs_length (Nat.le_refl (digs m).length)
 have := digs_length_le (digs m).length n (by omega)
 omega
theorem valD_split (l : List Nat) (i : Nat) (h : i < l.length) : valD l = valD (l.take i) + 10 ^ i * (l.getD i 0 + 10 * valD (l.drop (i + 1))) := by
 have e : l = l.take i ++ (l.getD i 0 :: l.drop (i + 1)) := by
  rw [List.getD_eq_getElem?_getD, List.getElem?_eq_getElem h]
  simp
 have hv := valD_append (l.take i) (l.getD i 0 :: l.drop (i + 1))
 rw [← e, List.length_take, Nat.min_eq_left (by omega)] at hv
 exact hv
theorem top_lt {a b : List Nat} (ha : IsDig a) (i : Nat) (h1 : i < a.length) (h2 : i < b.length) (hd : a.drop (i + 1) = b.drop (i + 1)) (h : a.getD i 0 < b.getD i 0) : valD a < valD b := by
 rw [valD_split a i h1, valD_split b i h2, hd]
 have h3 := valD_lt (isDig_take ha i)
 rw [List.length_take, Nat.min_eq_left (by omega)] at h3
 have : 10 ^ i * (b.getD i 0 + 10 * valD (b.drop (i + 1))) ≥ 10 ^ i * (a.getD i 0 + 10 * valD (b.drop (i + 1))) + 10 ^ i := by
  have : 10 ^ i * (a.getD i 0 + 10 * valD (b.drop (i + 1))) + 10 ^ i = 10 ^ i * (a.getD i 0 + 10 * valD (b.drop (i + 1)) + 1) := by rw [Nat.mul_add _ _ 1, Nat.mul_one]
  rw [this]
  exact Nat.mul_le_mul_left _ (by omega)
 omega
theorem drop_next {a b : List Nat} (i : Nat) (h1 : i < a.length) (h2 : i < b.length) (hd : a.drop (i + 1) = b.drop (i + 1)) (h : a.getD i 0 = b.getD i 0) : a.drop i = b.drop i := by
 rw [List.drop_eq_getElem_cons h1, List.drop_eq_getElem_cons h2, hd]
 simp [List.getD_eq_getElem?_getD, h1, h2] at h
 rw [h]
/-! ### Adding -/
def PlusInv (a b out : List Nat) (c i : Nat) : Prop := out.length = i ∧ IsDig out ∧ c ≤ 1 ∧ valD out + 10 ^ i * c = valD (a.take i) + valD (b.take i) ∧ (i = 0 ∨ 10 ^ (i - 1) ≤ valD a + valD b)
theorem plus_start (a b : List Nat) : PlusInv a b [] 0 0 := ⟨rfl, (fun _ h => by cases h), by omega, by simp [valD], .inl rfl⟩
theorem valD_take_le (l : List Nat) : ∀ i, valD (l.take i) ≤ valD l := fun i => by
 have := valD_append (l.take i) (l.drop i)
 rw [List.take_append_drop] at this
 omega
theorem canon_ge {l : List Nat} (hl : IsDig l) (h : Canon l) (h0 : 0 < l.length) : 10 ^ (l.length - 1) ≤ valD l := by
 have e := digs_valD hl h
 rcases Nat.lt_or_ge (valD l) (10 ^ (l.length - 1)) with h1 | h1
 · have := digs_length_le _ _ h1
   rw [e] at this; omega
 exact h1
theorem canon_of_ge {l : List Nat} (hl : IsDig l) (h : l = [] ∨ 10 ^ (l.length - 1) ≤ valD l) : digs (valD l) = l := by
 rcases h with rfl | h
 · rfl
 by_cases h0 : l = []
 · subst h0; rfl
 refine digs_valD hl ?_
 unfold Canon
 intro he
 obtain ⟨q, hq⟩ : ∃ q, l = q ++ [0] := by
  have hne := List.getLast?_eq_some_iff.1 he
  obtain ⟨q, hq⟩ := hne
  exact ⟨q, hq⟩
 subst hq
 have h2 := valD_lt (l := q) (fun d hd => hl d (by simp [hd]))
 rw [valD_snoc] at h
 simp at h
 omega
theorem plus_step {a b out : List Nat} {c i : Nat} (ha : IsDig a) (hb : IsDig b) (hca : Canon a) (hcb : Canon b) (h : PlusInv a b out c i) (hi : i < a.length ∨ i < b.length ∨ 0 < c) :
 PlusInv a b (out ++ [(c + a.getD i 0 + b.getD i 0) % 10]) ((c + a.getD i 0 + b.getD i 0) / 10) (i + 1) := by
 obtain ⟨hl, hd, hc, hv, _⟩ := h
 have h1 := getD_dig ha i
 have h2 := getD_dig hb i
 refine ⟨by simp [hl], isDig_append hd (fun d hx => by simp at hx; omega), by omega, ?_, .inr ?_⟩
 · rw [valD_snoc, hl, valD_take_getD, valD_take_getD, Nat.pow_succ]
   generalize a.getD i 0 = x at *
   generalize b.getD i 0 = y at *
   have e : 10 ^ i * ((c + x + y) % 10) + 10 ^ i * 10 * ((c + x + y) / 10) = 10 ^ i * c + 10 ^ i * x + 10 ^ i * y := by
    rw [Nat.mul_assoc, ← Nat.mul_add, ← Nat.mul_add, ← Nat.mul_add, Nat.mod_add_div]
   omega
 rw [Nat.add_sub_cancel]
 have ha2 := valD_take_le a i
 have hb2 := valD_take_le b i
 rcases hi with h | h | h
 · have := canon_ge ha hca (by omega)
   have : 10 ^ i ≤ 10 ^ (a.length - 1) := Nat.pow_le_pow_right (by decide) (by omega)
   omega
 · have := canon_ge hb hcb (by omega)
   have : 10 ^ i ≤ 10 ^ (b.length - 1) := Nat.pow_le_pow_right (by decide) (by omega)
   omega
 have : c = 1 := by omega
 subst this
 omega
theorem plus_end {a b out : List Nat} {i : Nat} (h : PlusInv a b out 0 i) (h1 : a.length ≤ i) (h2 : b.length ≤ i) : out = digs (valD a + valD b) := by
 obtain ⟨hl, hd, _, hv, h0⟩ := h
 rw [valD_take_all a i h1, valD_take_all b i h2, Nat.mul_zero, Nat.add_zero] at hv
 rw [← hv]
 refine (canon_of_ge hd ?_).symm
 rcases h0 with h0 | h0
 · left; exact List.eq_nil_of_length_eq_zero (by omega)
 right; rw [hl, hv]; exact h0
theorem plus_bound {a b out : List Nat} {c i k : Nat} (h : PlusInv a b out c i) (ha : valD a < 10 ^ k) (hb : valD b < 10 ^ k) : i ≤ k + 1 := by
 obtain ⟨_, _, _, _, h0⟩ := h
 rcases h0 with h0 | h0
 · omega
 rcases Nat.lt_or_ge (k + 1) i with h1 | h1
 · exfalso
   have : 10 ^ (k + 1) ≤ 10 ^ (i - 1) := Nat.pow_le_pow_right (by decide) (by omega)
   rw [Nat.pow_succ] at this
   omega
 exact h1
/-! ### Subtracting -/
def MinusInv (a b out : List Nat) (c i : Nat) : Prop := out.length = i ∧ IsDig out ∧ c ≤ 1 ∧ valD out + valD (b.take i) = valD (a.take i) + 10 ^ i * c
theorem minus_start (a b : List Nat) : MinusInv a b [] 0 0 := ⟨rfl, (fun _ h => by cases h), by omega, by simp [valD]⟩
theorem minus_step {a b out : List Nat} {c i : Nat} (ha : IsDig a) (hb : IsDig b) (h : MinusInv a b out c i) (d c' : Nat)
 (hs : (c + b.getD i 0 ≤ a.getD i 0 ∧ d = a.getD i 0 - c - b.getD i 0 ∧ c' = 0) ∨ (a.getD i 0 < c + b.getD i 0 ∧ d = a.getD i 0 + 10 - c - b.getD i 0 ∧ c' = 1)) : MinusInv a b (out ++ [d]) c' (i + 1) := by
 obtain ⟨hl, hd, hc, hv⟩ := h
 have h1 := getD_dig ha i
 have h2 := getD_dig hb i
 refine ⟨by simp [hl], isDig_append hd (fun x hx => by simp at hx; omega), by omega, ?_⟩
 rw [valD_snoc, hl, valD_take_getD, valD_take_getD, Nat.pow_succ]
 generalize a.getD i 0 = x at *
 generalize b.getD i 0 = y at *
 have e : 10 ^ i * d + 10 ^ i * c + 10 ^ i * y = 10 ^ i * x + 10 ^ i * 10 * c' := by
  rw [Nat.mul_assoc, ← Nat.mul_add, ← Nat.mul_add, ← Nat.mul_add]
  congr 1
  omega
 omega
theorem minus_end {a b out : List Nat} {c : Nat} (hb : IsDig b) (h : MinusInv a b out c a.length) (hle : valD b ≤ valD a) (hlen : b.length ≤ a.length) : trimD out = digs (valD a - valD b) := by
 obtain ⟨hl, hd, hc, hv⟩ := h
 rw [valD_take_all a _ (Nat.le_refl _), valD_take_all b _ hlen] at hv
 have h1 := valD_lt hd
 rw [hl] at h1
 have _ := hb
 have : c = 0 := by
  rcases Nat.lt_or_ge 0 c with h2 | h2
  · have : c = 1 := by omega
    subst this
    omega
  omega
 subst this
 unfold trimD
 congr 1
 omega
end Go.Proofs.YtcglcgphgahnpaaGreatDoor
namespace Go.Proofs.YtcglcgphgahnpaaGreatDoor
open Go Go.Proofs Go.RowKit Go.Lib
theorem ret_w {k : IntKind} {a b : Int} (h : a = b) : Ending.returned (.int k a) = .returned (.int k b) := by rw [h]
theorem ret_bool {a b : Bool} (h : a = b) : Ending.returned (.bool a) = .returned (.bool b) := by rw [h]
theorem str_eq_iff (a b : ByteArray) : (a.toList == b.toList) = decide (a = b) := by
 rw [ByteArray.toList_eq, ByteArray.toList_eq, Bool.eq_iff_iff, beq_iff_eq, decide_eq_true_eq]
 exact ⟨fun h => ByteArray.ext (Array.toList_inj.1 h), fun h => by rw [h]⟩
theorem below_same {n : Nat} {w W W' : World} (h : Below n w W) (ho : W'.os = W.os) (ht : W'.tape = W.tape) (hp : W'.output = W.output) (hh : W'.heap = W.heap) : Below n w W' :=
 ⟨ho.trans h.os, ht.trans h.tape, hp.trans h.output, by rw [hh]; exact h.size, fun k hk => by rw [hh]; exact h.block k hk⟩
theorem below_drewN {n : Nat} {w w' : World} (h : Below n w w') (k : Nat) : Below n w (w'.drewN k) := ⟨h.os, h.tape, h.output, h.size, h.block⟩
theorem own_below {w w' : World} {n base : Nat} {e : TypeId} {size : Nat} {v : Value} {k : Nat} {xs : List Value} (h : w.ownsRow base e size v k xs) (hb : Below n w w') (hn : w.heap.size ≤ n) : w'.ownsRow base e size v k xs := by
 refine ⟨h.1, h.2.imp id ?_⟩
 rintro ⟨g, cap, cur, hv, hg, hh, r⟩
 have hlt : g < w.heap.size := (Array.getElem?_eq_some_iff.1 hh).1
 exact ⟨g, cap, cur, hv, hg, (hb.block g (by omega)).trans hh, r⟩
theorem own_heap {w w' : World} {base : Nat} {e : TypeId} {size : Nat} {v : Value} {k : Nat} {xs : List Value} (h : w.ownsRow base e size v k xs) (hb : ∀ j, j < w.heap.size → w'.heap[j]? = w.heap[j]?) : w'.ownsRow base e size v k xs := by
 refine ⟨h.1, h.2.imp id ?_⟩
 rintro ⟨g, cap, cur, hv, hg, hh, r⟩
 have hlt : g < w.heap.size := (Array.getElem?_eq_some_iff.1 hh).1
 exact ⟨g, cap, cur, hv, hg, (hb g hlt).trans hh, r⟩
theorem own_ge {w : World} {base : Nat} {e : TypeId} {size : Nat} {v : Value} {n : Nat} {xs : List Value} (h : w.ownsRow base e size v n xs) : ∀ k, v.ownBlock = some k → base ≤ k := fun k hk => (h.lt k hk).1
def NumsAt (k : IntKind) (W : World) (g o : Nat) (l : List Nat) : Prop := ∀ j, j < l.length → W.cell? ⟨g, o + j, none⟩ = some (.int k ((l.getD j 0 : Nat) : Int))
theorem NumsAt.below {k : IntKind} {n : Nat} {W W' : World} {g o : Nat} {l : List Nat} (h : NumsAt k W g o l) (hb : Below n W W') (hn : g < n) : NumsAt k W' g o l :=
 fun j hj => (hb.cell (p := ⟨g, o + j, none⟩) hn).trans (h j hj)
theorem NumsAt.heq {k : IntKind} {W W' : World} {g o : Nat} {l : List Nat} (h : NumsAt k W g o l) (e : W'.heap[g]? = W.heap[g]?) : NumsAt k W' g o l :=
 fun j hj => (World.cell?_of_block e).trans (h j hj)
theorem add_at (g o j : Nat) : (⟨g, o, none⟩ : Addr).add j = ⟨g, o + j, none⟩ := by unfold Addr.add; split <;> simp_all
def numVals (k : IntKind) (l : List Nat) : List Value := l.map fun n => Value.int k ((n : Nat) : Int)
theorem numVals_append (k : IntKind) (a b : List Nat) : numVals k (a ++ b) = numVals k a ++ numVals k b := by simp [numVals]
theorem numVals_get {k : IntKind} {l : List Nat} {j : Nat} {u : Value} (h : (numVals k l)[j]? = some u) : j < l.length ∧ u = .int k ((l.getD j 0 : Nat) : Int) := by
 have hj : j < l.length := by
  rcases Nat.lt_or_ge j l.length with h1 | h1
  · exact h1
  rw [List.getElem?_eq_none (by simp [numVals]; omega)] at h; cases h
 refine ⟨hj, ?_⟩
 simp [numVals, hj] at h
 rw [← h]
 simp [List.getD_eq_getElem?_getD, hj]
theorem numVals_one {k : IntKind} {l : List Nat} : ∀ u ∈ numVals k l, u.oneCell' = true := by
 intro u hu
 simp only [numVals, List.mem_map] at hu
 obtain ⟨s, _, rfl⟩ := hu
 rfl
theorem new_nums (k : IntKind) (W : World) (l : List Nat) (t : TypeId) : NumsAt k (W.alloc (.cells (numVals k l).toArray t)) W.heap.size 0 l := by
 intro j hj
 rw [cell_of_row _ _ (0 + j) _ _ _ (heap_alloc_new W _)]
 simp [numVals, hj]
theorem new_num1 (k : IntKind) (W : World) (x : Int) (n : Nat) (hx : x = (n : Nat)) (t : TypeId) : NumsAt k (W.alloc (.cells #[.int k x] t)) W.heap.size 0 [n] := by
 subst hx; exact new_nums k W [n] t
theorem info_i64 : (Tryz.prog.info? 3).map (fun i => (i.zero, i.size, i.bytes)) = some (some (.int .i64 0), 1, 8) := by kernel_rfl
def OwnI (W : World) (base : Nat) (v : Value) (l : List Nat) : Prop := W.ownsRow base 3 1 v l.length (numVals .i64 l)
theorem OwnI.nil (W : World) (base : Nat) : OwnI W base (.slice none 0 0) [] := World.ownsRow_nil _ _ _ _
theorem OwnI.below {n base : Nat} {W W' : World} {v : Value} {p : List Nat} (h : OwnI W base v p) (hb : Below n W W') (hn : W.heap.size ≤ n) : OwnI W' base v p := own_below h hb hn
theorem OwnI.heq {W W' : World} {base : Nat} {v : Value} {p : List Nat} (h : OwnI W base v p) (e : W'.heap = W.heap) : OwnI W' base v p := own_heap h (fun j _ => by rw [e])
theorem OwnI.alloc {W : World} {base : Nat} {v : Value} {p : List Nat} (h : OwnI W base v p) (o : Obj) : OwnI (W.alloc o) base v p := own_heap h (fun k hk => Below.heap_alloc W o k hk)
theorem OwnI.form {W : World} {base : Nat} {v : Value} {p : List Nat} (h : OwnI W base v p) (n : Nat) (hn : p.length = n) (h0 : 0 < n) :
 ∃ g cap, v = .slice (some ⟨g, 0, none⟩) n cap ∧ n ≤ cap ∧ base ≤ g ∧ g < W.heap.size ∧ NumsAt .i64 W g 0 p ∧ cap ≤ maxLen := by
 subst hn
 rcases h.2 with ⟨_, h1⟩ | ⟨g, cap, cur, hv, hb, hg, h2, h3, h4, h5⟩
 · omega
 refine ⟨g, cap, hv, by omega, hb, ?_, ?_, h3⟩
 · rcases Nat.lt_or_ge g W.heap.size with hlt | hge
   · exact hlt
   rw [Array.getElem?_eq_none hge] at hg; cases hg
 intro j hj
 rw [cell_of_row W g (0 + j) cur _ _ hg, ← Array.getElem?_toList, ← List.getElem?_take_of_lt (j := p.length * 1) (by omega), h5]
 simp [numVals, hj]
theorem ownI_new (W : World) (base : Nat) (l : List Nat) (hb : base ≤ W.heap.size) (hl : l.length ≤ maxLen) : OwnI (W.alloc (.cells (numVals .i64 l).toArray 3)) base (.slice (some ⟨W.heap.size, 0, none⟩) l.length l.length) l :=
 ⟨by simp [numVals], .inr ⟨W.heap.size, l.length, (numVals .i64 l).toArray, rfl, hb, heap_alloc_new W _, Nat.le_refl _, hl, by simp [numVals], by rw [List.take_of_length_le (by simp [numVals])]⟩⟩
theorem run_pushI (w w0 : World) (n : Nat) (ty : TypeId) (v : Value) (l p : List Nat) (hown : OwnI w n v l) (hb : Below n w0 w) (hn : n ≤ w.heap.size) (g o m c : Nat) (hm : p.length = m) (hc : NumsAt .i64 w g o p) (hl : l.length + m ≤ 17592186044416) :
 ∃ v' w', (Builtin.append_ #[47, 47] ty #[v, .slice (some ⟨g, o, none⟩) m c]).run Tryz.prog w = .ok v' w' ∧ OwnI w' n v' (l ++ p) ∧ Below n w0 w' ∧ w.grownBy w' v.ownBlock := by
 obtain ⟨i0, hi, hz0, hz1, hz2⟩ := info_parts info_i64
 subst hm
 obtain ⟨v', w', hrun, r1, r2, _⟩ := run_append_own (P := Tryz.prog) w n 47 ty 3 i0 (.int .i64 0) 1 8 Tryz.underlying47 hi hz0 hz1 hz2 rfl (by decide) v l.length (numVals .i64 l) hown
  ⟨g, o, none⟩ p.length c (numVals .i64 p) (by simp [numVals]) (by
   intro j u hj
   obtain ⟨h1, rfl⟩ := numVals_get hj
   rw [add_at]; exact hc j h1) numVals_one (by unfold maxLen; omega) (by omega) hn
 refine ⟨v', w', hrun, ?_, hb.grown r2 hn (own_ge hown), r2⟩
 unfold OwnI
 rw [numVals_append, List.length_append]
 exact r1
theorem walk_pushI {ops : Array Oper} {o : Oper} {rest : List Oper} {a : Act} {w w0 : World} {Q : Exit → Act → World → Prop}
 (hgd : o.guard = none) (s x : Operand) (hop : o.op = Op.call { callee := Callee.builtin Builtin.append, args := #[s, x], argTypes := #[47, 47] })
 (n : Nat) (v : Value) (l p : List Nat) (hs : a.eval s = v) (hown : OwnI w n v l) (hb : Below n w0 w) (hn : n ≤ w.heap.size) (g off m c : Nat) (hx : a.eval x = .slice (some ⟨g, off, none⟩) m c) (hm : p.length = m) (hc : NumsAt .i64 w g off p) (hl : l.length + m ≤ 17592186044416)
 (hK : ∀ v' w', OwnI w' n v' (l ++ p) → Below n w0 w' → wpList Tryz.prog ops Q rest (a.put o.dst v') w') : wpList Tryz.prog ops Q (o :: rest) a w := by
 refine wpList_plain hgd fun K hK' => ?_
 obtain ⟨v', w', hrun, r1, r2, _⟩ := run_pushI w w0 n o.type v l p hown hb hn g off m c hm hc hl
 unfold Oper.wp
 simp [execOp, hop, resolve, invoke, builtin, hs, hx, hrun, Result.andThen]
 exact hK' _ _ (hK v' w' r1 r2)
/-! ### u8 -/
theorem info_u8 : (Tryz.prog.info? 5).map (fun i => (i.zero, i.size, i.bytes)) = some (some (.int .u8 0), 1, 1) := by kernel_rfl
def Own8 (W : World) (base : Nat) (v : Value) (l : List Nat) : Prop := W.ownsRow base 5 1 v l.length (numVals .u8 l)
theorem Own8.nil (W : World) (base : Nat) : Own8 W base (.slice none 0 0) [] := World.ownsRow_nil _ _ _ _
theorem Own8.below {n base : Nat} {W W' : World} {v : Value} {p : List Nat} (h : Own8 W base v p) (hb : Below n W W') (hn : W.heap.size ≤ n) : Own8 W' base v p := own_below h hb hn
theorem Own8.heq {W W' : World} {base : Nat} {v : Value} {p : List Nat} (h : Own8 W base v p) (e : W'.heap = W.heap) : Own8 W' base v p := own_heap h (fun j _ => by rw [e])
theorem Own8.alloc {W : World} {base : Nat} {v : Value} {p : List Nat} (h : Own8 W base v p) (o : Obj) : Own8 (W.alloc o) base v p := own_heap h (fun k hk => Below.heap_alloc W o k hk)
theorem Own8.form {W : World} {base : Nat} {v : Value} {p : List Nat} (h : Own8 W base v p) (n : Nat) (hn : p.length = n) (h0 : 0 < n) :
 ∃ g cap, v = .slice (some ⟨g, 0, none⟩) n cap ∧ n ≤ cap ∧ base ≤ g ∧ g < W.heap.size ∧ NumsAt .u8 W g 0 p ∧ cap ≤ maxLen := by
 subst hn
 rcases h.2 with ⟨_, h1⟩ | ⟨g, cap, cur, hv, hb, hg, h2, h3, h4, h5⟩
 · omega
 refine ⟨g, cap, hv, by omega, hb, ?_, ?_, h3⟩
 · rcases Nat.lt_or_ge g W.heap.size with hlt | hge
   · exact hlt
   rw [Array.getElem?_eq_none hge] at hg; cases hg
 intro j hj
 rw [cell_of_row W g (0 + j) cur _ _ hg, ← Array.getElem?_toList, ← List.getElem?_take_of_lt (j := p.length * 1) (by omega), h5]
 simp [numVals, hj]
theorem run_push8 (w w0 : World) (n : Nat) (ty : TypeId) (v : Value) (l p : List Nat) (hown : Own8 w n v l) (hb : Below n w0 w) (hn : n ≤ w.heap.size) (g o m c : Nat) (hm : p.length = m) (hc : NumsAt .u8 w g o p) (hl : l.length + m ≤ 17592186044416) :
 ∃ v' w', (Builtin.append_ #[44, 44] ty #[v, .slice (some ⟨g, o, none⟩) m c]).run Tryz.prog w = .ok v' w' ∧ Own8 w' n v' (l ++ p) ∧ Below n w0 w' ∧ w.grownBy w' v.ownBlock := by
 obtain ⟨i0, hi, hz0, hz1, hz2⟩ := info_parts info_u8
 subst hm
 obtain ⟨v', w', hrun, r1, r2, _⟩ := run_append_own (P := Tryz.prog) w n 44 ty 5 i0 (.int .u8 0) 1 1 Tryz.underlying44 hi hz0 hz1 hz2 rfl (by decide) v l.length (numVals .u8 l) hown
  ⟨g, o, none⟩ p.length c (numVals .u8 p) (by simp [numVals]) (by
   intro j u hj
   obtain ⟨h1, rfl⟩ := numVals_get hj
   rw [add_at]; exact hc j h1) numVals_one (by unfold maxLen; omega) (by omega) hn
 refine ⟨v', w', hrun, ?_, hb.grown r2 hn (own_ge hown), r2⟩
 unfold Own8
 rw [numVals_append, List.length_append]
 exact r1
theorem walk_push8 {ops : Array Oper} {o : Oper} {rest : List Oper} {a : Act} {w w0 : World} {Q : Exit → Act → World → Prop}
 (hgd : o.guard = none) (s x : Operand) (hop : o.op = Op.call { callee := Callee.builtin Builtin.append, args := #[s, x], argTypes := #[44, 44] })
 (n : Nat) (v : Value) (l p : List Nat) (hs : a.eval s = v) (hown : Own8 w n v l) (hb : Below n w0 w) (hn : n ≤ w.heap.size) (g off m c : Nat) (hx : a.eval x = .slice (some ⟨g, off, none⟩) m c) (hm : p.length = m) (hc : NumsAt .u8 w g off p) (hl : l.length + m ≤ 17592186044416)
 (hK : ∀ v' w', Own8 w' n v' (l ++ p) → Below n w0 w' → wpList Tryz.prog ops Q rest (a.put o.dst v') w') : wpList Tryz.prog ops Q (o :: rest) a w := by
 refine wpList_plain hgd fun K hK' => ?_
 obtain ⟨v', w', hrun, r1, r2, _⟩ := run_push8 w w0 n o.type v l p hown hb hn g off m c hm hc hl
 unfold Oper.wp
 simp [execOp, hop, resolve, invoke, builtin, hs, hx, hrun, Result.andThen]
 exact hK' _ _ (hK v' w' r1 r2)
/-! ### Behind a build and a draw -/
theorem atI (g o n c i : Nat) (z : Int) (hz : z = (i : Nat)) (hi : i < n) (w : World) :
 (Instr.indexAt 47 (.slice (some ⟨g, o, none⟩) n c) (.int .i64 z)).run Tryz.prog w = .ok (.pointer (some ⟨g, o + i, none⟩)) w := by
 subst hz
 have hs : ∀ w, (sizeOf (Tryz.prog.elem 47)).run Tryz.prog w = .ok 1 w := fun w => by kernel_rfl
 rw [run_indexAt_slice w 47 _ _ _ _ _ Tryz.underlying47, if_pos (by omega)]
 simp [hs, add_at, Result.andThen]
end Go.Proofs.YtcglcgphgahnpaaGreatDoor
namespace Go.Proofs.YtcglcgphgahnpaaGreatDoor
open Go Go.Proofs Go.RowKit Go.Lib
def HoldI (W : World) (ad : Option Addr) (cap : Nat) (l : List Nat) : Prop :=
 l.length ≤ cap ∧ l.length ≤ 1099511627776 ∧ (l = [] ∨ ∃ g o, ad = some ⟨g, o, none⟩ ∧ g < W.heap.size ∧ NumsAt .i64 W g o l)
theorem HoldI.below {n : Nat} {W W' : World} {ad : Option Addr} {cap : Nat} {l : List Nat} (h : HoldI W ad cap l) (hb : Below n W W') (hn : W.heap.size ≤ n) : HoldI W' ad cap l := by
 obtain ⟨h1, h2, h3⟩ := h
 refine ⟨h1, h2, h3.imp id ?_⟩
 rintro ⟨g, o, rfl, hlt, hs⟩
 exact ⟨g, o, rfl, Nat.lt_of_lt_of_le hlt hb.size, hs.below hb (by omega)⟩
theorem HoldI.nil (W : World) (ad : Option Addr) (cap : Nat) : HoldI W ad cap [] := ⟨Nat.zero_le _, by simp, .inl rfl⟩
theorem HoldI.at {W : World} {ad : Option Addr} {cap : Nat} {l : List Nat} (h : HoldI W ad cap l) (h0 : 0 < l.length) : ∃ g o, ad = some ⟨g, o, none⟩ ∧ g < W.heap.size ∧ NumsAt .i64 W g o l := by
 rcases h.2.2 with rfl | h
 · simp at h0
 exact h
theorem HoldI.take {W : World} {ad : Option Addr} {cap : Nat} {l : List Nat} (h : HoldI W ad cap l) (k : Nat) : HoldI W ad cap (l.take k) := by
 obtain ⟨h1, h2, h3⟩ := h
 refine ⟨by rw [List.length_take]; omega, by rw [List.length_take]; omega, ?_⟩
 rcases h3 with rfl | ⟨g, o, rfl, hlt, hs⟩
 · left; simp
 right
 refine ⟨g, o, rfl, hlt, fun j hj => ?_⟩
 have hj2 : j < k ∧ j < l.length := by rw [List.length_take] at hj; omega
 rw [hs j hj2.2]
 congr 3
 simp [List.getD_eq_getElem?_getD, hj2.1]
theorem OwnI.holds {W : World} {base : Nat} {v : Value} {p : List Nat} (h : OwnI W base v p) (n : Nat) (hn : p.length = n) (hl : n ≤ 1099511627776) : ∃ ad cap, v = .slice ad n cap ∧ HoldI W ad cap p := by
 by_cases h0 : 0 < n
 · obtain ⟨g, cap, hv, hc, _, hg, hs, _⟩ := h.form n hn h0
   exact ⟨_, cap, hv, by omega, by omega, .inr ⟨g, 0, rfl, hg, hs⟩⟩
 have hp : p = [] := List.eq_nil_of_length_eq_zero (by omega)
 subst hp
 obtain rfl : n = 0 := by omega
 obtain ⟨_, ⟨rfl, _⟩ | ⟨g, cap, cur, rfl, hb, hh, _⟩⟩ := h
 · exact ⟨none, 0, rfl, HoldI.nil _ _ _⟩
 exact ⟨_, cap, rfl, HoldI.nil _ _ _⟩
theorem int_elem : Tryz.prog.underlying 47 = some (.slice (Tryz.prog.elem 47)) := by kernel_rfl
theorem int_size (w : World) : (Go.sizeOf (Tryz.prog.elem 47)).run Tryz.prog w = .ok 1 w := by kernel_rfl
theorem sliceI_lo (b o n c k : Nat) (hk : k ≤ c) (w : World) :
 (Instr.slice 47 (.slice (some ⟨b, o, none⟩) n c) none (some (.int .i64 (k : Nat))) none).run Tryz.prog w = .ok (.slice (some ⟨b, o, none⟩) k c) w := by
 rw [run_slice_h w _ _ _ _ int_elem .i64 _ (by omega) (by omega), int_size]
 simp [Result.andThen, sliced, Addr.add]
theorem ret_slice {a : Option Addr} {n m c : Nat} (h : n = m) : Ending.returned (.slice a n c) = .returned (.slice a m c) := by rw [h]
def slen (v : Value) : Nat := match v with | .slice _ n _ => n | _ => 0
theorem trim_any (l : List Nat) (hd : IsDig l) (ad : Option Addr) (cap : Nat) (w : World) (hH : HoldI w ad cap l) (n : Nat) (hn : l.length = n) :
 Calls Tryz.prog 148 #[.slice ad n cap] w fun e w' => e = .returned (.slice ad (trimD l).length cap) ∧ w = w' := by
 have h40 : n ≤ 1099511627776 := by have := hH.2.1; omega
 have hcn : n ≤ cap := by have := hH.1; omega
 obtain ⟨T, hT⟩ : ∃ T, trimD l = T := ⟨_, rfl⟩
 rw [hT]
 have HT := hid hT; have HH := hid hH; have HN := hid hn
 clear hT hH hn
 go_enter Tryz.func148, Tryz.ntmps148
 go_wp2_with fail
 go_loop [0] (fun v => ∃ k : Nat, k ≤ n ∧ v = .slice ad k cap ∧ Hid (trimD (l.take k) = T)) (fun v => slen v)
 case atStart => exact ⟨n, Nat.le_refl _, rfl, (by rw [List.take_of_length_le (by rw [HN.out]; omega)]; exact HT.out : trimD (l.take n) = T)⟩
 obtain ⟨k, hk, rfl, ht⟩ := hrel
 by_cases h0 : k = 0
 · subst h0
   have hTn : 0 = T.length := by rw [← ht.out]; rfl
   have HTN := hid hTn
   have hz : ¬ (0 : Int) < ((0 : Nat) : Int) := by omega
   clear hTn
   go_wp2_with fail
   go_ret
   exact ⟨ret_slice HTN.out, rfl⟩
 obtain ⟨j, rfl⟩ : ∃ j, k = j + 1 := ⟨k - 1, by omega⟩
 have hjl : j < l.length := by rw [HN.out]; omega
 obtain ⟨g, o, rfl, hg, hs⟩ := HH.out.at (by omega)
 have hcell := hs j hjl
 have hz := trim_step_zero l j hjl
 have hst := trim_step_stop hd j hjl
 have hlen : (l.take (j + 1)).length = j + 1 := by rw [List.length_take]; omega
 obtain ⟨x, hx⟩ : ∃ x, l.getD j 0 = x := ⟨_, rfl⟩
 rw [hx] at hcell hz hst
 have hpos : (0 : Int) < ((j + 1 : Nat) : Int) := by omega
 have hsl := fun w => sliceI_lo g o (j + 1) cap j (by omega) w
 have HZ := hid hz; have HST := hid hst; have HLN := hid hlen
 clear hz hst hlen hx hs hjl h0
 by_cases hx0 : x = 0
 · have e1 : ((x : Int) == 0) = true := by rw [beq_iff_eq]; omega
   have HX := hid hx0
   clear hx0
   go_wp2_with fail
   go_round
   case rel => exact ⟨j, by omega, rfl, (by rw [← HZ.out HX.out]; exact ht.out : trimD (l.take j) = T)⟩
   case measure => simp [slen]
 have e1 : ((x : Int) == 0) = false := by rw [beq_eq_false_iff_ne]; omega
 have hTn : j + 1 = T.length := by rw [← ht.out, HST.out hx0]; exact HLN.out.symm
 have HTN := hid hTn
 have e2 : 0 < x := by omega
 clear hx0 hTn
 go_wp2_with fail
 go_ret
 exact ⟨ret_slice HTN.out, rfl⟩
theorem dr2 (w : World) (a b c : Nat) : ∃ k, ((w.drewN a).drewN b).drewN c = w.drewN k := ⟨a + (b + c), by rw [World.drewN_drewN, World.drewN_drewN]⟩
def IntsPost (w : World) (l : List Nat) (e : Ending) (w' : World) : Prop := ∃ ad cap, e = .returned (.slice ad l.length cap) ∧ HoldI w' ad cap l ∧ Below w.heap.size w w' ∧ ∀ p, ad = some p → w.heap.size ≤ p.block
theorem own_hold {W : World} {base : Nat} {v : Value} {p : List Nat} (h : OwnI W base v p) (n : Nat) (hn : p.length = n) (hl : n ≤ 1099511627776) : ∃ ad cap, v = .slice ad n cap ∧ HoldI W ad cap p ∧ ∀ q, ad = some q → base ≤ q.block := by
 by_cases h0 : 0 < n
 · obtain ⟨g, cap, hv, hc, hb, hg, hs, _⟩ := h.form n hn h0
   refine ⟨_, cap, hv, ⟨by omega, by omega, .inr ⟨g, 0, rfl, hg, hs⟩⟩, ?_⟩
   intro q hq
   cases hq
   exact hb
 have hp : p = [] := List.eq_nil_of_length_eq_zero (by omega)
 subst hp
 obtain rfl : n = 0 := by omega
 obtain ⟨_, ⟨rfl, _⟩ | ⟨g, cap, cur, rfl, hb, hh, _⟩⟩ := h
 · exact ⟨none, 0, rfl, HoldI.nil _ _ _, fun q hq => by cases hq⟩
 exact ⟨_, cap, rfl, HoldI.nil _ _ _, fun q hq => by cases hq; exact hb⟩
theorem ints_of_own {w w' : World} {v : Value} {l : List Nat} (h : OwnI w' w.heap.size v l) (hb : Below w.heap.size w w') (hl : l.length ≤ 1099511627776) : IntsPost w l (.returned v) w' := by
 obtain ⟨ad, cap, rfl, hh, hn⟩ := own_hold h l.length rfl hl
 exact ⟨ad, cap, rfl, hh, hb, hn⟩
def IsI (W : World) (g : Nat) (l : List Nat) : Prop := W.heap[g]? = some (.cells (numVals .i64 l).toArray 3 (0, 0))
theorem IsI.cell {W : World} {g : Nat} {l : List Nat} (h : IsI W g l) (i : Nat) (hi : i < l.length) : W.cell? ⟨g, i, none⟩ = some (.int .i64 ((l.getD i 0 : Nat) : Int)) := by
 rw [cell_of_row W g i _ _ _ h]
 simp [numVals, hi]
theorem IsI.frozen {W : World} {g : Nat} {l : List Nat} (h : IsI W g l) (i : Nat) : W.frozen? ⟨g, i, none⟩ = false := frozen_of_row W g i _ _ h
theorem IsI.store {W : World} {g : Nat} {l : List Nat} (h : IsI W g l) (i v : Nat) (x : Int) (hx : x = (v : Nat)) : IsI (W.setCell ⟨g, i, none⟩ (.int .i64 x)) g (l.set i v) := by
 subst hx
 unfold IsI
 have e : (numVals .i64 (l.set i v)).toArray = (numVals .i64 l).toArray.setIfInBounds i (.int .i64 ((v : Nat) : Int)) := by simp [numVals, List.map_set]
 rw [e]
 exact heap_setCell_same W g i _ 3 _ h
theorem IsI.drewN {W : World} {g : Nat} {l : List Nat} (h : IsI W g l) (n : Nat) : IsI (W.drewN n) g l := by unfold IsI; rw [World.heap_drewN]; exact h
theorem IsI.below {n : Nat} {W W' : World} {g : Nat} {l : List Nat} (h : IsI W g l) (hb : Below n W W') (hg : g < n) : IsI W' g l := (hb.block g hg).trans h
theorem IsI.holds {W : World} {g : Nat} {l : List Nat} (h : IsI W g l) (hl : l.length ≤ 1099511627776) : HoldI W (some ⟨g, 0, none⟩) l.length l := by
 refine ⟨Nat.le_refl _, hl, .inr ⟨g, 0, rfl, ?_, fun j hj => by rw [Nat.zero_add]; exact h.cell j hj⟩⟩
 rcases Nat.lt_or_ge g W.heap.size with h1 | h1
 · exact h1
 unfold IsI at h; rw [Array.getElem?_eq_none h1] at h; cases h
theorem made_zeros (n : Nat) : madeCells (Value.int .i64 0).cells (n * 1) = (numVals .i64 (List.replicate n 0)).toArray := by
 apply Array.ext
 · rw [size_madeCells]; simp [numVals]
 intro i h1 h2
 simp [madeCells, numVals, Value.cells, Nat.mod_one]
theorem make_ints (n : Nat) (hn : n ≤ 1000000) (W : World) (z : Int) (hz : z = (n : Nat)) :
 (Instr.makeSlice 47 (.int .i64 z) (.int .i64 z)).run Tryz.prog W = .ok (.slice (some ⟨W.heap.size, 0, none⟩) n n) (W.alloc (.cells (numVals .i64 (List.replicate n 0)).toArray 3)) := by
 subst hz
 obtain ⟨i0, hi, hz0, hz1, hz2⟩ := info_parts info_i64
 have h := run_make (P := Tryz.prog) W 47 3 i0 (.int .i64 0) Tryz.underlying47 hi hz0 .i64 .i64 (n : Int) (n : Int) (by omega) (by omega) (by rw [hz2]; omega) (by omega)
 rw [hz1, Int.toNat_natCast, made_zeros] at h
 exact h
theorem IsI.lt {W : World} {g : Nat} {l : List Nat} (h : IsI W g l) : g < W.heap.size := by
 rcases Nat.lt_or_ge g W.heap.size with h1 | h1
 · exact h1
 unfold IsI at h; rw [Array.getElem?_eq_none h1] at h; cases h
end Go.Proofs.YtcglcgphgahnpaaGreatDoor
namespace Go.Proofs.YtcglcgphgahnpaaGreatDoor
def valG : List Nat → Nat
 | [] => 0
 | d :: l => d + 10000 * valG l
def IsGrp (l : List Nat) : Prop := ∀ d ∈ l, d < 10000
def CanonG (l : List Nat) : Prop := l.getLast? ≠ some 0
def grpsF : Nat → Nat → List Nat
 | 0, _ => []
 | f + 1, n => if n = 0 then [] else n % 10000 :: grpsF f (n / 10000)
def grps (n : Nat) : List Nat := grpsF n n
theorem grpsF_any : ∀ (f g n : Nat), n ≤ f → n ≤ g → grpsF f n = grpsF g n
  | 0, 0, _, _, _ => rfl
  | 0, g + 1, n, h, _ => by obtain rfl : n = 0 := by omega
                            simp [grpsF]
  | f + 1, 0, n, _, h => by obtain rfl : n = 0 := by omega
                            simp [grpsF]
  | f + 1, g + 1, n, h1, h2 => by
    simp only [grpsF]
    split
    · rfl
    · rw [grpsF_any f g (n / 10000) (by omega) (by omega)]
theorem grps_zero : grps 0 = [] := rfl
theorem grps_pos {n : Nat} (h : n ≠ 0) : grps n = n % 10000 :: grps (n / 10000) := by
 obtain ⟨m, rfl⟩ : ∃ m, n = m + 1 := ⟨n - 1, by omega⟩
 unfold grps
 rw [grpsF, if_neg h, grpsF_any m ((m + 1) / 10000) ((m + 1) / 10000) (by omega) (Nat.le_refl _)]
theorem grps_ind {p : Nat → Prop} (h0 : p 0) (h : ∀ n, n ≠ 0 → p (n / 10000) → p n) : ∀ n, p n := by
 intro n
 induction n using Nat.strongRecOn with
 | _ n ih =>
  by_cases hn : n = 0
  · subst hn; exact h0
  exact h n hn (ih (n / 10000) (by omega))
theorem valG_grps : ∀ n, valG (grps n) = n := grps_ind rfl fun n hn ih => by
 rw [grps_pos hn]; simp only [valG]; rw [ih]; omega
theorem grps_lt : ∀ n, IsGrp (grps n) := grps_ind (fun _ h => by cases h) fun n hn ih => by
 rw [grps_pos hn]
 intro d hd
 rcases List.mem_cons.1 hd with rfl | h
 · omega
 exact ih d h
theorem canonG_nil : CanonG [] := by unfold CanonG; simp
theorem canonG_cons {d : Nat} {l : List Nat} (h : CanonG (d :: l)) : CanonG l := by
 unfold CanonG at *
 cases l with
 | nil => simp
 | cons e l => simpa [List.getLast?_cons_cons] using h
theorem canonG_one {d : Nat} (h : CanonG [d]) : d ≠ 0 := by
 unfold CanonG at h; simpa using h
theorem grps_canonG : ∀ n, CanonG (grps n) := grps_ind canonG_nil fun n hn ih => by
 rw [grps_pos hn]
 unfold CanonG at *
 by_cases h : n / 10000 = 0
 · rw [h, grps_zero]; simp; omega
 rw [grps_pos h] at ih ⊢
 rw [List.getLast?_cons_cons]; exact ih
theorem valG_pos : ∀ {l : List Nat}, CanonG l → l ≠ [] → valG l ≠ 0
 | [], _, h => absurd rfl h
 | [d], h, _ => by have := canonG_one h; simp only [valG]; omega
 | d :: e :: l, h, _ => by
  have := valG_pos (canonG_cons h) (by simp)
  have e1 : valG (d :: e :: l) = d + 10000 * valG (e :: l) := rfl
  omega
theorem grps_valG : ∀ {l : List Nat}, IsGrp l → CanonG l → grps (valG l) = l
 | [], _, _ => rfl
 | d :: l, hd, hc => by
  have hdl := hd d (by simp)
  have ih := grps_valG (l := l) (fun x hx => hd x (by simp [hx])) (canonG_cons hc)
  rw [grps_pos (valG_pos hc (by simp))]
  simp only [valG]
  rw [show (d + 10000 * valG l) % 10000 = d by omega, show (d + 10000 * valG l) / 10000 = valG l by omega, ih]
theorem valG_lt : ∀ {l : List Nat}, IsGrp l → valG l < 10000 ^ l.length
 | [], _ => by simp [valG]
 | d :: l, hd => by
  have hdl := hd d (by simp)
  have ih := valG_lt (l := l) (fun x hx => hd x (by simp [hx]))
  rw [List.length_cons, Nat.pow_succ]
  simp only [valG]; omega
theorem grps_length_le : ∀ (k n : Nat), n < 10000 ^ k → (grps n).length ≤ k
  | 0, n, h => by obtain rfl : n = 0 := by simpa using h
                  simp [grps_zero]
  | k + 1, n, h => by
    by_cases hn : n = 0
    · subst hn; simp [grps_zero]
    · rw [grps_pos hn, List.length_cons]
      have := grps_length_le k (n / 10000) (by rw [Nat.pow_succ] at h; omega)
      omega
theorem lt_of_grps_length {k n : Nat} (h : (grps n).length ≤ k) : n < 10000 ^ k := by
 have h1 := valG_lt (grps_lt n)
 rw [valG_grps] at h1
 exact Nat.lt_of_lt_of_le h1 (Nat.pow_le_pow_right (by decide) h)
theorem grps_length_iff (k n : Nat) : (grps n).length ≤ k ↔ n < 10000 ^ k := ⟨lt_of_grps_length, grps_length_le k n⟩
theorem valG_append : ∀ (l m : List Nat), valG (l ++ m) = valG l + 10000 ^ l.length * valG m
 | [], m => by simp [valG]
 | d :: l, m => by
  rw [List.cons_append, List.length_cons, Nat.pow_succ]
  simp only [valG]
  rw [valG_append l m, Nat.mul_add, Nat.mul_comm (10000 ^ l.length) 10000, Nat.mul_assoc]; omega
theorem isGrp_append {l m : List Nat} (h1 : IsGrp l) (h2 : IsGrp m) : IsGrp (l ++ m) := fun d hd => (List.mem_append.1 hd).elim (h1 d) (h2 d)
theorem isGrp_take {l : List Nat} (h : IsGrp l) (k : Nat) : IsGrp (l.take k) := fun d hd => h d (List.mem_of_mem_take hd)
def trimG (l : List Nat) : List Nat := grps (valG l)
theorem trimG_canonG {l : List Nat} (h : IsGrp l) (d : Nat) (hd : d ≠ 0) (h2 : IsGrp (l ++ [d])) : trimG (l ++ [d]) = l ++ [d] := by
 have _ := h
 exact grps_valG h2 (by unfold CanonG; simpa using hd)
theorem getG_grp {l : List Nat} (h : IsGrp l) (i : Nat) : l.getD i 0 < 10000 := by
 rw [List.getD_eq_getElem?_getD]
 cases hx : l[i]? with
 | none => simp
 | some x => exact h x (List.mem_of_getElem? hx)
theorem takeG_snoc (l : List Nat) (k : Nat) (h : k < l.length) : l.take (k + 1) = l.take k ++ [l.getD k 0] := by
 rw [List.take_succ_eq_append_getElem h]; simp [List.getD_eq_getElem?_getD, h]
theorem valG_take (l : List Nat) (k : Nat) (h : k < l.length) : valG (l.take (k + 1)) = valG (l.take k) + 10000 ^ k * l.getD k 0 := by
 rw [takeG_snoc l k h, valG_append, List.length_take, Nat.min_eq_left (by omega)]; simp [valG]
theorem valG_take_all (l : List Nat) (k : Nat) (h : l.length ≤ k) : valG (l.take k) = valG l := by rw [List.take_of_length_le h]
theorem valG_take_getD (l : List Nat) (k : Nat) : valG (l.take (k + 1)) = valG (l.take k) + 10000 ^ k * l.getD k 0 := by
 rcases Nat.lt_or_ge k l.length with h | h
 · exact valG_take l k h
 rw [valG_take_all l _ (by omega), valG_take_all l k h]
 simp [List.getD_eq_getElem?_getD, h]
theorem valG_snoc (l : List Nat) (d : Nat) : valG (l ++ [d]) = valG l + 10000 ^ l.length * d := by rw [valG_append]; simp [valG]
/-! ### Trimming -/
theorem trimG_step_zero (l : List Nat) (k : Nat) (hk : k < l.length) (h : l.getD k 0 = 0) : trimG (l.take (k + 1)) = trimG (l.take k) := by
 unfold trimG; rw [valG_take l k hk, h]; simp
theorem trimG_step_stop {l : List Nat} (hl : IsGrp l) (k : Nat) (hk : k < l.length) (h : l.getD k 0 ≠ 0) : trimG (l.take (k + 1)) = l.take (k + 1) := by
 have := isGrp_take hl (k + 1)
 rw [takeG_snoc l k hk] at this ⊢
 exact trimG_canonG (isGrp_take hl k) _ h this
theorem trimG_take : ∀ (k : Nat) {l : List Nat}, l.length = k → IsGrp l → trimG l = l.take (trimG l).length
  | 0, l, hk, _ => by obtain rfl : l = [] := List.eq_nil_of_length_eq_zero hk
                      rfl
  | k + 1, l, hk, hl => by
    have e : l = l.take (k + 1) := (List.take_of_length_le (by omega)).symm
    by_cases h : l.getD k 0 = 0
    · have h1 := trimG_step_zero l k (by omega) h
      rw [← e] at h1
      have h2 := trimG_take k (l := l.take k) (by rw [List.length_take]; omega) (isGrp_take hl k)
      rw [h1]
      have hlen : (trimG (l.take k)).length ≤ k := by
        have := congrArg List.length h2
        rw [List.length_take, List.length_take] at this
        omega
      conv => lhs; rw [h2]
      rw [List.take_take, Nat.min_eq_left hlen]
    · have h1 := trimG_step_stop hl k (by omega) h
      rw [← e] at h1
      rw [h1, List.take_of_length_le (Nat.le_refl _)]
theorem lenG_lt {m n : Nat} (h : (grps m).length < (grps n).length) : m < n := by
 rcases Nat.lt_or_ge m n with h1 | h1
 · exact h1
 have h2 := lt_of_grps_length (Nat.le_refl (grps m).length)
 have := grps_length_le (grps m).length n (by omega)
 omega
theorem valG_split (l : List Nat) (i : Nat) (h : i < l.length) : valG l = valG (l.take i) + 10000 ^ i * (l.getD i 0 + 10000 * valG (l.drop (i + 1))) := by
 have e : l = l.take i ++ (l.getD i 0 :: l.drop (i + 1)) := by
  rw [List.getD_eq_getElem?_getD, List.getElem?_eq_getElem h]
  simp
 have hv := valG_append (l.take i) (l.getD i 0 :: l.drop (i + 1))
 rw [← e, List.length_take, Nat.min_eq_left (by omega)] at hv
 exact hv
theorem topG_lt {a b : List Nat} (ha : IsGrp a) (i : Nat) (h1 : i < a.length) (h2 : i < b.length) (hd : a.drop (i + 1) = b.drop (i + 1)) (h : a.getD i 0 < b.getD i 0) : valG a < valG b := by
 rw [valG_split a i h1, valG_split b i h2, hd]
 have h3 := valG_lt (isGrp_take ha i)
 rw [List.length_take, Nat.min_eq_left (by omega)] at h3
 have : 10000 ^ i * (b.getD i 0 + 10000 * valG (b.drop (i + 1))) ≥ 10000 ^ i * (a.getD i 0 + 10000 * valG (b.drop (i + 1))) + 10000 ^ i := by
  have : 10000 ^ i * (a.getD i 0 + 10000 * valG (b.drop (i + 1))) + 10000 ^ i = 10000 ^ i * (a.getD i 0 + 10000 * valG (b.drop (i + 1)) + 1) := by rw [Nat.mul_add _ _ 1, Nat.mul_one]
  rw [this]
  exact Nat.mul_le_mul_left _ (by omega)
 omega
theorem dropG_next {a b : List Nat} (i : Nat) (h1 : i < a.length) (h2 : i < b.length) (hd : a.drop (i + 1) = b.drop (i + 1)) (h : a.getD i 0 = b.getD i 0) : a.drop i = b.drop i := by
 rw [List.drop_eq_getElem_cons h1, List.drop_eq_getElem_cons h2, hd]
 simp [List.getD_eq_getElem?_getD, h1, h2] at h
 rw [h]
theorem canonG_ge {l : List Nat} (hl : IsGrp l) (h : CanonG l) (h0 : 0 < l.length) : 10000 ^ (l.length - 1) ≤ valG l := by
 have e := grps_valG hl h
 rcases Nat.lt_or_ge (valG l) (10000 ^ (l.length - 1)) with h1 | h1
 · have := grps_length_le _ _ h1
   rw [e] at this; omega
 exact h1
end Go.Proofs.YtcglcgphgahnpaaGreatDoor
namespace Go.Proofs.YtcglcgphgahnpaaGreatDoor
/-! ### Out of digits -/
def seg (D : List Nat) (a b : Nat) : Nat := valD ((D.drop a).take (b - a))
theorem seg_empty (D : List Nat) (a : Nat) : seg D a a = 0 := by unfold seg; simp [valD]
theorem seg_step (D : List Nat) (a b : Nat) (h : a < b) (hl : a < D.length) : seg D a b = D.getD a 0 + 10 * seg D (a + 1) b := by
 unfold seg
 rw [List.drop_eq_getElem_cons hl, show b - a = (b - (a + 1)) + 1 by omega, List.take_succ_cons]
 simp [valD, List.getD_eq_getElem?_getD, hl]
theorem seg_lt {D : List Nat} (h : IsDig D) (a b : Nat) : seg D a b < 10 ^ (b - a) := by
 unfold seg
 have h1 : IsDig ((D.drop a).take (b - a)) := fun d hd => h d (List.mem_of_mem_drop (List.mem_of_mem_take hd))
 exact Nat.lt_of_lt_of_le (valD_lt h1) (Nat.pow_le_pow_right (by decide) (by rw [List.length_take]; omega))
theorem pow4 (j : Nat) : 10 ^ (4 * j) = 10000 ^ j := by rw [Nat.pow_mul]
theorem seg_take (D : List Nat) (j b : Nat) (hb : b = 4 * j + 4 ∨ (D.length ≤ 4 * j + 4 ∧ D.length ≤ b)) (h : 4 * j ≤ D.length) : valD (D.take (4 * (j + 1))) = valD (D.take (4 * j)) + 10000 ^ j * seg D (4 * j) b := by
 have e : D.take (4 * (j + 1)) = D.take (4 * j) ++ (D.drop (4 * j)).take 4 := by rw [show 4 * (j + 1) = 4 * j + 4 by omega, List.take_add]
 rw [e, valD_append, List.length_take, Nat.min_eq_left h, pow4]
 unfold seg
 congr 3
 rcases hb with hb | ⟨h1, h2⟩
 · rw [show b - 4 * j = 4 by omega]
 rw [List.take_of_length_le (by rw [List.length_drop]; omega), List.take_of_length_le (by rw [List.length_drop]; omega)]
theorem digT_length (r : List Nat) : (digT r).length = r.length := by simp [digT]
theorem digT_get (r : List Nat) (i : Nat) (h : i < r.length) : (digT r).getD (r.length - 1 - i) 0 = r.getD i 0 - 48 := by
 unfold digT
 simp only [List.getD_eq_getElem?_getD]
 rw [List.getElem?_reverse (by simp; omega)]
 simp only [List.length_map]
 rw [show r.length - 1 - (r.length - 1 - i) = i by omega]
 simp [h]
def ParInv (D out : List Nat) (j : Nat) : Prop := out.length = j ∧ IsGrp out ∧ valG out = valD (D.take (4 * j))
theorem par_start (D : List Nat) : ParInv D [] 0 := ⟨rfl, (fun _ h => by cases h), by simp [valG, valD]⟩
theorem par_step {D out : List Nat} {j b : Nat} (hD : IsDig D) (h : ParInv D out j) (hb : b = 4 * j + 4 ∨ (D.length ≤ 4 * j + 4 ∧ D.length = b)) (hj : 4 * j ≤ D.length) : ParInv D (out ++ [seg D (4 * j) b]) (j + 1) := by
 obtain ⟨h1, h2, h3⟩ := h
 refine ⟨by simp [h1], isGrp_append h2 ?_, ?_⟩
 · intro d hd
   simp at hd
   subst hd
   refine Nat.lt_of_lt_of_le (seg_lt hD _ _) ?_
   have : b - 4 * j ≤ 4 := by omega
   exact Nat.pow_le_pow_right (n := 10) (by decide) this
 rw [valG_snoc, h1, h3, seg_take D j b (by omega) hj]
theorem par_end {D out : List Nat} {j : Nat} (h : ParInv D out j) (hj : D.length ≤ 4 * j) : trimG out = grps (valD D) := by
 unfold trimG
 rw [h.2.2, List.take_of_length_le hj]
/-! ### Into digits -/
def fourD (g : Nat) : List Nat := [48 + g / 1000 % 10, 48 + g / 100 % 10, 48 + g / 10 % 10, 48 + g / 1 % 10]
theorem digs_four {g q : Nat} (hg : g < 10000) (hq : q ≠ 0) : digs (g + 10000 * q) = g % 10 :: (g / 10 % 10) :: (g / 100 % 10) :: (g / 1000 % 10) :: digs q := by
 rw [digs_pos (by omega), digs_pos (by omega), digs_pos (by omega), digs_pos (by omega)]
 have e4 : (g + 10000 * q) / 10 / 10 / 10 / 10 = q := by omega
 have e3 : (g + 10000 * q) / 10 / 10 / 10 % 10 = g / 1000 % 10 := by omega
 have e2 : (g + 10000 * q) / 10 / 10 % 10 = g / 100 % 10 := by omega
 have e1 : (g + 10000 * q) / 10 % 10 = g / 10 % 10 := by omega
 have e0 : (g + 10000 * q) % 10 = g % 10 := by omega
 rw [e0, e1, e2, e3, e4]
theorem textN_four {g q : Nat} (hg : g < 10000) (hq : q ≠ 0) : textN (g + 10000 * q) = textN q ++ fourD g := by
 have h := digs_four hg hq
 have e : g / 1 % 10 = g % 10 := by omega
 unfold textN fourD
 rw [if_neg (by omega), if_neg hq, h, e]
 simp
theorem valG_drop_cons {l : List Nat} {k : Nat} (h : k < l.length) : valG (l.drop k) = l.getD k 0 + 10000 * valG (l.drop (k + 1)) := by
 rw [List.drop_eq_getElem_cons h]
 simp [valG, List.getD_eq_getElem?_getD, h]
theorem canonG_drop {l : List Nat} (h : CanonG l) (k : Nat) : CanonG (l.drop k) := by
 unfold CanonG at *
 rcases Nat.lt_or_ge k l.length with h1 | h1
 · rw [List.getLast?_drop]
   rw [if_neg (by omega)]
   exact h
 rw [List.drop_of_length_le h1]; simp
theorem isGrp_drop {l : List Nat} (h : IsGrp l) (k : Nat) : IsGrp (l.drop k) := fun d hd => h d (List.mem_of_mem_drop hd)
theorem grps_drop {l : List Nat} (h : IsGrp l) (hc : CanonG l) (k : Nat) : grps (valG (l.drop k)) = l.drop k := grps_valG (isGrp_drop h k) (canonG_drop hc k)
theorem text_step {l : List Nat} (h : IsGrp l) (hc : CanonG l) (k : Nat) (hk : k + 1 < l.length) : textN (valG (l.drop k)) = textN (valG (l.drop (k + 1))) ++ fourD (l.getD k 0) := by
 rw [valG_drop_cons (by omega)]
 refine textN_four (getG_grp h k) (valG_pos (canonG_drop hc _) ?_)
 intro e
 have := congrArg List.length e
 rw [List.length_drop] at this
 simp at this
 omega
theorem text_top {l : List Nat} (h0 : 0 < l.length) : textN (valG (l.drop (l.length - 1))) = textN (l.getD (l.length - 1) 0) := by
 rw [valG_drop_cons (by omega), List.drop_of_length_le (by omega)]
 simp [valG]
/-! ### A sum with a factor -/
def PlusG (a b : List Nat) (f : Int) (N : Nat) (out : List Nat) (c : Int) (k : Nat) : Prop :=
 out.length = N ∧ IsGrp out ∧ (∀ i, k ≤ i → out.getD i 0 = a.getD i 0) ∧ -10000 ≤ c ∧ c ≤ 10000 ∧ (valG (out.take k) : Int) + (10000 ^ k : Nat) * c = (valG (a.take k) : Int) + f * (valG (b.take k) : Int)
theorem plusG_start (a b : List Nat) (f : Int) (N : Nat) (ha : IsGrp a) (hN : a.length ≤ N) : PlusG a b f N (a ++ List.replicate (N - a.length) 0) 0 0 := by
 refine ⟨by simp; omega, ?_, ?_, by omega, by omega, by simp [valG]⟩
 · exact isGrp_append ha (fun d hd => by have := (List.mem_replicate.1 hd).2; omega)
 intro i _
 simp only [List.getD_eq_getElem?_getD]
 rcases Nat.lt_or_ge i a.length with h | h
 · rw [List.getElem?_append_left h]
 rw [List.getElem?_append_right h, List.getElem?_eq_none h]
 rcases Nat.lt_or_ge (i - a.length) (N - a.length) with h2 | h2
 · rw [List.getElem?_replicate]; simp [h2]
 rw [List.getElem?_eq_none (by simp; omega)]
theorem take_set_self (l : List Nat) (k v : Nat) (h : k < l.length) : (l.set k v).take (k + 1) = l.take k ++ [v] := by
 rw [List.take_succ_eq_append_getElem (by simpa using h)]
 simp [List.take_set_of_le]
theorem plusG_step {a b out : List Nat} {f c : Int} {N k : Nat} (hb : IsGrp b) (hf1 : -9999 ≤ f) (hf2 : f ≤ 9999) (h : PlusG a b f N out c k) (hk : k < N) (d : Nat) (c' : Int)
 (hd : (d : Int) = (c + (out.getD k 0 : Nat) + f * (b.getD k 0 : Nat)) % 10000) (hc' : c' = (c + (out.getD k 0 : Nat) + f * (b.getD k 0 : Nat)) / 10000) :
 PlusG a b f N (out.set k d) c' (k + 1) := by
 obtain ⟨h1, h2, h3, h4, h5, h6⟩ := h
 have hx := getG_grp h2 k
 have hy := getG_grp hb k
 have e3 := h3 k (Nat.le_refl _)
 have ea := valG_take_getD a k
 have eb := valG_take_getD b k
 have eo : valG ((out.set k d).take (k + 1)) = valG (out.take k) + 10000 ^ k * d := by
  rw [take_set_self _ _ _ (by omega), valG_snoc, List.length_take, Nat.min_eq_left (by omega)]
 rw [e3] at hd hc' hx
 generalize a.getD k 0 = x at *
 generalize b.getD k 0 = y at *
 have hfy : -99980001 ≤ f * (y : Int) ∧ f * (y : Int) ≤ 99980001 := by
  have hy2 : (y : Int) ≤ 9999 := by omega
  have hy0 : (0 : Int) ≤ y := by omega
  have a1 : f * (y : Int) ≤ 9999 * (y : Int) := Int.mul_le_mul_of_nonneg_right hf2 hy0
  have a2 : (-9999) * (y : Int) ≤ f * (y : Int) := Int.mul_le_mul_of_nonneg_right hf1 hy0
  omega
 have hsum : c + (x : Int) + f * (y : Int) = (d : Int) + 10000 * c' := by rw [hd, hc']; omega
 refine ⟨by simpa using h1, ?_, ?_, ?_, ?_, ?_⟩
 · intro z hz
   rcases List.mem_or_eq_of_mem_set hz with h | h
   · exact h2 z h
   subst h; omega
 · intro i hi
   rw [← h3 i (by omega)]
   simp only [List.getD_eq_getElem?_getD]
   rw [List.getElem?_set_ne (by omega)]
 · generalize f * (y : Int) = m at *; omega
 · generalize f * (y : Int) = m at *; omega
 rw [eo, ea, eb, Nat.pow_succ]
 generalize (10000 ^ k : Nat) = p at *
 simp only [Int.natCast_add, Int.natCast_mul]
 have e : (p : Int) * (d : Int) + (p : Int) * 10000 * c' = (p : Int) * c + (p : Int) * (x : Int) + f * ((p : Int) * (y : Int)) := by
  rw [show f * ((p : Int) * (y : Int)) = (p : Int) * (f * (y : Int)) by rw [← Int.mul_assoc, Int.mul_comm f, Int.mul_assoc], Int.mul_assoc, ← Int.mul_add, ← Int.mul_add, ← Int.mul_add, hsum]
 rw [Int.mul_add]
 have e5 : ((10000 : Nat) : Int) = 10000 := rfl
 rw [e5]
 omega
theorem plusG_end {a b out : List Nat} {f c : Int} {N m : Nat} (ha : a.length ≤ N) (hb : b.length ≤ N) (h : PlusG a b f N out c N) (hm : (valG a : Int) + f * (valG b : Int) = (m : Int)) (hlt : m < 10000 ^ N) : trimG out = grps m := by
 obtain ⟨h1, h2, _, _, _, h6⟩ := h
 rw [List.take_of_length_le (by omega), List.take_of_length_le ha, List.take_of_length_le hb, hm] at h6
 have h7 := valG_lt h2
 rw [h1] at h7
 have hc : c = 0 := by
  rcases Int.lt_trichotomy c 0 with hc | hc | hc
  · exfalso
    have : ((10000 ^ N : Nat) : Int) * c ≤ ((10000 ^ N : Nat) : Int) * (-1) := Int.mul_le_mul_of_nonneg_left (by omega) (by omega)
    omega
  · exact hc
  exfalso
  have : ((10000 ^ N : Nat) : Int) * 1 ≤ ((10000 ^ N : Nat) : Int) * c := Int.mul_le_mul_of_nonneg_left (by omega) (by omega)
  omega
 rw [hc, Int.mul_zero, Int.add_zero] at h6
 unfold trimG
 congr 1
 omega
theorem plusG_lt {a b : List Nat} (ha : IsGrp a) (hb : IsGrp b) {f : Int} (hf : f ≤ 9999) {m N : Nat} (hm : (valG a : Int) + f * (valG b : Int) = (m : Int)) (h1 : a.length + 1 ≤ N) (h2 : b.length + 1 ≤ N) : m < 10000 ^ N := by
 obtain ⟨M, rfl⟩ : ∃ M, N = M + 1 := ⟨N - 1, by omega⟩
 have e1 : valG a < 10000 ^ M := Nat.lt_of_lt_of_le (valG_lt ha) (Nat.pow_le_pow_right (by decide) (by omega))
 have e2 : valG b < 10000 ^ M := Nat.lt_of_lt_of_le (valG_lt hb) (Nat.pow_le_pow_right (by decide) (by omega))
 have e3 : f * (valG b : Int) ≤ 9999 * (valG b : Int) := Int.mul_le_mul_of_nonneg_right hf (by omega)
 rw [Nat.pow_succ]
 omega
/-! ### One group more -/
theorem followed_trim {l : List Nat} (g : Nat) : trimG (g :: l) = grps (g + 10000 * valG l) := rfl
/-! ### The upper groups -/
theorem valG_drop {l : List Nat} (h : IsGrp l) (k : Nat) : valG (l.drop k) = valG l / 10000 ^ k := by
 rcases Nat.lt_or_ge l.length k with h1 | h1
 · rw [List.drop_of_length_le (by omega)]
   rw [Nat.div_eq_of_lt (Nat.lt_of_lt_of_le (valG_lt h) (Nat.pow_le_pow_right (by decide) (by omega)))]
   rfl
 have e := valG_append (l.take k) (l.drop k)
 rw [List.take_append_drop, List.length_take, Nat.min_eq_left h1] at e
 have h2 := valG_lt (isGrp_take h k)
 rw [List.length_take, Nat.min_eq_left h1] at h2
 rw [e, Nat.add_mul_div_left _ _ (Nat.pow_pos (by decide)), Nat.div_eq_of_lt h2, Nat.zero_add]
theorem grps_shift (n k : Nat) : (grps n).drop k = grps (n / 10000 ^ k) := by
 have h1 := valG_drop (grps_lt n) k
 rw [valG_grps] at h1
 rw [← h1]
 exact (grps_drop (grps_lt n) (grps_canonG n) k).symm
/-! ### A quotient that is less than 10000 -/
theorem quot_low {n d p top under s : Nat} (hn : top = n / p) (hd : under = d / p) (hd0 : 0 < d) (hp : 0 < p) (hs : s = 1 ∨ (s = 0 ∧ p = 1)) : top / (under + s) ≤ n / d := by
 rcases hs with rfl | ⟨rfl, rfl⟩
 · rw [Nat.le_div_iff_mul_le hd0]
   have h1 : d ≤ (under + 1) * p := by
    rw [hd]
    exact Nat.le_of_lt (by have := Nat.lt_mul_div_succ d hp; rw [Nat.mul_comm]; exact this)
   calc top / (under + 1) * d ≤ top / (under + 1) * ((under + 1) * p) := Nat.mul_le_mul_left _ h1
    _ = top / (under + 1) * (under + 1) * p := (Nat.mul_assoc _ _ _).symm
    _ ≤ top * p := Nat.mul_le_mul_right _ (Nat.div_mul_le_self _ _)
    _ ≤ n := by rw [hn]; exact Nat.div_mul_le_self _ _
 simp at hn hd
 rw [hn, hd, Nat.add_zero]
 exact Nat.le_refl _
theorem quot_high {n d p top under : Nat} (hn : top = n / p) (hd : under = d / p) (hp : 0 < p) (hu : 0 < under) : n / d ≤ top / under := by
 rw [Nat.le_div_iff_mul_le hu, hn, Nat.le_div_iff_mul_le hp]
 calc n / d * under * p = n / d * (under * p) := Nat.mul_assoc _ _ _
  _ ≤ n / d * d := Nat.mul_le_mul_left _ (by rw [hd]; exact Nat.div_mul_le_self _ _)
  _ ≤ n := Nat.div_mul_le_self _ _
/-! ### Dividing group by group -/
def DivGInv (n d count : Nat) (l Q : List Nat) (rest k : Nat) : Prop := Q.length = count ∧ IsGrp Q ∧ rest < d ∧ rest + d * valG (Q.drop k) = valG (l.drop k) ∧ valG l = n
theorem divG_start {n d : Nat} {l : List Nat} (hl : grps n = l) (hd : 0 < d) (count : Nat) (hc : count = l.length + 1 - (grps d).length) : DivGInv n d count l (List.replicate count 0) (valG (l.drop count)) count := by
 refine ⟨by simp, fun x hx => by have := (List.mem_replicate.1 hx).2; omega, ?_, ?_, by rw [← hl, valG_grps]⟩
 · have hg : IsGrp l := by rw [← hl]; exact grps_lt n
   have h1 := valG_lt (isGrp_drop hg count)
   rw [List.length_drop] at h1
   have hne : grps d ≠ [] := by rw [grps_pos (by omega)]; simp
   have h0 : 0 < (grps d).length := List.length_pos_iff.2 hne
   have h2 := canonG_ge (grps_lt d) (grps_canonG d) h0
   rw [valG_grps] at h2
   exact Nat.lt_of_lt_of_le h1 (Nat.le_trans (Nat.pow_le_pow_right (by decide) (by omega)) h2)
 rw [List.drop_of_length_le (l := List.replicate count 0) (by simp)]; simp [valG]
theorem div_stepG {n d count : Nat} {l Q : List Nat} {rest k : Nat} (hl : IsGrp l) (h : DivGInv n d count l Q rest (k + 1)) (hk : k < count) (hkl : k < l.length) :
 DivGInv n d count l (Q.set k ((l.getD k 0 + 10000 * rest) / d)) ((l.getD k 0 + 10000 * rest) % d) k ∧ (l.getD k 0 + 10000 * rest) / d < 10000 := by
 obtain ⟨h1, h2, h3, h4, h5⟩ := h
 have hg := getG_grp hl k
 have hv := valG_drop_cons hkl
 generalize l.getD k 0 = g at *
 have hd0 : 0 < d := by omega
 have hq : (g + 10000 * rest) / d < 10000 := by
  rw [Nat.div_lt_iff_lt_mul hd0]
  omega
 refine ⟨⟨by simpa using h1, ?_, Nat.mod_lt _ hd0, ?_, h5⟩, hq⟩
 · intro z hz
   rcases List.mem_or_eq_of_mem_set hz with h | h
   · exact h2 z h
   subst h; exact hq
 have e : (Q.set k ((g + 10000 * rest) / d)).drop k = ((g + 10000 * rest) / d) :: Q.drop (k + 1) := by
  rw [List.drop_eq_getElem_cons (by simp; omega)]
  simp [List.drop_set_of_lt]
 rw [e, hv, ← h4]
 simp only [valG]
 rw [Nat.mul_add, ← Nat.add_assoc, Nat.mod_add_div, Nat.mul_left_comm]
 omega
theorem divG_end {n d count : Nat} {l Q : List Nat} {rest : Nat} (h : DivGInv n d count l Q rest 0) : trimG Q = grps (n / d) ∧ rest = n % d := by
 obtain ⟨_, _, h3, h4, h5⟩ := h
 rw [List.drop_zero, List.drop_zero, h5] at h4
 have e1 : n / d = valG Q := by
  rw [← h4, Nat.add_mul_div_left _ _ (by omega), Nat.div_eq_of_lt h3, Nat.zero_add]
 have e2 : n % d = rest := by rw [← h4, Nat.add_mul_mod_self_left, Nat.mod_eq_of_lt h3]
 exact ⟨by unfold trimG; rw [e1], e2.symm⟩
/-! ### Roots, group by group -/
end Go.Proofs.YtcglcgphgahnpaaGreatDoor
