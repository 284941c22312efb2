/-
  DigestTreeMatchesReference returns true for all arguments: the walk.
-/
import Derived.Test.YtoaaelnmbpmbeaaDoorRefProof
namespace Go.Proofs.YtoaaelnmbpmbeaaDoor
open Go Go.Proofs Go.RowKit Go.Lib

/-- A list and an error number. -/
def PairPost (w : World) (p : List ByteArray) (z : Int) (n : Nat) (e : Ending) (w' : World) : Prop := ∃ ad cap, e = .returned (.tuple #[.slice ad n cap, .int .i64 z]) ∧ Holds w' ad cap p ∧ Below w.heap.size w w'
theorem pair_of {f : FuncId} {args : Array Value} {w : World} {p : List ByteArray} (n : Nat) (hn : p.length = n) (hl : n ≤ 1000000) (c : Calls Tryd.prog f args w (ErrPost w p)) : Calls Tryd.prog f args w (PairPost w p 0 n) := by
  refine c.mono ?_
  rintro e w' ⟨v, rfl, ho, hb⟩
  obtain ⟨ad, cap, rfl, hh⟩ := own_holds n ho hn hl
  exact ⟨ad, cap, rfl, hh, hb⟩
theorem pair_bad {f : FuncId} {args : Array Value} {w : World} (c : Calls Tryd.prog f args w fun e w' => e = .returned (.tuple #[.slice none 0 0, .int .i64 2]) ∧ w = w') : Calls Tryd.prog f args w (PairPost w [] 2 0) := by
  refine c.mono ?_
  rintro e w' ⟨rfl, rfl⟩
  exact ⟨none, 0, rfl, Holds.nil _ _, Below.refl _ _⟩

def prfP (l : List ByteArray) (i : Int) : List ByteArray := if 0 ≤ i ∧ i < l.length then proofF l i.toNat else []
def prfZ (l : List ByteArray) (i : Int) : Int := if 0 ≤ i ∧ i < l.length then 0 else 2
def extQ (l : List ByteArray) (i : Int) : List ByteArray := if 0 ≤ i ∧ i ≤ l.length then (if i = 0 then [] else partF l i.toNat true) else []
def extZ (l : List ByteArray) (i : Int) : Int := if 0 ≤ i ∧ i ≤ l.length then 0 else 2
theorem prfP_length (l : List ByteArray) (i : Int) (h : l.length ≤ 64) : (prfP l i).length ≤ 100 := by
  unfold prfP; split
  · have := proofF_length 6 l i.toNat (by omega); omega
  · simp
theorem extQ_length (l : List ByteArray) (i : Int) (h : l.length ≤ 64) : (extQ l i).length ≤ 100 := by
  unfold extQ; split
  · split
    · simp
    · have := partF_length 6 l i.toNat true (by omega); omega
  · simp

theorem proof_pair (l : List ByteArray) (i : Int) (hi : i ≤ 9223372036854775807) (ad : Option Addr) (cap : Nat) (w : World) (h6 : l.length ≤ 64) (hH : Holds w ad cap l) (hM : Small l) (hR : Ready w) (n : Nat) (hn : (prfP l i).length = n) :
    Calls Tryd.prog 22 #[.slice ad l.length cap, .int .i64 i] w (PairPost w (prfP l i) (prfZ l i) n) := by
  have hl := prfP_length l i h6
  unfold prfP prfZ at *
  by_cases h : 0 ≤ i ∧ i < l.length
  · rw [if_pos h] at hn hl ⊢
    rw [if_pos h]
    obtain ⟨j, rfl⟩ := Int.eq_ofNat_of_zero_le h.1
    exact pair_of n hn (by omega) (proof_ok l j ad cap w (by omega) (by omega) hH hM hR)
  · rw [if_neg h] at hn ⊢
    rw [if_neg h]
    obtain rfl : 0 = n := hn
    exact pair_bad (proof_bad ad l.length cap i (by omega) w)
theorem ext_pair (l : List ByteArray) (i : Int) (hi : i ≤ 9223372036854775807) (ad : Option Addr) (cap : Nat) (w : World) (h6 : l.length ≤ 64) (hH : Holds w ad cap l) (hM : Small l) (hR : Ready w) (n : Nat) (hn : (extQ l i).length = n) :
    Calls Tryd.prog 24 #[.slice ad l.length cap, .int .i64 i] w (PairPost w (extQ l i) (extZ l i) n) := by
  have hl := extQ_length l i h6
  unfold extQ extZ at *
  by_cases h : 0 ≤ i ∧ i ≤ l.length
  · rw [if_pos h] at hn hl ⊢
    rw [if_pos h]
    by_cases h0 : i = 0
    · subst h0
      rw [if_pos rfl] at hn ⊢
      exact pair_of n hn (by simp at hn; omega) (ext_zero ad l.length cap w)
    · rw [if_neg h0] at hn hl ⊢
      obtain ⟨j, rfl⟩ := Int.eq_ofNat_of_zero_le h.1
      exact pair_of n hn (by omega) (ext_ok l j ad cap w (by omega) (by omega) (by omega) hH hM hR)
  · rw [if_neg h] at hn ⊢
    rw [if_neg h]
    obtain rfl : 0 = n := hn
    exact pair_bad (ext_bad ad l.length cap i (by omega) w)
theorem proofR_pair (l : List ByteArray) (i : Int) (hi : i ≤ 9223372036854775807) (ad : Option Addr) (cap : Nat) (w : World) (h6 : l.length ≤ 64) (hH : Holds w ad cap l) (hM : Sm l) (n : Nat) (hn : (prfP l i).length = n) :
    Calls Tryd.prog 23 #[.slice ad l.length cap, .int .i64 i] w (PairPost w (prfP l i) (prfZ l i) n) := by
  have hl := prfP_length l i h6
  unfold prfP prfZ at *
  by_cases h : 0 ≤ i ∧ i < l.length
  · rw [if_pos h] at hn hl ⊢
    rw [if_pos h]
    obtain ⟨j, rfl⟩ := Int.eq_ofNat_of_zero_le h.1
    obtain ⟨b, o, rfl, hlt, hS⟩ := hH.at (by omega)
    exact pair_of n hn (by omega) (proofR_ok l.length l j b o cap w (Nat.le_refl _) (by omega) (by omega) hH.1 hH.2.1 hlt hS hM)
  · rw [if_neg h] at hn ⊢
    rw [if_neg h]
    obtain rfl : 0 = n := hn
    exact pair_bad (proofR_bad ad l.length cap i (by omega) w)
theorem extR_pair (l : List ByteArray) (i : Int) (hi : i ≤ 9223372036854775807) (ad : Option Addr) (cap : Nat) (w : World) (h6 : l.length ≤ 64) (hH : Holds w ad cap l) (hM : Sm l) (n : Nat) (hn : (extQ l i).length = n) :
    Calls Tryd.prog 25 #[.slice ad l.length cap, .int .i64 i] w (PairPost w (extQ l i) (extZ l i) n) := by
  have hl := extQ_length l i h6
  unfold extQ extZ at *
  by_cases h : 0 ≤ i ∧ i ≤ l.length
  · rw [if_pos h] at hn hl ⊢
    rw [if_pos h]
    by_cases h0 : i = 0
    · subst h0
      rw [if_pos rfl] at hn ⊢
      exact pair_of n hn (by simp at hn; omega) (extR_zero ad l.length cap w)
    · rw [if_neg h0] at hn hl ⊢
      obtain ⟨j, rfl⟩ := Int.eq_ofNat_of_zero_le h.1
      exact pair_of n hn (by omega) (extR_ok l j ad cap w (by omega) (by omega) (by omega) hH hM)
  · rw [if_neg h] at hn ⊢
    rw [if_neg h]
    obtain rfl : 0 = n := hn
    exact pair_bad (extR_bad ad l.length cap i (by omega) w)
theorem rootR_holds {W : World} {ad : Option Addr} {cap : Nat} {l : List ByteArray} (h : Holds W ad cap l) (hM : Sm l) :
    Calls Tryd.prog 28 #[.slice ad l.length cap] W fun e w' => e = .returned (.string (rootF l)) ∧ Below W.heap.size W w' := by
  by_cases h0 : l = []
  · subst h0; exact rootR_nil ad cap W
  · obtain ⟨b, o, rfl, hlt, hs⟩ := h.at (by cases l; exact absurd rfl h0; simp)
    exact rootR_any l b o cap W h.1 h.2.1 hlt hs hM

theorem same_self (p : List ByteArray) (a1 a2 : Option Addr) (n k1 k2 : Nat) (W : World) (h1 : Holds W a1 k1 p) (h2 : Holds W a2 k2 p) (hp : p.length = n) :
    Calls Tryd.prog 26 #[.slice a1 n k1, .slice a2 n k2] W fun e w' => e = .returned (.bool true) ∧ Below W.heap.size W w' := by
  have c := same_any p p a1 a2 n n k1 k2 W h1 h2 hp hp
  rw [decide_eq_true (rfl : p = p)] at c
  exact c

set_option maxRecDepth 100000 in
set_option maxHeartbeats 4000000 in
theorem tree_walk (ad0 : Option Addr) (n0 c0 : Nat) (t : Nat → ByteArray) (i m : Int) (hn : n0 ≤ maxLen) (w : World) (hI : StrsIn w ad0 n0 t) (hi1 : i ≤ 9223372036854775807) (hm1 : m ≤ 9223372036854775807) (hR : Ready w) :
    Calls Tryd.prog 4 #[.slice ad0 n0 c0, .int .i64 i, .int .i64 m] w fun e w' => e = .returned (.bool true) ∧ Below w.heap.size w w' := by
  have HR := Lib.hid hR
  clear hR
  obtain ⟨M, hM⟩ : ∃ M, min n0 40 = M := ⟨_, rfl⟩
  have hM40 : M ≤ 40 := by omega
  obtain ⟨l, hl⟩ : ∃ l, fewL t M = l := ⟨_, rfl⟩
  have hll : l.length = M := by rw [← hl]; exact fewL_length t M
  have hsm : Small l := by rw [← hl]; exact small60
  have hsm6 : Sm l := by rw [← hl]; exact fun s hs => by have := fewL_small t M s hs; omega
  have c1 := fun W hb => few_call ad0 n0 c0 t 40 M l hn (by decide) hM hl w W hI hb
  have cp := fun ad cap W (h : Keeps w W ad cap l) => proof_pair l i hi1 ad cap W (by omega) h.hh hsm h.hr _ rfl
  have cq := fun ad cap W (h : Keeps w W ad cap l) => proofR_pair l i hi1 ad cap W (by omega) h.hh hsm6 _ rfl
  have cx := fun ad cap W (h : Keeps w W ad cap l) => ext_pair l m hm1 ad cap W (by omega) h.hh hsm h.hr _ rfl
  have cy := fun ad cap W (h : Keeps w W ad cap l) => extR_pair l m hm1 ad cap W (by omega) h.hh hsm6 _ rfl
  have cr := fun ad cap W (h : Keeps w W ad cap l) => root_holds h.hh hsm h.hr
  have cs := fun ad cap W (h : Keeps w W ad cap l) => rootR_holds h.hh hsm6
  have cm := fun (p : List ByteArray) n (hp : p.length = n) a1 k1 a2 k2 W (h1 : Holds W a1 k1 p) (h2 : Holds W a2 k2 p) => same_self p a1 a2 n k1 k2 W h1 h2 hp
  rw [hll] at cp cq cx cy cr cs
  obtain ⟨P, eP⟩ : ∃ P, prfP l i = P := ⟨_, rfl⟩
  obtain ⟨X, eX⟩ : ∃ P, extQ l m = P := ⟨_, rfl⟩
  obtain ⟨zp, ezp⟩ : ∃ P, prfZ l i = P := ⟨_, rfl⟩
  obtain ⟨zx, ezx⟩ : ∃ P, extZ l m = P := ⟨_, rfl⟩
  obtain ⟨R, eR⟩ : ∃ P, rootF l = P := ⟨_, rfl⟩
  rw [eP, ezp] at cp cq
  rw [eX, ezx] at cx cy
  rw [eR] at cr cs
  obtain ⟨np, enp⟩ : ∃ n, P.length = n := ⟨_, rfl⟩
  obtain ⟨nx, enx⟩ : ∃ n, X.length = n := ⟨_, rfl⟩
  rw [enp] at cp cq
  rw [enx] at cx cy
  have C1 := Lib.hid c1; have CP := Lib.hid cp; have CQ := Lib.hid cq; have CX := Lib.hid cx; have CY := Lib.hid cy; have CR := Lib.hid cr; have CS := Lib.hid cs; have CMP := Lib.hid (cm P np enp); have CMX := Lib.hid (cm X nx enx)
  clear c1 cp cq cx cy cr cs cm eP eX ezp ezx eR enp enx hM hl hll hsm hsm6 hI hn
  go_enter Tryd.func4, Tryd.ntmps4
  go_wp2_with fail
  refine (sane_any _ HR.out).mono ?_
  rintro e w1 ⟨rfl, b1⟩
  have B1 := Lib.hid b1
  clear b1
  go_wp2_with fail
  refine (C1.out _ B1.out).mono ?_
  rintro e w2 ⟨ad, cap, rfl, hh, b2⟩
  have K2 := Lib.hid (Keeps.mk (w := w) (W := w2) (B1.out.trans (b2.mono B1.out.size)) hh ((HR.out.below B1.out).below b2))
  clear hh b2 B1 C1
  go_wp2_with fail
  refine (CP.out _ _ _ K2.out).mono ?_
  rintro e w3 ⟨ap, kp, rfl, hp, b3⟩
  have K3 := Lib.hid (K2.out.go b3); have P3 := Lib.hid hp
  clear b3 K2 hp CP
  go_wp2_with fail
  refine (CQ.out _ _ _ K3.out).mono ?_
  rintro e w4 ⟨aq, kq, rfl, hq, b4⟩
  have K4 := Lib.hid (K3.out.go b4); have P4 := Lib.hid (P3.out.below b4 (Nat.le_refl _)); have Q4 := Lib.hid hq
  clear b4 K3 hq CQ P3
  go_wp2_with fail
  refine (CX.out _ _ _ K4.out).mono ?_
  rintro e w5 ⟨ax, kx, rfl, hx, b5⟩
  have K5 := Lib.hid (K4.out.go b5); have P5 := Lib.hid (P4.out.below b5 (Nat.le_refl _)); have Q5 := Lib.hid (Q4.out.below b5 (Nat.le_refl _)); have X5 := Lib.hid hx
  clear b5 K4 hx CX P4 Q4
  go_wp2_with fail
  refine (CY.out _ _ _ K5.out).mono ?_
  rintro e w6 ⟨ay, ky, rfl, hy, b6⟩
  have K6 := Lib.hid (K5.out.go b6); have P6 := Lib.hid (P5.out.below b6 (Nat.le_refl _)); have Q6 := Lib.hid (Q5.out.below b6 (Nat.le_refl _)); have X6 := Lib.hid (X5.out.below b6 (Nat.le_refl _)); have Y6 := Lib.hid hy
  clear b6 K5 hy CY P5 Q5 X5
  go_wp2_with fail
  refine (CMP.out _ _ _ _ _ P6.out Q6.out).mono ?_
  rintro e w7 ⟨rfl, b7⟩
  have K7 := Lib.hid (K6.out.go b7); have X7 := Lib.hid (X6.out.below b7 (Nat.le_refl _)); have Y7 := Lib.hid (Y6.out.below b7 (Nat.le_refl _))
  clear b7 K6 X6 Y6 CMP
  go_wp2_with fail
  refine (CMX.out _ _ _ _ _ X7.out Y7.out).mono ?_
  rintro e w8 ⟨rfl, b8⟩
  have K8 := Lib.hid (K7.out.go b8)
  clear b8 K7 CMX
  go_wp2_with fail
  refine (CR.out _ _ _ K8.out).mono ?_
  rintro e w9 ⟨rfl, b9⟩
  have K9 := Lib.hid (K8.out.go b9)
  clear b9 K8 CR
  go_wp2_with fail
  refine (CS.out _ _ _ K9.out).mono ?_
  rintro e w10 ⟨rfl, b10⟩
  have K10 := Lib.hid (K9.out.go b10)
  clear b10 K9 CS
  go_wp2
  go_ret
  exact ⟨rfl, K10.out.hb⟩

theorem tree_walk0 (a0 : Option Addr) (n0 c0 : Nat) (i m : Int) (w : World) (h : n0 ≤ maxLen ∧ ∃ t, StrsIn w a0 n0 t) (_ : -9223372036854775808 ≤ i) (hi : i ≤ 9223372036854775807) (_ : -9223372036854775808 ≤ m) (hm : m ≤ 9223372036854775807) (hT : HasK w) (h0 : 0 < w.heap.size) :
    Calls Tryd.prog 4 #[.slice a0 n0 c0, .int .i64 i, .int .i64 m] w fun e w' => e = .returned (.bool true) ∧ Below w.heap.size w w' := by
  obtain ⟨l1, t, hI⟩ := h
  exact tree_walk a0 n0 c0 t i m l1 w hI hi hm ⟨hT, h0⟩
end Go.Proofs.YtoaaelnmbpmbeaaDoor
