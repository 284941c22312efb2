/-
  Plain mathematics of layer 4: comparing fractions by whole parts and remainders; what Print and Parse answer. The contracts of the reference's trim and order.   The contract of the reference's plus.   The contract of the reference's minus.   The contract of the reference's checked.   The contract of the reference's digits.   The contract of the reference's Valid.   The contract of the reference's sum.   The contracts of the reference's Add, Sub and Compare. Plain mathematics of layer 3: multiplying digit by digit.   The contract of the reference's times.   Plain mathematics of layer 3: dividing digit by digit.   The contract of the reference's divided.   The contracts of the reference's Mul and Gcd. The contracts of the reference's sums, differences, products and quotients of fractions. The contracts of the reference's products and quotients of fractions, and of Of. Plain mathematics: the steps by which the program builds a fraction, and what they make of two texts. The contract of the reference's Compare of fractions; what one round of comparing does, in plain mathematics.
-/
import Derived.Test.YtcglcgphgahnpaaGreatDoorJ12
set_option maxRecDepth 100000
set_option maxHeartbeats 16000000
namespace Go.Proofs.YtcglcgphgahnpaaGreatDoor
theorem sgZ_swap (x y : Int) : sgZ x y = - sgZ y x := by unfold sgZ; split <;> (try split) <;> (try split) <;> omega
theorem rest_flip (r s d c : Int) : sgZ (r * c) (s * d) = - sgZ (d * s) (c * r) := by
 rw [sgZ_swap, Int.mul_comm s d, Int.mul_comm r c]
end Go.Proofs.YtcglcgphgahnpaaGreatDoor
namespace Go.Proofs.YtcglcgphgahnpaaGreatDoor
open Go Go.Proofs Go.RowKit Go.Lib
end Go.Proofs.YtcglcgphgahnpaaGreatDoor
namespace Go.Proofs.YtcglcgphgahnpaaGreatDoor
open Go Go.Proofs Go.RowKit Go.Lib
end Go.Proofs.YtcglcgphgahnpaaGreatDoor
namespace Go.Proofs.YtcglcgphgahnpaaGreatDoor
open Go Go.Proofs Go.RowKit Go.Lib
end Go.Proofs.YtcglcgphgahnpaaGreatDoor
namespace Go.Proofs.YtcglcgphgahnpaaGreatDoor
open Go Go.Proofs Go.RowKit Go.Lib
end Go.Proofs.YtcglcgphgahnpaaGreatDoor
namespace Go.Proofs.YtcglcgphgahnpaaGreatDoor
open Go Go.Proofs Go.RowKit Go.Lib
end Go.Proofs.YtcglcgphgahnpaaGreatDoor
namespace Go.Proofs.YtcglcgphgahnpaaGreatDoor
open Go Go.Proofs Go.RowKit Go.Lib
end Go.Proofs.YtcglcgphgahnpaaGreatDoor
namespace Go.Proofs.YtcglcgphgahnpaaGreatDoor
open Go Go.Proofs Go.RowKit Go.Lib
end Go.Proofs.YtcglcgphgahnpaaGreatDoor
namespace Go.Proofs.YtcglcgphgahnpaaGreatDoor
open Go Go.Proofs Go.RowKit Go.Lib
theorem addR_any (s t : ByteArray) (hs : s.size ≤ 1099511627776) (ht : t.size ≤ 1099511627776) (w : World) :
 Calls Tryz.prog 92 #[.string s, .string t] w fun e w' => e = .returned (.tuple #[.string (opT (· + ·) s t), .int .i64 (opZ (· + ·) s t)]) ∧ Below w.heap.size w w' := by
 have va := fun W => valid_any s hs W
 have vb := fun W => valid_any t ht W
 unfold opT opZ
 by_cases h1 : validB s = true
 · by_cases h2 : validB t = true
   · rw [h1] at va
     rw [h2] at vb
     obtain ⟨f1, g1⟩ := text_valid h1
     obtain ⟨f2, g2⟩ := text_valid h2
     rw [h1, h2, Bool.true_and, if_pos rfl, if_pos rfl]
     obtain ⟨x, hx⟩ : ∃ x, numB s = x := ⟨_, rfl⟩
     obtain ⟨y, hy⟩ : ∃ x, numB t = x := ⟨_, rfl⟩
     rw [hx] at f1 g1 ⊢
     rw [hy] at f2 g2 ⊢
     have d1 := fun W => digits_any x (fits_size f1) W
     have d2 := fun W => digits_any y (fits_size f2) W
     rw [← g1] at d1
     rw [← g2] at d2
     have l1 := fits_length f1
     have l2 := fits_length f2
     obtain ⟨b, hb⟩ : ∃ b, decide (x < 0) = b := ⟨_, rfl⟩
     obtain ⟨c, hc⟩ : ∃ b, decide (y < 0) = b := ⟨_, rfl⟩
     have i1 := intD_self x
     have i2 := intD_self y
     rw [hb] at d1 i1
     rw [hc] at d2 i2
     have cs := fun W a1 k1 a2 k2 (q1 : HoldI W a1 k1 (digs x.natAbs)) (q2 : HoldI W a2 k2 (digs y.natAbs)) => sum_any b c x.natAbs y.natAbs a1 a2 k1 k2 _ _ W q1 q2 rfl rfl (by omega) (by omega)
     rw [i1, i2] at cs
     have hL : (· + ·) x y = x + y := rfl
     rw [hL]
     obtain ⟨m, hm⟩ : ∃ m, (digs x.natAbs).length = m := ⟨_, rfl⟩
     obtain ⟨n, hn⟩ : ∃ m, (digs y.natAbs).length = m := ⟨_, rfl⟩
     rw [hm] at d1 cs
     rw [hn] at d2 cs
     have VA := hid va; have VB := hid vb; have D1 := hid d1; have D2 := hid d2; have CS := hid cs
     clear va vb d1 d2 cs i1 i2 hb hc hL hm hn h1 h2 g1 g2 hx hy f1 f2 l1 l2
     go_enter Tryz.func92, Tryz.ntmps92
     go_wp2_with fail
     refine (VA.out _).mono ?_
     rintro e w1 ⟨rfl, rfl⟩
     go_wp2_with fail
     refine (VB.out _).mono ?_
     rintro e w2 ⟨rfl, rfl⟩
     go_wp2_with fail
     refine (D1.out _).mono ?_
     rintro e w3 ⟨a1, k1, rfl, q1, b3⟩
     go_wp2_with fail
     refine (D2.out _).mono ?_
     rintro e w4 ⟨a2, k2, rfl, q2, b4⟩
     have B4 := hid (b3.trans (b4.mono b3.size))
     have C := hid (CS.out w4 a1 k1 a2 k2 (q1.below b4 (Nat.le_refl _)) q2)
     clear q1 q2 b3 b4 CS
     go_wp2_with fail
     refine C.out.mono ?_
     rintro e w5 ⟨rfl, b5⟩
     go_wp2
     go_ret2
     exact ⟨rfl, B4.out.trans (b5.mono B4.out.size)⟩
   have h2' : validB t = false := by simpa using h2
   rw [h1] at va
   rw [h2'] at vb
   rw [h1, h2', Bool.and_false, if_neg (by simp), if_neg (by simp)]
   have VA := hid va; have VB := hid vb
   clear va vb h1 h2 h2'
   go_enter Tryz.func92, Tryz.ntmps92
   go_wp2_with fail
   refine (VA.out _).mono ?_
   rintro e w1 ⟨rfl, rfl⟩
   go_wp2_with fail
   refine (VB.out _).mono ?_
   rintro e w2 ⟨rfl, rfl⟩
   go_wp2
   go_ret2
   exact ⟨rfl, Below.refl _ _⟩
 have h1' : validB s = false := by simpa using h1
 rw [h1'] at va
 rw [h1', Bool.false_and, if_neg (by simp), if_neg (by simp)]
 have VA := hid va
 clear va vb h1 h1'
 go_enter Tryz.func92, Tryz.ntmps92
 go_wp2_with fail
 refine (VA.out _).mono ?_
 rintro e w1 ⟨rfl, rfl⟩
 go_wp2
 go_ret2
 exact ⟨rfl, Below.refl _ _⟩
end Go.Proofs.YtcglcgphgahnpaaGreatDoor
namespace Go.Proofs.YtcglcgphgahnpaaGreatDoor
theorem valD_set : ∀ (l : List Nat) (p d : Nat), p < l.length → valD (l.set p d) + 10 ^ p * l.getD p 0 = valD l + 10 ^ p * d
 | [], p, d, h => by simp at h
 | x :: l, 0, d, _ => by simp [valD]; omega
 | x :: l, p + 1, d, h => by
  have ih := valD_set l p d (by simpa using h)
  rw [List.set_cons_succ, List.getD_cons_succ, Nat.pow_succ]
  simp only [valD]
  have e1 : 10 ^ p * 10 * l.getD p 0 = 10 * (10 ^ p * l.getD p 0) := by rw [Nat.mul_comm (10 ^ p) 10, Nat.mul_assoc]
  have e2 : 10 ^ p * 10 * d = 10 * (10 ^ p * d) := by rw [Nat.mul_comm (10 ^ p) 10, Nat.mul_assoc]
  rw [e1, e2]; omega
theorem valD_replicate : ∀ n, valD (List.replicate n 0) = 0
 | 0 => rfl
 | n + 1 => by rw [List.replicate_succ]; simp only [valD]; rw [valD_replicate n]
def MulInv (a b out : List Nat) (c i k : Nat) : Prop := out.length = a.length + b.length ∧ IsDig out ∧ c ≤ 9 ∧ valD out + 10 ^ (i + k) * c = valD (a.take i) * valD b + 10 ^ i * a.getD i 0 * valD (b.take k)
def MulOut (a b out : List Nat) (i : Nat) : Prop := out.length = a.length + b.length ∧ IsDig out ∧ valD out = valD (a.take i) * valD b
theorem mul_start (a b : List Nat) : MulOut a b (List.replicate (a.length + b.length) 0) 0 := by
 refine ⟨by simp, ?_, by rw [valD_replicate]; simp [valD]⟩
 intro d hd
 rw [List.mem_replicate] at hd
 omega
theorem mul_in {a b out : List Nat} {i : Nat} (h : MulOut a b out i) : MulInv a b out 0 i 0 := ⟨h.1, h.2.1, by omega, by rw [h.2.2]; simp [valD]⟩
theorem mul_out {a b out : List Nat} {i k : Nat} (h : MulInv a b out 0 i k) (hk : b.length ≤ k) : MulOut a b out (i + 1) := by
 refine ⟨h.1, h.2.1, ?_⟩
 have := h.2.2.2
 rw [valD_take_all b k hk] at this
 rw [valD_take_getD, Nat.add_mul]
 omega
theorem mul_place {a b out : List Nat} {c i k : Nat} (ha : IsDig a) (hb : IsDig b) (h : MulInv a b out c i k) (hi : i < a.length) (hk : k < b.length ∨ 0 < c) : i + k < a.length + b.length ∧ k ≤ b.length := by
 rcases hk with hk | hk
 · omega
 have h4 := h.2.2.2
 have hbk := valD_take_le b k
 have ha1 := valD_lt (isDig_take ha (i + 1))
 rw [List.length_take, Nat.min_eq_left (by omega)] at ha1
 have hb1 := valD_lt hb
 have e : valD (a.take i) * valD b + 10 ^ i * a.getD i 0 * valD b = valD (a.take (i + 1)) * valD b := by rw [valD_take_getD, Nat.add_mul]
 have h5 : valD (a.take i) * valD b + 10 ^ i * a.getD i 0 * valD (b.take k) ≤ valD (a.take (i + 1)) * valD b := by
  rw [← e]
  have := Nat.mul_le_mul_left (10 ^ i * a.getD i 0) hbk
  omega
 have h6 : valD (a.take (i + 1)) * valD b < 10 ^ (i + 1) * 10 ^ b.length := Nat.mul_lt_mul_of_lt_of_le ha1 (Nat.le_of_lt hb1) (Nat.pow_pos (by decide))
 rw [← Nat.pow_add] at h6
 have h7 : 10 ^ (i + k) < 10 ^ (i + 1 + b.length) := by
  have : 10 ^ (i + k) * 1 ≤ 10 ^ (i + k) * c := Nat.mul_le_mul_left _ hk
  omega
 have h8 : i + k < i + 1 + b.length := by
  rcases Nat.lt_or_ge (i + k) (i + 1 + b.length) with h | h
  · exact h
  exact absurd h7 (Nat.not_lt.2 (Nat.pow_le_pow_right (by decide) h))
 omega
theorem mul_step {a b out : List Nat} {c i k : Nat} (ha : IsDig a) (hb : IsDig b) (h : MulInv a b out c i k) (hp : i + k < a.length + b.length) :
 MulInv a b (out.set (i + k) ((out.getD (i + k) 0 + c + a.getD i 0 * b.getD k 0) % 10)) ((out.getD (i + k) 0 + c + a.getD i 0 * b.getD k 0) / 10) i (k + 1) := by
 obtain ⟨hl, hd, hc, hv⟩ := h
 have h1 := getD_dig ha i
 have h2 := getD_dig hb k
 have h3 := getD_dig hd (i + k)
 have h12 : a.getD i 0 * b.getD k 0 ≤ 9 * 9 := Nat.mul_le_mul (by omega) (by omega)
 refine ⟨by simp [hl], isDig_set hd _ _ (Nat.mod_lt _ (by decide)), by omega, ?_⟩
 have hs := valD_set out (i + k) ((out.getD (i + k) 0 + c + a.getD i 0 * b.getD k 0) % 10) (by omega)
 rw [valD_take_getD, show i + (k + 1) = i + k + 1 by omega, Nat.pow_succ]
 have e2 : 10 ^ i * a.getD i 0 * (valD (b.take k) + 10 ^ k * b.getD k 0) = 10 ^ i * a.getD i 0 * valD (b.take k) + 10 ^ (i + k) * (a.getD i 0 * b.getD k 0) := by
  rw [Nat.mul_add, Nat.pow_add]
  congr 1
  rw [Nat.mul_assoc, Nat.mul_assoc, Nat.mul_left_comm (a.getD i 0)]
 rw [e2]
 generalize a.getD i 0 * b.getD k 0 = m at *
 generalize out.getD (i + k) 0 = o at *
 have e : 10 ^ (i + k) * ((o + c + m) % 10) + 10 ^ (i + k) * 10 * ((o + c + m) / 10) = 10 ^ (i + k) * o + 10 ^ (i + k) * c + 10 ^ (i + k) * m := by
  rw [Nat.mul_assoc, ← Nat.mul_add, ← Nat.mul_add, ← Nat.mul_add, Nat.mod_add_div]
 omega
theorem mul_end {a b out : List Nat} {i : Nat} (h : MulOut a b out i) (hi : a.length ≤ i) : trimD out = digs (valD a * valD b) := by
 unfold trimD
 rw [h.2.2, valD_take_all a i hi]
end Go.Proofs.YtcglcgphgahnpaaGreatDoor
namespace Go.Proofs.YtcglcgphgahnpaaGreatDoor
open Go Go.Proofs Go.RowKit Go.Lib
theorem times_any (m n : Nat) (ad1 ad2 : Option Addr) (c1 c2 n1 n2 : Nat) (w : World) (h1 : HoldI w ad1 c1 (digs m)) (h2 : HoldI w ad2 c2 (digs n)) (e1 : (digs m).length = n1) (e2 : (digs n).length = n2) (hn1 : n1 ≤ 1000) (hn2 : n2 ≤ 1000) :
 Calls Tryz.prog 127 #[.slice ad1 n1 c1, .slice ad2 n2 c2] w (IntsPost w (digs (m * n))) := by
 have ha := digs_lt m
 have hb := digs_lt n
 have va := valD_digs m
 have vb := valD_digs n
 obtain ⟨a, hae⟩ : ∃ a, digs m = a := ⟨_, rfl⟩
 obtain ⟨b, hbe⟩ : ∃ b, digs n = b := ⟨_, rfl⟩
 rw [hae] at ha va h1 e1
 rw [hbe] at hb vb h2 e2
 obtain ⟨S, hS⟩ : ∃ S, m * n = S := ⟨_, rfl⟩
 have hSl : valD a * valD b = S := by rw [va, vb, hS]
 rw [hS]
 have hst0 := mul_start a b
 rw [e1, e2] at hst0
 have hmk := fun W => make_ints (n1 + n2) (by omega) W ((n1 : Int) + (n2 : Int)) (by omega)
 have hnew := fun W => heap_alloc_new W (.cells (numVals .i64 (List.replicate (n1 + n2) 0)).toArray 3)
 have HA := hid ha; have HB := hid hb; have H1 := hid h1; have H2 := hid h2; have E1 := hid e1; have E2 := hid e2; have HS := hid hSl; have HST0 := hid hst0; have HNEW := hid hnew
 clear ha hb va vb h1 h2 e1 e2 hae hbe hS hSl hst0 hnew
 go_enter Tryz.func127, Tryz.ntmps127
 go_wp2_with fail
 go_loopw [6] (fun i wr => ∃ (out : List Nat) (k : Nat), k ≤ n1 ∧ i = .int .i64 k ∧ Hid (MulOut a b out k) ∧ Hid (IsI wr w.heap.size out) ∧ Hid (Below w.heap.size w wr)) (fun i _ => n1 - (RowKit.intOf i).toNat)
 case atStart => exact ⟨_, 0, Nat.zero_le _, rfl, HST0.out, HNEW.out w, (Below.refl _ _).alloc (Nat.le_refl _) _⟩
 obtain ⟨out, k, hk, rfl, hmo, hIs, hbr⟩ := hrel
 by_cases hA : k < n1
 · have hA2 : (k : Int) < (n1 : Int) := by omega
   have hmi := mul_in hmo.out
   have HMI := hid hmi
   clear hmi hmo
   go_wp2_with fail
   go_loopw [7, 8] (fun c kk wr2 => ∃ (out : List Nat) (q t : Nat), kk = .int .i64 t ∧ c = .int .i64 q ∧ Hid (MulInv a b out q k t) ∧ Hid (IsI wr2 w.heap.size out) ∧ Hid (Below w.heap.size w wr2)) (fun _ kk _ => n1 + n2 + 2 - (RowKit.intOf kk).toNat)
   case atStart => exact ⟨out, 0, 0, rfl, rfl, HMI.out, hIs, hbr⟩
   obtain ⟨out, q, t, rfl, rfl, hmi, hIs, hbr2⟩ := hrel
   have hq9 := hmi.out.2.2.1
   by_cases hB : t < n2
   · have hB2 : (t : Int) < (n2 : Int) := by omega
     have hp : k + t < n1 + n2 := by omega
     have ck := (hIs.out.cell (k + t) (by rw [hmi.out.1, E1.out, E2.out]; exact hp))
     have fk := hIs.out.frozen (k + t)
     have j5 := fun w' => atI w.heap.size 0 (n1 + n2) (n1 + n2) (k + t) ((k : Int) + (t : Int)) (by omega) hp w'
     rw [Nat.zero_add] at j5
     have ol := getD_dig hmi.out.2.1 (k + t)
     have hst := mul_step HA.out HB.out hmi.out (by rw [E1.out, E2.out]; exact hp)
     obtain ⟨o, ho⟩ : ∃ o, out.getD (k + t) 0 = o := ⟨_, rfl⟩
     rw [ho] at ck ol hst
     have kb : t < b.length := by rw [E2.out]; exact hB
     have ka : k < a.length := by rw [E1.out]; exact hA
     obtain ⟨g1, o1, rfl, hg1, hs1⟩ := H1.out.at (by omega)
     obtain ⟨g2, o2, rfl, hg2, hs2⟩ := H2.out.at (by omega)
     have ca := (hs1.below hbr2.out hg1) k ka
     have cb := (hs2.below hbr2.out hg2) t kb
     have j1 := fun w => atI g1 o1 n1 c1 k (k : Int) rfl (by omega) w
     have j2 := fun w => atI g2 o2 n2 c2 t (t : Int) rfl (by omega) w
     have xl := getD_dig HA.out k
     have yl := getD_dig HB.out t
     obtain ⟨x, hx⟩ : ∃ x, a.getD k 0 = x := ⟨_, rfl⟩
     obtain ⟨y, hy⟩ : ∃ y, b.getD t 0 = y := ⟨_, rfl⟩
     rw [hx] at ca xl hst
     rw [hy] at cb yl hst
     have hm81 : x * y ≤ 9 * 9 := Nat.mul_le_mul (by omega) (by omega)
     obtain ⟨m, hm⟩ : ∃ m, x * y = m := ⟨_, rfl⟩
     have hmi2 : (x : Int) * (y : Int) = (m : Int) := by rw [← hm]; simp
     rw [hm] at hst hm81
     have hw1 : IntKind.i64.wrap (m : Int) = (m : Int) := IntWalk.i64_in _ (by omega)
     have hw2 : IntKind.i64.wrap ((o : Int) + (q : Int) + (m : Int)) = (o : Int) + (q : Int) + (m : Int) := IntWalk.i64_in _ (by omega)
     obtain ⟨d, hd⟩ : ∃ d, (o + q + m) % 10 = d := ⟨_, rfl⟩
     obtain ⟨c', hc'⟩ : ∃ c, (o + q + m) / 10 = c := ⟨_, rfl⟩
     rw [hd, hc'] at hst
     have hdi : ((o : Int) + (q : Int) + (m : Int)) % 10 = (d : Int) := by omega
     have hci : ((o : Int) + (q : Int) + (m : Int)) / 10 = (c' : Int) := by omega
     have hpi : (k : Int) + (t : Int) < ((n1 + n2 : Nat) : Int) := by omega
     have hpi2 : (k : Int) + (t : Int) < (n1 : Int) + (n2 : Int) := by omega
     have HST := hid hst; have HDI := hid hdi; have HCI := hid hci
     clear hst hd hc' ho hmi hci hp
     clear hm hx hy ka kb hs1 hs2
     go_wp2_with fail
     go_quiet (fail)
     go_wp2
     go_roundw
     case rel => exact ⟨out.set (k + t) d, c', t + 1, by go_num, congrArg (Value.int .i64) HCI.out, HST.out, (hIs.out.drewN nq).store _ _ _ (by first | exact HDI.out | rfl), (below_drewN hbr2.out nq).setCell (Nat.le_refl _) _⟩
     case measure => simp [RowKit.intOf]; omega
   have hB2 : ¬ (t : Int) < (n2 : Int) := by omega
   by_cases hq : 0 < q
   · have hq2 : (0 : Int) < (q : Int) := by omega
     have hpl := mul_place HA.out HB.out hmi.out (by rw [E1.out]; exact hA) (.inr hq)
     rw [E1.out, E2.out] at hpl
     have hp := hpl.1
     have htn := hpl.2
     clear hpl
     have ck := (hIs.out.cell (k + t) (by rw [hmi.out.1, E1.out, E2.out]; exact hp))
     have fk := hIs.out.frozen (k + t)
     have j5 := fun w' => atI w.heap.size 0 (n1 + n2) (n1 + n2) (k + t) ((k : Int) + (t : Int)) (by omega) hp w'
     rw [Nat.zero_add] at j5
     have ol := getD_dig hmi.out.2.1 (k + t)
     have hst := mul_step HA.out HB.out hmi.out (by rw [E1.out, E2.out]; exact hp)
     obtain ⟨o, ho⟩ : ∃ o, out.getD (k + t) 0 = o := ⟨_, rfl⟩
     rw [ho] at ck ol hst
     have yz : b.getD t 0 = 0 := by rw [List.getD_eq_getElem?_getD, List.getElem?_eq_none (by rw [E2.out]; omega)]; rfl
     rw [yz, Nat.mul_zero, Nat.add_zero] at hst
     obtain ⟨d, hd⟩ : ∃ d, (o + q) % 10 = d := ⟨_, rfl⟩
     obtain ⟨c', hc'⟩ : ∃ c, (o + q) / 10 = c := ⟨_, rfl⟩
     rw [hd, hc'] at hst
     have hdi : ((o : Int) + (q : Int)) % 10 = (d : Int) := by omega
     have hci : ((o : Int) + (q : Int)) / 10 = (c' : Int) := by omega
     have hpi : (k : Int) + (t : Int) < ((n1 + n2 : Nat) : Int) := by omega
     have hpi2 : (k : Int) + (t : Int) < (n1 : Int) + (n2 : Int) := by omega
     have HST := hid hst; have HDI := hid hdi; have HCI := hid hci
     clear hst hd hc' ho hmi hci hp
     clear yz
     go_wp2
     go_roundw
     case rel => exact ⟨out.set (k + t) d, c', t + 1, by go_num, congrArg (Value.int .i64) HCI.out, HST.out, hIs.out.store _ _ _ (by first | exact HDI.out | rfl), hbr2.out.setCell (Nat.le_refl _) _⟩
     case measure => simp [RowKit.intOf]; omega
   have hq0 : q = 0 := by omega
   subst hq0
   have hout := mul_out hmi.out (by rw [E2.out]; omega)
   have HOUT := hid hout
   clear hmi hout
   go_wp2
   go_roundw
   case rel => exact ⟨out, k + 1, by omega, by go_num, HOUT.out, hIs, hbr2⟩
   case measure => simp [RowKit.intOf]; omega
 have hA2 : ¬ (k : Int) < (n1 : Int) := by omega
 have hfin := mul_end hmo.out (by rw [E1.out]; omega)
 rw [HS.out] at hfin
 have hol : out.length = n1 + n2 := by rw [hmo.out.1, E1.out, E2.out]
 have hod := hmo.out.2.1
 have htk := trimD_take _ hol hod
 rw [hfin] at htk
 have hh := hIs.out.holds (by rw [hol]; omega)
 rw [hol] at hh
 have c := trim_any out hod _ _ wr hh (n1 + n2) hol
 rw [hfin] at c
 have hh2 := hh.take (digs S).length
 rw [← htk] at hh2
 have C := hid c; have HH2 := hid hh2
 clear c hh hh2 htk hod hol hfin hmo
 go_wp2_with fail
 refine C.out.mono ?_
 rintro e W1 ⟨rfl, rfl⟩
 go_wp2
 go_ret
 exact ⟨_, _, rfl, HH2.out, hbr.out, fun q hq => by cases hq; exact Nat.le_refl _⟩
end Go.Proofs.YtcglcgphgahnpaaGreatDoor
namespace Go.Proofs.YtcglcgphgahnpaaGreatDoor
end Go.Proofs.YtcglcgphgahnpaaGreatDoor
namespace Go.Proofs.YtcglcgphgahnpaaGreatDoor
open Go Go.Proofs Go.RowKit Go.Lib
end Go.Proofs.YtcglcgphgahnpaaGreatDoor
namespace Go.Proofs.YtcglcgphgahnpaaGreatDoor
open Go Go.Proofs Go.RowKit Go.Lib
theorem mulR_any (s t : ByteArray) (hs : s.size ≤ 1099511627776) (ht : t.size ≤ 1099511627776) (w : World) :
 Calls Tryz.prog 95 #[.string s, .string t] w fun e w' => e = .returned (.tuple #[.string (opT (· * ·) s t), .int .i64 (opZ (· * ·) s t)]) ∧ Below w.heap.size w w' := by
 have va := fun W => valid_any s hs W
 have vb := fun W => valid_any t ht W
 unfold opT opZ
 by_cases h1 : validB s = true
 · by_cases h2 : validB t = true
   · rw [h1] at va
     rw [h2] at vb
     obtain ⟨f1, g1⟩ := text_valid h1
     obtain ⟨f2, g2⟩ := text_valid h2
     rw [h1, h2, Bool.true_and, if_pos rfl, if_pos rfl]
     obtain ⟨x, hx⟩ : ∃ x, numB s = x := ⟨_, rfl⟩
     obtain ⟨y, hy⟩ : ∃ x, numB t = x := ⟨_, rfl⟩
     rw [hx] at f1 g1 ⊢
     rw [hy] at f2 g2 ⊢
     have d1 := fun W => digits_any x (fits_size f1) W
     have d2 := fun W => digits_any y (fits_size f2) W
     rw [← g1] at d1
     rw [← g2] at d2
     have l1 := fits_length f1
     have l2 := fits_length f2
     obtain ⟨b, hb⟩ : ∃ b, decide (x < 0) = b := ⟨_, rfl⟩
     obtain ⟨c, hc⟩ : ∃ b, decide (y < 0) = b := ⟨_, rfl⟩
     have i1 := intD_self x
     have i2 := intD_self y
     rw [hb] at d1 i1
     rw [hc] at d2 i2
     have cs := fun W a1 k1 a2 k2 (q1 : HoldI W a1 k1 (digs x.natAbs)) (q2 : HoldI W a2 k2 (digs y.natAbs)) => times_any x.natAbs y.natAbs a1 a2 k1 k2 _ _ W q1 q2 rfl rfl (by omega) (by omega)
     obtain ⟨s, hs1⟩ : ∃ s, (b != c) = s := ⟨_, rfl⟩
     have hs2 : (b == c) = !s := by rw [← hs1]; simp [bne]
     have hmul : intD s (x.natAbs * y.natAbs) = x * y := by
      rw [← hs1]
      conv => rhs; rw [← i1, ← i2]
      exact intD_mul b c _ _
     have ck := fun W a1 k1 (q1 : HoldI W a1 k1 (digs (x.natAbs * y.natAbs))) => checked_any s (x.natAbs * y.natAbs) a1 k1 _ W q1 rfl
     rw [hmul] at ck
     obtain ⟨p, hp⟩ : ∃ p, x.natAbs * y.natAbs = p := ⟨_, rfl⟩
     rw [hp] at cs ck
     have hL : (· * ·) x y = x * y := rfl
     rw [hL]
     obtain ⟨m, hm⟩ : ∃ m, (digs x.natAbs).length = m := ⟨_, rfl⟩
     obtain ⟨n, hn⟩ : ∃ m, (digs y.natAbs).length = m := ⟨_, rfl⟩
     rw [hm] at d1 cs
     rw [hn] at d2 cs
     have VA := hid va; have VB := hid vb; have D1 := hid d1; have D2 := hid d2; have CS := hid cs; have CK := hid ck
     clear va vb d1 d2 cs ck i1 i2 hb hc hL hp hmul hm hn h1 h2 g1 g2 hx hy f1 f2 l1 l2
     go_enter Tryz.func95, Tryz.ntmps95
     go_wp2_with fail
     refine (VA.out _).mono ?_
     rintro e w1 ⟨rfl, rfl⟩
     go_wp2_with fail
     refine (VB.out _).mono ?_
     rintro e w2 ⟨rfl, rfl⟩
     go_wp2_with fail
     refine (D1.out _).mono ?_
     rintro e w3 ⟨a1, k1, rfl, q1, b3⟩
     go_wp2_with fail
     refine (D2.out _).mono ?_
     rintro e w4 ⟨a2, k2, rfl, q2, b4⟩
     have B4 := hid (b3.trans (b4.mono b3.size))
     have C := hid (CS.out w4 a1 k1 a2 k2 (q1.below b4 (Nat.le_refl _)) q2)
     clear q1 q2 b3 b4 CS
     go_wp2_with fail
     refine C.out.mono ?_
     rintro e w5 ⟨a5, k5, rfl, q5, b5, _⟩
     have B5 := hid (B4.out.trans (b5.mono B4.out.size))
     have C5 := hid (CK.out w5 a5 k5 q5)
     clear q5 b5 CK
     go_wp2_with fail
     refine C5.out.mono ?_
     rintro e w6 ⟨rfl, b6⟩
     go_wp2
     go_ret2
     exact ⟨rfl, B5.out.trans (b6.mono B5.out.size)⟩
   have h2' : validB t = false := by simpa using h2
   rw [h1] at va
   rw [h2'] at vb
   rw [h1, h2', Bool.and_false, if_neg (by simp), if_neg (by simp)]
   have VA := hid va; have VB := hid vb
   clear va vb h1 h2 h2'
   go_enter Tryz.func95, Tryz.ntmps95
   go_wp2_with fail
   refine (VA.out _).mono ?_
   rintro e w1 ⟨rfl, rfl⟩
   go_wp2_with fail
   refine (VB.out _).mono ?_
   rintro e w2 ⟨rfl, rfl⟩
   go_wp2
   go_ret2
   exact ⟨rfl, Below.refl _ _⟩
 have h1' : validB s = false := by simpa using h1
 rw [h1'] at va
 rw [h1', Bool.false_and, if_neg (by simp), if_neg (by simp)]
 have VA := hid va
 clear va vb h1 h1'
 go_enter Tryz.func95, Tryz.ntmps95
 go_wp2_with fail
 refine (VA.out _).mono ?_
 rintro e w1 ⟨rfl, rfl⟩
 go_wp2
 go_ret2
 exact ⟨rfl, Below.refl _ _⟩
end Go.Proofs.YtcglcgphgahnpaaGreatDoor
namespace Go.Proofs.YtcglcgphgahnpaaGreatDoor
open Go Go.Proofs Go.RowKit Go.Lib
theorem op_texts (f : Int → Int → Int) {x y : Int} (h1 : Fits x) (h2 : Fits y) : opT f (textI x) (textI y) = resT (f x y) ∧ opZ f (textI x) (textI y) = resZ (f x y) := by
 have := op_valid f (valid_text h1).1 (valid_text h2).1
 rw [(valid_text h1).2, (valid_text h2).2] at this
 exact this
theorem make_texts {n d : Int} (hn : Fits n) (hd : Fits d) (h0 : d ≠ 0) : makeB (textI n) (textI d) = true ∧ valQ (textI n) (textI d) = Rat.divInt n d := by
 unfold makeB valQ
 rw [(valid_text hn).1, (valid_text hd).1, (valid_text hn).2, (valid_text hd).2, decide_eq_true h0]
 exact ⟨rfl, rfl⟩
theorem crossR_bad (an ad bn bd : ByteArray) (h1 : an.size ≤ 1099511627776) (h2 : ad.size ≤ 1099511627776) (h3 : bn.size ≤ 1099511627776) (h4 : bd.size ≤ 1099511627776) (hv : bothB an ad bn bd = false) (w : World) :
 Calls Tryz.prog 91 #[.agg #[.string an, .string ad], .agg #[.string bn, .string bd]] w fun e w' => e = .returned (.tuple #[.string ⟨#[]⟩, .string ⟨#[]⟩, .string ⟨#[]⟩, .bool false]) ∧ Below w.heap.size w w' := by
 obtain ⟨W0, hW0, b0, hcc⟩ := box_two w an ad bn bd
 have HW := hid hW0; have HC := hid hcc; have B0 := hid b0
 have P0 := hid (Below.refl W0.heap.size W0)
 clear hW0 hcc b0
 have va := fun W => validR4_any an ad h1 h2 W
 have vb := fun W => validR4_any bn bd h3 h4 W
 unfold bothB at hv
 cases e1 : validQ an ad with
 | false =>
  rw [e1] at va
  have VA := hid va; have VB := hid vb
  clear va vb e1 hv
  go_enter Tryz.func91, Tryz.ntmps91
  obtain ⟨⟨ca0, cb0, cc0, cd0⟩, ⟨ce0, cf0, cg0, ch0⟩⟩ := HC.out _ (Below.refl _ _)
  go_wp2_with (rw [HW.out])
  refine (VA.out _).mono ?_
  rintro e w1 ⟨rfl, b1⟩
  have P1 := hid (below_up P0.out b1)
  obtain ⟨⟨ca1, cb1, cc1, cd1⟩, ⟨ce1, cf1, cg1, ch1⟩⟩ := HC.out _ P1.out
  clear b1 P0 ca0 cb0 cc0 cd0 ce0 cf0 cg0 ch0 
  go_wp2_with fail
  refine (VB.out _).mono ?_
  rintro e w2 ⟨rfl, b2⟩
  have P2 := hid (below_up P1.out b2)
  obtain ⟨⟨ca2, cb2, cc2, cd2⟩, ⟨ce2, cf2, cg2, ch2⟩⟩ := HC.out _ P2.out
  clear b2 P1 ca1 cb1 cc1 cd1 ce1 cf1 cg1 ch1 
  go_wp2_with fail
  exact bodyPost_ret (v := .tuple #[.string ⟨#[]⟩, .string ⟨#[]⟩, .string ⟨#[]⟩, .bool false]) (by simp [results, Tryz.results91, go_sem]) rfl ⟨rfl, below_up B0.out P2.out⟩
 | true =>
  rw [e1, Bool.true_and] at hv
  rw [e1] at va
  rw [hv] at vb
  have VA := hid va; have VB := hid vb
  clear va vb e1 hv
  go_enter Tryz.func91, Tryz.ntmps91
  obtain ⟨⟨ca0, cb0, cc0, cd0⟩, ⟨ce0, cf0, cg0, ch0⟩⟩ := HC.out _ (Below.refl _ _)
  go_wp2_with (rw [HW.out])
  refine (VA.out _).mono ?_
  rintro e w1 ⟨rfl, b1⟩
  have P1 := hid (below_up P0.out b1)
  obtain ⟨⟨ca1, cb1, cc1, cd1⟩, ⟨ce1, cf1, cg1, ch1⟩⟩ := HC.out _ P1.out
  clear b1 P0 ca0 cb0 cc0 cd0 ce0 cf0 cg0 ch0 
  go_wp2_with fail
  refine (VB.out _).mono ?_
  rintro e w2 ⟨rfl, b2⟩
  have P2 := hid (below_up P1.out b2)
  obtain ⟨⟨ca2, cb2, cc2, cd2⟩, ⟨ce2, cf2, cg2, ch2⟩⟩ := HC.out _ P2.out
  clear b2 P1 ca1 cb1 cc1 cd1 ce1 cf1 cg1 ch1 
  go_wp2_with fail
  exact bodyPost_ret (v := .tuple #[.string ⟨#[]⟩, .string ⟨#[]⟩, .string ⟨#[]⟩, .bool false]) (by simp [results, Tryz.results91, go_sem]) rfl ⟨rfl, below_up B0.out P2.out⟩
theorem crossR_good (an ad bn bd : ByteArray) (h1 : an.size ≤ 1099511627776) (h2 : ad.size ≤ 1099511627776) (h3 : bn.size ≤ 1099511627776) (h4 : bd.size ≤ 1099511627776) (hv : bothB an ad bn bd = true) (w : World) :
 Calls Tryz.prog 91 #[.agg #[.string an, .string ad], .agg #[.string bn, .string bd]] w fun e w' => e = .returned (.tuple #[.string (resT (numB an * numB bd)), .string (resT (numB bn * numB ad)), .string (resT (numB ad * numB bd)), .bool (fitB (numB an * numB bd) && (fitB (numB bn * numB ad) && fitB (numB ad * numB bd)))]) ∧ Below w.heap.size w w' := by
 obtain ⟨W0, hW0, b0, hcc⟩ := box_two w an ad bn bd
 have HW := hid hW0; have HC := hid hcc; have B0 := hid b0
 have P0 := hid (Below.refl W0.heap.size W0)
 clear hW0 hcc b0
 have va := fun W => validR4_any an ad h1 h2 W
 have vb := fun W => validR4_any bn bd h3 h4 W
 obtain ⟨v1, v2⟩ := both_parts hv
 obtain ⟨u1, u2, _, _⟩ := validQ_parts v1
 obtain ⟨u3, u4, _, _⟩ := validQ_parts v2
 rw [v1] at va
 rw [v2] at vb
 have c1 := fun W => mulR_any an bd h1 h4 W
 have c2 := fun W => mulR_any bn ad h3 h2 W
 have c3 := fun W => mulR_any ad bd h2 h4 W
 rw [(op_valid _ u1 u4).1, (op_valid _ u1 u4).2] at c1
 rw [(op_valid _ u3 u2).1, (op_valid _ u3 u2).2] at c2
 rw [(op_valid _ u2 u4).1, (op_valid _ u2 u4).2] at c3
 obtain ⟨p, hp⟩ : ∃ x, numB an * numB bd = x := ⟨_, rfl⟩
 obtain ⟨q, hq⟩ : ∃ x, numB bn * numB ad = x := ⟨_, rfl⟩
 obtain ⟨r, hr⟩ : ∃ x, numB ad * numB bd = x := ⟨_, rfl⟩
 rw [hp] at c1 ⊢
 rw [hq] at c2 ⊢
 rw [hr] at c3 ⊢
 clear hp hq hr u1 u2 u3 u4 v1 v2 hv
 obtain ⟨T1, hT1⟩ : ∃ x, resT p = x := ⟨_, rfl⟩
 obtain ⟨T2, hT2⟩ : ∃ x, resT q = x := ⟨_, rfl⟩
 obtain ⟨T3, hT3⟩ : ∃ x, resT r = x := ⟨_, rfl⟩
 rw [hT1] at c1 ⊢
 rw [hT2] at c2 ⊢
 rw [hT3] at c3 ⊢
 clear hT1 hT2 hT3
 have VA := hid va; have VB := hid vb
 clear va vb
 cases f1 : fitB p with
 | false =>
  rw [(res_no f1).2] at c1
  generalize resZ q = z2 at *
  generalize resZ r = z3 at *
  rw [Bool.false_and]
  clear f1
  have C1 := hid c1; have C2 := hid c2; have C3 := hid c3
  clear c1 c2 c3
  go_enter Tryz.func91, Tryz.ntmps91
  obtain ⟨⟨ca0, cb0, cc0, cd0⟩, ⟨ce0, cf0, cg0, ch0⟩⟩ := HC.out _ (Below.refl _ _)
  go_wp2_with (rw [HW.out])
  refine (VA.out _).mono ?_
  rintro e w1 ⟨rfl, b1⟩
  have P1 := hid (below_up P0.out b1)
  obtain ⟨⟨ca1, cb1, cc1, cd1⟩, ⟨ce1, cf1, cg1, ch1⟩⟩ := HC.out _ P1.out
  clear b1 P0 ca0 cb0 cc0 cd0 ce0 cf0 cg0 ch0 
  go_wp2_with fail
  refine (VB.out _).mono ?_
  rintro e w2 ⟨rfl, b2⟩
  have P2 := hid (below_up P1.out b2)
  obtain ⟨⟨ca2, cb2, cc2, cd2⟩, ⟨ce2, cf2, cg2, ch2⟩⟩ := HC.out _ P2.out
  clear b2 P1 ca1 cb1 cc1 cd1 ce1 cf1 cg1 ch1 
  go_wp2_with fail
  refine (C1.out _).mono ?_
  rintro e w3 ⟨rfl, b3⟩
  have P3 := hid (below_up P2.out b3)
  obtain ⟨⟨ca3, cb3, cc3, cd3⟩, ⟨ce3, cf3, cg3, ch3⟩⟩ := HC.out _ P3.out
  clear b3 P2 ca2 cb2 cc2 cd2 ce2 cf2 cg2 ch2 
  go_wp2_with fail
  refine (C2.out _).mono ?_
  rintro e w4 ⟨rfl, b4⟩
  have P4 := hid (below_up P3.out b4)
  obtain ⟨⟨ca4, cb4, cc4, cd4⟩, ⟨ce4, cf4, cg4, ch4⟩⟩ := HC.out _ P4.out
  clear b4 P3 ca3 cb3 cc3 cd3 ce3 cf3 cg3 ch3 
  go_wp2_with fail
  refine (C3.out _).mono ?_
  rintro e w5 ⟨rfl, b5⟩
  have P5 := hid (below_up P4.out b5)
  obtain ⟨⟨ca5, cb5, cc5, cd5⟩, ⟨ce5, cf5, cg5, ch5⟩⟩ := HC.out _ P5.out
  clear b5 P4 ca4 cb4 cc4 cd4 ce4 cf4 cg4 ch4 
  go_wp2_with fail
  exact bodyPost_ret (v := .tuple #[.string T1, .string T2, .string T3, .bool false]) (by simp [results, Tryz.results91, go_sem]) rfl ⟨rfl, below_up B0.out P5.out⟩
 | true =>
  rw [(res_yes f1).2] at c1
  cases f2 : fitB q with
  | false =>
   rw [(res_no f2).2] at c2
   generalize resZ r = z3 at *
   rw [Bool.false_and, Bool.and_false]
   clear f1 f2
   have C1 := hid c1; have C2 := hid c2; have C3 := hid c3
   clear c1 c2 c3
   go_enter Tryz.func91, Tryz.ntmps91
   obtain ⟨⟨ca0, cb0, cc0, cd0⟩, ⟨ce0, cf0, cg0, ch0⟩⟩ := HC.out _ (Below.refl _ _)
   go_wp2_with (rw [HW.out])
   refine (VA.out _).mono ?_
   rintro e w1 ⟨rfl, b1⟩
   have P1 := hid (below_up P0.out b1)
   obtain ⟨⟨ca1, cb1, cc1, cd1⟩, ⟨ce1, cf1, cg1, ch1⟩⟩ := HC.out _ P1.out
   clear b1 P0 ca0 cb0 cc0 cd0 ce0 cf0 cg0 ch0 
   go_wp2_with fail
   refine (VB.out _).mono ?_
   rintro e w2 ⟨rfl, b2⟩
   have P2 := hid (below_up P1.out b2)
   obtain ⟨⟨ca2, cb2, cc2, cd2⟩, ⟨ce2, cf2, cg2, ch2⟩⟩ := HC.out _ P2.out
   clear b2 P1 ca1 cb1 cc1 cd1 ce1 cf1 cg1 ch1 
   go_wp2_with fail
   refine (C1.out _).mono ?_
   rintro e w3 ⟨rfl, b3⟩
   have P3 := hid (below_up P2.out b3)
   obtain ⟨⟨ca3, cb3, cc3, cd3⟩, ⟨ce3, cf3, cg3, ch3⟩⟩ := HC.out _ P3.out
   clear b3 P2 ca2 cb2 cc2 cd2 ce2 cf2 cg2 ch2 
   go_wp2_with fail
   refine (C2.out _).mono ?_
   rintro e w4 ⟨rfl, b4⟩
   have P4 := hid (below_up P3.out b4)
   obtain ⟨⟨ca4, cb4, cc4, cd4⟩, ⟨ce4, cf4, cg4, ch4⟩⟩ := HC.out _ P4.out
   clear b4 P3 ca3 cb3 cc3 cd3 ce3 cf3 cg3 ch3 
   go_wp2_with fail
   refine (C3.out _).mono ?_
   rintro e w5 ⟨rfl, b5⟩
   have P5 := hid (below_up P4.out b5)
   obtain ⟨⟨ca5, cb5, cc5, cd5⟩, ⟨ce5, cf5, cg5, ch5⟩⟩ := HC.out _ P5.out
   clear b5 P4 ca4 cb4 cc4 cd4 ce4 cf4 cg4 ch4 
   go_wp2_with fail
   exact bodyPost_ret (v := .tuple #[.string T1, .string T2, .string T3, .bool false]) (by simp [results, Tryz.results91, go_sem]) rfl ⟨rfl, below_up B0.out P5.out⟩
  | true =>
   rw [(res_yes f2).2] at c2
   cases f3 : fitB r with
   | false =>
    rw [(res_no f3).2] at c3
    clear f1 f2 f3
    have C1 := hid c1; have C2 := hid c2; have C3 := hid c3
    clear c1 c2 c3
    go_enter Tryz.func91, Tryz.ntmps91
    obtain ⟨⟨ca0, cb0, cc0, cd0⟩, ⟨ce0, cf0, cg0, ch0⟩⟩ := HC.out _ (Below.refl _ _)
    go_wp2_with (rw [HW.out])
    refine (VA.out _).mono ?_
    rintro e w1 ⟨rfl, b1⟩
    have P1 := hid (below_up P0.out b1)
    obtain ⟨⟨ca1, cb1, cc1, cd1⟩, ⟨ce1, cf1, cg1, ch1⟩⟩ := HC.out _ P1.out
    clear b1 P0 ca0 cb0 cc0 cd0 ce0 cf0 cg0 ch0 
    go_wp2_with fail
    refine (VB.out _).mono ?_
    rintro e w2 ⟨rfl, b2⟩
    have P2 := hid (below_up P1.out b2)
    obtain ⟨⟨ca2, cb2, cc2, cd2⟩, ⟨ce2, cf2, cg2, ch2⟩⟩ := HC.out _ P2.out
    clear b2 P1 ca1 cb1 cc1 cd1 ce1 cf1 cg1 ch1 
    go_wp2_with fail
    refine (C1.out _).mono ?_
    rintro e w3 ⟨rfl, b3⟩
    have P3 := hid (below_up P2.out b3)
    obtain ⟨⟨ca3, cb3, cc3, cd3⟩, ⟨ce3, cf3, cg3, ch3⟩⟩ := HC.out _ P3.out
    clear b3 P2 ca2 cb2 cc2 cd2 ce2 cf2 cg2 ch2 
    go_wp2_with fail
    refine (C2.out _).mono ?_
    rintro e w4 ⟨rfl, b4⟩
    have P4 := hid (below_up P3.out b4)
    obtain ⟨⟨ca4, cb4, cc4, cd4⟩, ⟨ce4, cf4, cg4, ch4⟩⟩ := HC.out _ P4.out
    clear b4 P3 ca3 cb3 cc3 cd3 ce3 cf3 cg3 ch3 
    go_wp2_with fail
    refine (C3.out _).mono ?_
    rintro e w5 ⟨rfl, b5⟩
    have P5 := hid (below_up P4.out b5)
    obtain ⟨⟨ca5, cb5, cc5, cd5⟩, ⟨ce5, cf5, cg5, ch5⟩⟩ := HC.out _ P5.out
    clear b5 P4 ca4 cb4 cc4 cd4 ce4 cf4 cg4 ch4 
    go_wp2_with fail
    exact bodyPost_ret (v := .tuple #[.string T1, .string T2, .string T3, .bool false]) (by simp [results, Tryz.results91, go_sem]) rfl ⟨rfl, below_up B0.out P5.out⟩
   | true =>
    rw [(res_yes f3).2] at c3
    clear f1 f2 f3
    have C1 := hid c1; have C2 := hid c2; have C3 := hid c3
    clear c1 c2 c3
    go_enter Tryz.func91, Tryz.ntmps91
    obtain ⟨⟨ca0, cb0, cc0, cd0⟩, ⟨ce0, cf0, cg0, ch0⟩⟩ := HC.out _ (Below.refl _ _)
    go_wp2_with (rw [HW.out])
    refine (VA.out _).mono ?_
    rintro e w1 ⟨rfl, b1⟩
    have P1 := hid (below_up P0.out b1)
    obtain ⟨⟨ca1, cb1, cc1, cd1⟩, ⟨ce1, cf1, cg1, ch1⟩⟩ := HC.out _ P1.out
    clear b1 P0 ca0 cb0 cc0 cd0 ce0 cf0 cg0 ch0 
    go_wp2_with fail
    refine (VB.out _).mono ?_
    rintro e w2 ⟨rfl, b2⟩
    have P2 := hid (below_up P1.out b2)
    obtain ⟨⟨ca2, cb2, cc2, cd2⟩, ⟨ce2, cf2, cg2, ch2⟩⟩ := HC.out _ P2.out
    clear b2 P1 ca1 cb1 cc1 cd1 ce1 cf1 cg1 ch1 
    go_wp2_with fail
    refine (C1.out _).mono ?_
    rintro e w3 ⟨rfl, b3⟩
    have P3 := hid (below_up P2.out b3)
    obtain ⟨⟨ca3, cb3, cc3, cd3⟩, ⟨ce3, cf3, cg3, ch3⟩⟩ := HC.out _ P3.out
    clear b3 P2 ca2 cb2 cc2 cd2 ce2 cf2 cg2 ch2 
    go_wp2_with fail
    refine (C2.out _).mono ?_
    rintro e w4 ⟨rfl, b4⟩
    have P4 := hid (below_up P3.out b4)
    obtain ⟨⟨ca4, cb4, cc4, cd4⟩, ⟨ce4, cf4, cg4, ch4⟩⟩ := HC.out _ P4.out
    clear b4 P3 ca3 cb3 cc3 cd3 ce3 cf3 cg3 ch3 
    go_wp2_with fail
    refine (C3.out _).mono ?_
    rintro e w5 ⟨rfl, b5⟩
    have P5 := hid (below_up P4.out b5)
    obtain ⟨⟨ca5, cb5, cc5, cd5⟩, ⟨ce5, cf5, cg5, ch5⟩⟩ := HC.out _ P5.out
    clear b5 P4 ca4 cb4 cc4 cd4 ce4 cf4 cg4 ch4 
    go_wp2_with fail
    exact bodyPost_ret (v := .tuple #[.string T1, .string T2, .string T3, .bool true]) (by simp [results, Tryz.results91, go_sem]) rfl ⟨rfl, below_up B0.out P5.out⟩
theorem addR4_any (an ad bn bd : ByteArray) (h1 : an.size ≤ 1099511627776) (h2 : ad.size ≤ 1099511627776) (h3 : bn.size ≤ 1099511627776) (h4 : bd.size ≤ 1099511627776) (w : World) :
 Calls Tryz.prog 47 #[.agg #[.string an, .string ad], .agg #[.string bn, .string bd]] w fun e w' => e = .returned (.tuple #[.agg #[.string (outN (addB an ad bn bd) (valQ an ad + valQ bn bd)), .string (outD (addB an ad bn bd) (valQ an ad + valQ bn bd))], .int .i64 (outE (addB an ad bn bd))]) ∧ Below w.heap.size w w' := by
 obtain ⟨W0, hW0, b0, hcc⟩ := box_three w an ad bn bd ⟨#[]⟩ ⟨#[]⟩
 have HW := hid hW0; have HC := hid hcc; have B0 := hid b0
 have P0 := hid (Below.refl W0.heap.size W0)
 clear hW0 hcc b0
 cases hv : bothB an ad bn bd with
 | false =>
  have hb : addB an ad bn bd = false := by unfold addB; rw [hv]; rfl
  rw [hb]
  have C := hid (fun W => crossR_bad an ad bn bd h1 h2 h3 h4 hv W)
  clear hv hb
  go_enter Tryz.func47, Tryz.ntmps47
  obtain ⟨⟨ca0, cb0, cc0, cd0⟩, ⟨ce0, cf0, cg0, ch0⟩, ⟨ci0, cj0, ck0, cl0⟩⟩ := HC.out _ (Below.refl _ _)
  go_wp2_with (rw [HW.out])
  refine (C.out _).mono ?_
  rintro e w1 ⟨rfl, b1⟩
  have P1 := hid (below_up P0.out b1)
  obtain ⟨⟨ca1, cb1, cc1, cd1⟩, ⟨ce1, cf1, cg1, ch1⟩, ⟨ci1, cj1, ck1, cl1⟩⟩ := HC.out _ P1.out
  clear b1 P0 ca0 cb0 cc0 cd0 ce0 cf0 cg0 ch0 ci0 cj0 ck0 cl0 
  go_wp2_with fail
  refine bodyPost_ret (v := .tuple #[.agg #[.string ⟨#[]⟩, .string ⟨#[]⟩], .int .i64 40]) (by simp [results, Tryz.results47, go_sem, ci1, cj1]) rfl ⟨rfl, rat_done B0.out (by omega) P1.out _ _⟩
 | true =>
  have cr := fun W => crossR_good an ad bn bd h1 h2 h3 h4 hv W
  have hval := add_val hv
  obtain ⟨v1, v2⟩ := both_parts hv
  have hr0 : numB ad * numB bd ≠ 0 := Int.mul_ne_zero (den_ne v1) (den_ne v2)
  have hb : addB an ad bn bd = ((fitB (numB an * numB bd) && (fitB (numB bn * numB ad) && fitB (numB ad * numB bd))) && fitB (numB an * numB bd + numB bn * numB ad)) := by unfold addB; rw [hv]; rfl
  rw [hb]
  obtain ⟨x, hx⟩ : ∃ x, valQ an ad + valQ bn bd = x := ⟨_, rfl⟩
  obtain ⟨p, hp⟩ : ∃ x, numB an * numB bd = x := ⟨_, rfl⟩
  obtain ⟨q, hq⟩ : ∃ x, numB bn * numB ad = x := ⟨_, rfl⟩
  obtain ⟨r, hr⟩ : ∃ x, numB ad * numB bd = x := ⟨_, rfl⟩
  rw [hx] at hval ⊢
  rw [hp, hq, hr] at cr hval
  rw [hr] at hr0
  rw [hp, hq, hr]
  clear hx hp hq hr hv v1 v2 hb
  obtain ⟨ok, hok⟩ : ∃ k, (fitB p && (fitB q && fitB r)) = k := ⟨_, rfl⟩
  rw [hok] at cr ⊢
  cases ok with
  | false =>
   rw [Bool.false_and]
   obtain ⟨T1, hT1⟩ : ∃ x, resT p = x := ⟨_, rfl⟩
   obtain ⟨T2, hT2⟩ : ∃ x, resT q = x := ⟨_, rfl⟩
   obtain ⟨T3, hT3⟩ : ∃ x, resT r = x := ⟨_, rfl⟩
   rw [hT1, hT2, hT3] at cr
   have C := hid cr
   clear cr hT1 hT2 hT3 hok hval hr0
   go_enter Tryz.func47, Tryz.ntmps47
   obtain ⟨⟨ca0, cb0, cc0, cd0⟩, ⟨ce0, cf0, cg0, ch0⟩, ⟨ci0, cj0, ck0, cl0⟩⟩ := HC.out _ (Below.refl _ _)
   go_wp2_with (rw [HW.out])
   refine (C.out _).mono ?_
   rintro e w1 ⟨rfl, b1⟩
   have P1 := hid (below_up P0.out b1)
   obtain ⟨⟨ca1, cb1, cc1, cd1⟩, ⟨ce1, cf1, cg1, ch1⟩, ⟨ci1, cj1, ck1, cl1⟩⟩ := HC.out _ P1.out
   clear b1 P0 ca0 cb0 cc0 cd0 ce0 cf0 cg0 ch0 ci0 cj0 ck0 cl0 
   go_wp2_with fail
   refine bodyPost_ret (v := .tuple #[.agg #[.string ⟨#[]⟩, .string ⟨#[]⟩], .int .i64 40]) (by simp [results, Tryz.results47, go_sem, ci1, cj1]) rfl ⟨rfl, rat_done B0.out (by omega) P1.out _ _⟩
  | true =>
   rw [Bool.true_and]
   simp only [Bool.and_eq_true] at hok
   obtain ⟨f1, f2, f3⟩ := hok
   rw [(res_yes f1).1, (res_yes f2).1, (res_yes f3).1] at cr
   rw [fitB_iff] at f1 f2 f3
   have cs := fun W => addR_any (textI p) (textI q) (le_of_fits f1) (le_of_fits f2) W
   rw [(op_texts _ f1 f2).1, (op_texts _ f1 f2).2] at cs
   cases f4 : fitB (p + q) with
   | false =>
    rw [(res_no f4).1, (res_no f4).2] at cs
    generalize textI p = TP at *
    generalize textI q = TQ at *
    generalize textI r = TR at *
    have C := hid cr; have CS := hid cs
    clear cr cs f1 f2 f3 f4 hval hr0
    go_enter Tryz.func47, Tryz.ntmps47
    obtain ⟨⟨ca0, cb0, cc0, cd0⟩, ⟨ce0, cf0, cg0, ch0⟩, ⟨ci0, cj0, ck0, cl0⟩⟩ := HC.out _ (Below.refl _ _)
    go_wp2_with (rw [HW.out])
    refine (C.out _).mono ?_
    rintro e w1 ⟨rfl, b1⟩
    have P1 := hid (below_up P0.out b1)
    obtain ⟨⟨ca1, cb1, cc1, cd1⟩, ⟨ce1, cf1, cg1, ch1⟩, ⟨ci1, cj1, ck1, cl1⟩⟩ := HC.out _ P1.out
    clear b1 P0 ca0 cb0 cc0 cd0 ce0 cf0 cg0 ch0 ci0 cj0 ck0 cl0 
    go_wp2_with fail
    refine (CS.out _).mono ?_
    rintro e w2 ⟨rfl, b2⟩
    have P2 := hid (below_up P1.out b2)
    obtain ⟨⟨ca2, cb2, cc2, cd2⟩, ⟨ce2, cf2, cg2, ch2⟩, ⟨ci2, cj2, ck2, cl2⟩⟩ := HC.out _ P2.out
    clear b2 P1 ca1 cb1 cc1 cd1 ce1 cf1 cg1 ch1 ci1 cj1 ck1 cl1 
    go_wp2_with fail
    refine bodyPost_ret (v := .tuple #[.agg #[.string ⟨#[]⟩, .string ⟨#[]⟩], .int .i64 40]) (by simp [results, Tryz.results47, go_sem, ci2, cj2]) rfl ⟨rfl, rat_done B0.out (by omega) P2.out _ _⟩
   | true =>
    rw [(res_yes f4).1, (res_yes f4).2] at cs
    rw [fitB_iff] at f4
    have cm := fun W => makeR4_any (textI (p + q)) (textI r) (le_of_fits f4) (le_of_fits f3) W
    rw [(make_texts f4 f3 hr0).1, (make_texts f4 f3 hr0).2, hval] at cm
    obtain ⟨XN, hXN⟩ : ∃ t, outN true x = t := ⟨_, rfl⟩
    obtain ⟨XD, hXD⟩ : ∃ t, outD true x = t := ⟨_, rfl⟩
    obtain ⟨XE, hXE⟩ : ∃ t, outE true = t := ⟨_, rfl⟩
    rw [hXN, hXD, hXE] at cm ⊢
    generalize textI (p + q) = TS at *
    generalize textI p = TP at *
    generalize textI q = TQ at *
    generalize textI r = TR at *
    have C := hid cr; have CS := hid cs; have CM := hid cm
    clear cr cs cm f1 f2 f3 f4 hval hr0 hXN hXD hXE
    go_enter Tryz.func47, Tryz.ntmps47
    obtain ⟨⟨ca0, cb0, cc0, cd0⟩, ⟨ce0, cf0, cg0, ch0⟩, ⟨ci0, cj0, ck0, cl0⟩⟩ := HC.out _ (Below.refl _ _)
    go_wp2_with (rw [HW.out])
    refine (C.out _).mono ?_
    rintro e w1 ⟨rfl, b1⟩
    have P1 := hid (below_up P0.out b1)
    obtain ⟨⟨ca1, cb1, cc1, cd1⟩, ⟨ce1, cf1, cg1, ch1⟩, ⟨ci1, cj1, ck1, cl1⟩⟩ := HC.out _ P1.out
    clear b1 P0 ca0 cb0 cc0 cd0 ce0 cf0 cg0 ch0 ci0 cj0 ck0 cl0 
    go_wp2_with fail
    refine (CS.out _).mono ?_
    rintro e w2 ⟨rfl, b2⟩
    have P2 := hid (below_up P1.out b2)
    obtain ⟨⟨ca2, cb2, cc2, cd2⟩, ⟨ce2, cf2, cg2, ch2⟩, ⟨ci2, cj2, ck2, cl2⟩⟩ := HC.out _ P2.out
    clear b2 P1 ca1 cb1 cc1 cd1 ce1 cf1 cg1 ch1 ci1 cj1 ck1 cl1 
    go_wp2_with fail
    refine (CM.out _).mono ?_
    rintro e w3 ⟨rfl, b3⟩
    have P3 := hid (below_up P2.out b3)
    obtain ⟨⟨ca3, cb3, cc3, cd3⟩, ⟨ce3, cf3, cg3, ch3⟩, ⟨ci3, cj3, ck3, cl3⟩⟩ := HC.out _ P3.out
    clear b3 P2 ca2 cb2 cc2 cd2 ce2 cf2 cg2 ch2 ci2 cj2 ck2 cl2 
    go_wp2_with fail
    refine bodyPost_ret (v := .tuple #[.agg #[.string XN, .string XD], .int .i64 XE]) (by simp [results, Tryz.results47, go_sem, ci3, cj3]) rfl ⟨rfl, rat_done B0.out (by omega) P3.out _ _⟩
theorem subR4_any (an ad bn bd : ByteArray) (h1 : an.size ≤ 1099511627776) (h2 : ad.size ≤ 1099511627776) (h3 : bn.size ≤ 1099511627776) (h4 : bd.size ≤ 1099511627776) (w : World) :
 Calls Tryz.prog 50 #[.agg #[.string an, .string ad], .agg #[.string bn, .string bd]] w fun e w' => e = .returned (.tuple #[.agg #[.string (outN (subB an ad bn bd) (valQ an ad - valQ bn bd)), .string (outD (subB an ad bn bd) (valQ an ad - valQ bn bd))], .int .i64 (outE (subB an ad bn bd))]) ∧ Below w.heap.size w w' := by
 obtain ⟨W0, hW0, b0, hcc⟩ := box_three w an ad bn bd ⟨#[]⟩ ⟨#[]⟩
 have HW := hid hW0; have HC := hid hcc; have B0 := hid b0
 have P0 := hid (Below.refl W0.heap.size W0)
 clear hW0 hcc b0
 cases hv : bothB an ad bn bd with
 | false =>
  have hb : subB an ad bn bd = false := by unfold subB; rw [hv]; rfl
  rw [hb]
  have C := hid (fun W => crossR_bad an ad bn bd h1 h2 h3 h4 hv W)
  clear hv hb
  go_enter Tryz.func50, Tryz.ntmps50
  obtain ⟨⟨ca0, cb0, cc0, cd0⟩, ⟨ce0, cf0, cg0, ch0⟩, ⟨ci0, cj0, ck0, cl0⟩⟩ := HC.out _ (Below.refl _ _)
  go_wp2_with (rw [HW.out])
  refine (C.out _).mono ?_
  rintro e w1 ⟨rfl, b1⟩
  have P1 := hid (below_up P0.out b1)
  obtain ⟨⟨ca1, cb1, cc1, cd1⟩, ⟨ce1, cf1, cg1, ch1⟩, ⟨ci1, cj1, ck1, cl1⟩⟩ := HC.out _ P1.out
  clear b1 P0 ca0 cb0 cc0 cd0 ce0 cf0 cg0 ch0 ci0 cj0 ck0 cl0 
  go_wp2_with fail
  refine bodyPost_ret (v := .tuple #[.agg #[.string ⟨#[]⟩, .string ⟨#[]⟩], .int .i64 40]) (by simp [results, Tryz.results50, go_sem, ci1, cj1]) rfl ⟨rfl, rat_done B0.out (by omega) P1.out _ _⟩
 | true =>
  have cr := fun W => crossR_good an ad bn bd h1 h2 h3 h4 hv W
  have hval := sub_val hv
  obtain ⟨v1, v2⟩ := both_parts hv
  have hr0 : numB ad * numB bd ≠ 0 := Int.mul_ne_zero (den_ne v1) (den_ne v2)
  have hb : subB an ad bn bd = ((fitB (numB an * numB bd) && (fitB (numB bn * numB ad) && fitB (numB ad * numB bd))) && fitB (numB an * numB bd - numB bn * numB ad)) := by unfold subB; rw [hv]; rfl
  rw [hb]
  obtain ⟨x, hx⟩ : ∃ x, valQ an ad - valQ bn bd = x := ⟨_, rfl⟩
  obtain ⟨p, hp⟩ : ∃ x, numB an * numB bd = x := ⟨_, rfl⟩
  obtain ⟨q, hq⟩ : ∃ x, numB bn * numB ad = x := ⟨_, rfl⟩
  obtain ⟨r, hr⟩ : ∃ x, numB ad * numB bd = x := ⟨_, rfl⟩
  rw [hx] at hval ⊢
  rw [hp, hq, hr] at cr hval
  rw [hr] at hr0
  rw [hp, hq, hr]
  clear hx hp hq hr hv v1 v2 hb
  obtain ⟨ok, hok⟩ : ∃ k, (fitB p && (fitB q && fitB r)) = k := ⟨_, rfl⟩
  rw [hok] at cr ⊢
  cases ok with
  | false =>
   rw [Bool.false_and]
   obtain ⟨T1, hT1⟩ : ∃ x, resT p = x := ⟨_, rfl⟩
   obtain ⟨T2, hT2⟩ : ∃ x, resT q = x := ⟨_, rfl⟩
   obtain ⟨T3, hT3⟩ : ∃ x, resT r = x := ⟨_, rfl⟩
   rw [hT1, hT2, hT3] at cr
   have C := hid cr
   clear cr hT1 hT2 hT3 hok hval hr0
   go_enter Tryz.func50, Tryz.ntmps50
   obtain ⟨⟨ca0, cb0, cc0, cd0⟩, ⟨ce0, cf0, cg0, ch0⟩, ⟨ci0, cj0, ck0, cl0⟩⟩ := HC.out _ (Below.refl _ _)
   go_wp2_with (rw [HW.out])
   refine (C.out _).mono ?_
   rintro e w1 ⟨rfl, b1⟩
   have P1 := hid (below_up P0.out b1)
   obtain ⟨⟨ca1, cb1, cc1, cd1⟩, ⟨ce1, cf1, cg1, ch1⟩, ⟨ci1, cj1, ck1, cl1⟩⟩ := HC.out _ P1.out
   clear b1 P0 ca0 cb0 cc0 cd0 ce0 cf0 cg0 ch0 ci0 cj0 ck0 cl0 
   go_wp2_with fail
   refine bodyPost_ret (v := .tuple #[.agg #[.string ⟨#[]⟩, .string ⟨#[]⟩], .int .i64 40]) (by simp [results, Tryz.results50, go_sem, ci1, cj1]) rfl ⟨rfl, rat_done B0.out (by omega) P1.out _ _⟩
  | true =>
   rw [Bool.true_and]
   simp only [Bool.and_eq_true] at hok
   obtain ⟨f1, f2, f3⟩ := hok
   rw [(res_yes f1).1, (res_yes f2).1, (res_yes f3).1] at cr
   rw [fitB_iff] at f1 f2 f3
   have cs := fun W => subR_any (textI p) (textI q) (le_of_fits f1) (le_of_fits f2) W
   rw [(op_texts _ f1 f2).1, (op_texts _ f1 f2).2] at cs
   cases f4 : fitB (p - q) with
   | false =>
    rw [(res_no f4).1, (res_no f4).2] at cs
    generalize textI p = TP at *
    generalize textI q = TQ at *
    generalize textI r = TR at *
    have C := hid cr; have CS := hid cs
    clear cr cs f1 f2 f3 f4 hval hr0
    go_enter Tryz.func50, Tryz.ntmps50
    obtain ⟨⟨ca0, cb0, cc0, cd0⟩, ⟨ce0, cf0, cg0, ch0⟩, ⟨ci0, cj0, ck0, cl0⟩⟩ := HC.out _ (Below.refl _ _)
    go_wp2_with (rw [HW.out])
    refine (C.out _).mono ?_
    rintro e w1 ⟨rfl, b1⟩
    have P1 := hid (below_up P0.out b1)
    obtain ⟨⟨ca1, cb1, cc1, cd1⟩, ⟨ce1, cf1, cg1, ch1⟩, ⟨ci1, cj1, ck1, cl1⟩⟩ := HC.out _ P1.out
    clear b1 P0 ca0 cb0 cc0 cd0 ce0 cf0 cg0 ch0 ci0 cj0 ck0 cl0 
    go_wp2_with fail
    refine (CS.out _).mono ?_
    rintro e w2 ⟨rfl, b2⟩
    have P2 := hid (below_up P1.out b2)
    obtain ⟨⟨ca2, cb2, cc2, cd2⟩, ⟨ce2, cf2, cg2, ch2⟩, ⟨ci2, cj2, ck2, cl2⟩⟩ := HC.out _ P2.out
    clear b2 P1 ca1 cb1 cc1 cd1 ce1 cf1 cg1 ch1 ci1 cj1 ck1 cl1 
    go_wp2_with fail
    refine bodyPost_ret (v := .tuple #[.agg #[.string ⟨#[]⟩, .string ⟨#[]⟩], .int .i64 40]) (by simp [results, Tryz.results50, go_sem, ci2, cj2]) rfl ⟨rfl, rat_done B0.out (by omega) P2.out _ _⟩
   | true =>
    rw [(res_yes f4).1, (res_yes f4).2] at cs
    rw [fitB_iff] at f4
    have cm := fun W => makeR4_any (textI (p - q)) (textI r) (le_of_fits f4) (le_of_fits f3) W
    rw [(make_texts f4 f3 hr0).1, (make_texts f4 f3 hr0).2, hval] at cm
    obtain ⟨XN, hXN⟩ : ∃ t, outN true x = t := ⟨_, rfl⟩
    obtain ⟨XD, hXD⟩ : ∃ t, outD true x = t := ⟨_, rfl⟩
    obtain ⟨XE, hXE⟩ : ∃ t, outE true = t := ⟨_, rfl⟩
    rw [hXN, hXD, hXE] at cm ⊢
    generalize textI (p - q) = TS at *
    generalize textI p = TP at *
    generalize textI q = TQ at *
    generalize textI r = TR at *
    have C := hid cr; have CS := hid cs; have CM := hid cm
    clear cr cs cm f1 f2 f3 f4 hval hr0 hXN hXD hXE
    go_enter Tryz.func50, Tryz.ntmps50
    obtain ⟨⟨ca0, cb0, cc0, cd0⟩, ⟨ce0, cf0, cg0, ch0⟩, ⟨ci0, cj0, ck0, cl0⟩⟩ := HC.out _ (Below.refl _ _)
    go_wp2_with (rw [HW.out])
    refine (C.out _).mono ?_
    rintro e w1 ⟨rfl, b1⟩
    have P1 := hid (below_up P0.out b1)
    obtain ⟨⟨ca1, cb1, cc1, cd1⟩, ⟨ce1, cf1, cg1, ch1⟩, ⟨ci1, cj1, ck1, cl1⟩⟩ := HC.out _ P1.out
    clear b1 P0 ca0 cb0 cc0 cd0 ce0 cf0 cg0 ch0 ci0 cj0 ck0 cl0 
    go_wp2_with fail
    refine (CS.out _).mono ?_
    rintro e w2 ⟨rfl, b2⟩
    have P2 := hid (below_up P1.out b2)
    obtain ⟨⟨ca2, cb2, cc2, cd2⟩, ⟨ce2, cf2, cg2, ch2⟩, ⟨ci2, cj2, ck2, cl2⟩⟩ := HC.out _ P2.out
    clear b2 P1 ca1 cb1 cc1 cd1 ce1 cf1 cg1 ch1 ci1 cj1 ck1 cl1 
    go_wp2_with fail
    refine (CM.out _).mono ?_
    rintro e w3 ⟨rfl, b3⟩
    have P3 := hid (below_up P2.out b3)
    obtain ⟨⟨ca3, cb3, cc3, cd3⟩, ⟨ce3, cf3, cg3, ch3⟩, ⟨ci3, cj3, ck3, cl3⟩⟩ := HC.out _ P3.out
    clear b3 P2 ca2 cb2 cc2 cd2 ce2 cf2 cg2 ch2 ci2 cj2 ck2 cl2 
    go_wp2_with fail
    refine bodyPost_ret (v := .tuple #[.agg #[.string XN, .string XD], .int .i64 XE]) (by simp [results, Tryz.results50, go_sem, ci3, cj3]) rfl ⟨rfl, rat_done B0.out (by omega) P3.out _ _⟩
theorem mulR4_any (an ad bn bd : ByteArray) (h1 : an.size ≤ 1099511627776) (h2 : ad.size ≤ 1099511627776) (h3 : bn.size ≤ 1099511627776) (h4 : bd.size ≤ 1099511627776) (w : World) :
 Calls Tryz.prog 53 #[.agg #[.string an, .string ad], .agg #[.string bn, .string bd]] w fun e w' => e = .returned (.tuple #[.agg #[.string (outN (mulB an ad bn bd) (valQ an ad * valQ bn bd)), .string (outD (mulB an ad bn bd) (valQ an ad * valQ bn bd))], .int .i64 (outE (mulB an ad bn bd))]) ∧ Below w.heap.size w w' := by
 obtain ⟨W0, hW0, b0, hcc⟩ := box_three w an ad bn bd ⟨#[]⟩ ⟨#[]⟩
 have HW := hid hW0; have HC := hid hcc; have B0 := hid b0
 have P0 := hid (Below.refl W0.heap.size W0)
 clear hW0 hcc b0
 have va := fun W => validR4_any an ad h1 h2 W
 have vb := fun W => validR4_any bn bd h3 h4 W
 cases e1 : validQ an ad with
 | false =>
  have hb : mulB an ad bn bd = false := by unfold mulB bothB; rw [e1]; rfl
  rw [hb]
  rw [e1] at va
  have VA := hid va; have VB := hid vb
  clear va vb e1 hb
  go_enter Tryz.func53, Tryz.ntmps53
  obtain ⟨⟨ca0, cb0, cc0, cd0⟩, ⟨ce0, cf0, cg0, ch0⟩, ⟨ci0, cj0, ck0, cl0⟩⟩ := HC.out _ (Below.refl _ _)
  go_wp2_with (rw [HW.out])
  refine (VA.out _).mono ?_
  rintro e w1 ⟨rfl, b1⟩
  have P1 := hid (below_up P0.out b1)
  obtain ⟨⟨ca1, cb1, cc1, cd1⟩, ⟨ce1, cf1, cg1, ch1⟩, ⟨ci1, cj1, ck1, cl1⟩⟩ := HC.out _ P1.out
  clear b1 P0 ca0 cb0 cc0 cd0 ce0 cf0 cg0 ch0 ci0 cj0 ck0 cl0 
  go_wp2_with fail
  refine (VB.out _).mono ?_
  rintro e w2 ⟨rfl, b2⟩
  have P2 := hid (below_up P1.out b2)
  obtain ⟨⟨ca2, cb2, cc2, cd2⟩, ⟨ce2, cf2, cg2, ch2⟩, ⟨ci2, cj2, ck2, cl2⟩⟩ := HC.out _ P2.out
  clear b2 P1 ca1 cb1 cc1 cd1 ce1 cf1 cg1 ch1 ci1 cj1 ck1 cl1 
  go_wp2_with fail
  refine bodyPost_ret (v := .tuple #[.agg #[.string ⟨#[]⟩, .string ⟨#[]⟩], .int .i64 40]) (by simp [results, Tryz.results53, go_sem, ci2, cj2]) rfl ⟨rfl, rat_done B0.out (by omega) P2.out _ _⟩
 | true =>
  cases e2 : validQ bn bd with
  | false =>
   have hb : mulB an ad bn bd = false := by unfold mulB bothB; rw [e1, e2]; rfl
   rw [hb]
   rw [e1] at va
   rw [e2] at vb
   have VA := hid va; have VB := hid vb
   clear va vb e1 e2 hb
   go_enter Tryz.func53, Tryz.ntmps53
   obtain ⟨⟨ca0, cb0, cc0, cd0⟩, ⟨ce0, cf0, cg0, ch0⟩, ⟨ci0, cj0, ck0, cl0⟩⟩ := HC.out _ (Below.refl _ _)
   go_wp2_with (rw [HW.out])
   refine (VA.out _).mono ?_
   rintro e w1 ⟨rfl, b1⟩
   have P1 := hid (below_up P0.out b1)
   obtain ⟨⟨ca1, cb1, cc1, cd1⟩, ⟨ce1, cf1, cg1, ch1⟩, ⟨ci1, cj1, ck1, cl1⟩⟩ := HC.out _ P1.out
   clear b1 P0 ca0 cb0 cc0 cd0 ce0 cf0 cg0 ch0 ci0 cj0 ck0 cl0 
   go_wp2_with fail
   refine (VB.out _).mono ?_
   rintro e w2 ⟨rfl, b2⟩
   have P2 := hid (below_up P1.out b2)
   obtain ⟨⟨ca2, cb2, cc2, cd2⟩, ⟨ce2, cf2, cg2, ch2⟩, ⟨ci2, cj2, ck2, cl2⟩⟩ := HC.out _ P2.out
   clear b2 P1 ca1 cb1 cc1 cd1 ce1 cf1 cg1 ch1 ci1 cj1 ck1 cl1 
   go_wp2_with fail
   refine bodyPost_ret (v := .tuple #[.agg #[.string ⟨#[]⟩, .string ⟨#[]⟩], .int .i64 40]) (by simp [results, Tryz.results53, go_sem, ci2, cj2]) rfl ⟨rfl, rat_done B0.out (by omega) P2.out _ _⟩
  | true =>
   obtain ⟨u1, u2, _, _⟩ := validQ_parts e1
   obtain ⟨u3, u4, _, _⟩ := validQ_parts e2
   have n1 := den_ne e1
   have n2 := den_ne e2
   have hval := mul_val an ad bn bd
   have hb : mulB an ad bn bd = (fitB (numB an * numB bn) && fitB (numB ad * numB bd)) := by unfold mulB bothB; rw [e1, e2]; rfl
   rw [hb]
   rw [e1] at va
   rw [e2] at vb
   have c1 := fun W => mulR_any an bn h1 h3 W
   have c2 := fun W => mulR_any ad bd h2 h4 W
   rw [(op_valid _ u1 u3).1, (op_valid _ u1 u3).2] at c1
   rw [(op_valid _ u2 u4).1, (op_valid _ u2 u4).2] at c2
   have hr0 : numB ad * numB bd ≠ 0 := Int.mul_ne_zero n1 n2
   obtain ⟨x, hx⟩ : ∃ x, valQ an ad * valQ bn bd = x := ⟨_, rfl⟩
   obtain ⟨p, hp⟩ : ∃ x, numB an * numB bn = x := ⟨_, rfl⟩
   obtain ⟨q, hq⟩ : ∃ x, numB ad * numB bd = x := ⟨_, rfl⟩
   rw [hx, hp, hq] at hval
   rw [hp] at c1 ⊢
   rw [hq] at c2 hr0 ⊢
   rw [hx]
   clear hp hq hx e1 e2 n1 n2 hb u1 u2 u3 u4
   cases f1 : fitB p with
   | false =>
    rw [(res_no f1).1, (res_no f1).2] at c1
    generalize resZ q = z2 at *
    generalize resT q = T2 at *
    simp only [Bool.false_and]
    clear f1 hval hr0
    have VA := hid va; have VB := hid vb; have C1 := hid c1; have C2 := hid c2
    clear va vb c1 c2
    go_enter Tryz.func53, Tryz.ntmps53
    obtain ⟨⟨ca0, cb0, cc0, cd0⟩, ⟨ce0, cf0, cg0, ch0⟩, ⟨ci0, cj0, ck0, cl0⟩⟩ := HC.out _ (Below.refl _ _)
    go_wp2_with (rw [HW.out])
    refine (VA.out _).mono ?_
    rintro e w1 ⟨rfl, b1⟩
    have P1 := hid (below_up P0.out b1)
    obtain ⟨⟨ca1, cb1, cc1, cd1⟩, ⟨ce1, cf1, cg1, ch1⟩, ⟨ci1, cj1, ck1, cl1⟩⟩ := HC.out _ P1.out
    clear b1 P0 ca0 cb0 cc0 cd0 ce0 cf0 cg0 ch0 ci0 cj0 ck0 cl0 
    go_wp2_with fail
    refine (VB.out _).mono ?_
    rintro e w2 ⟨rfl, b2⟩
    have P2 := hid (below_up P1.out b2)
    obtain ⟨⟨ca2, cb2, cc2, cd2⟩, ⟨ce2, cf2, cg2, ch2⟩, ⟨ci2, cj2, ck2, cl2⟩⟩ := HC.out _ P2.out
    clear b2 P1 ca1 cb1 cc1 cd1 ce1 cf1 cg1 ch1 ci1 cj1 ck1 cl1 
    go_wp2_with fail
    refine (C1.out _).mono ?_
    rintro e w3 ⟨rfl, b3⟩
    have P3 := hid (below_up P2.out b3)
    obtain ⟨⟨ca3, cb3, cc3, cd3⟩, ⟨ce3, cf3, cg3, ch3⟩, ⟨ci3, cj3, ck3, cl3⟩⟩ := HC.out _ P3.out
    clear b3 P2 ca2 cb2 cc2 cd2 ce2 cf2 cg2 ch2 ci2 cj2 ck2 cl2 
    go_wp2_with fail
    refine (C2.out _).mono ?_
    rintro e w4 ⟨rfl, b4⟩
    have P4 := hid (below_up P3.out b4)
    obtain ⟨⟨ca4, cb4, cc4, cd4⟩, ⟨ce4, cf4, cg4, ch4⟩, ⟨ci4, cj4, ck4, cl4⟩⟩ := HC.out _ P4.out
    clear b4 P3 ca3 cb3 cc3 cd3 ce3 cf3 cg3 ch3 ci3 cj3 ck3 cl3 
    go_wp2_with fail
    refine bodyPost_ret (v := .tuple #[.agg #[.string ⟨#[]⟩, .string ⟨#[]⟩], .int .i64 40]) (by simp [results, Tryz.results53, go_sem, ci4, cj4]) rfl ⟨rfl, rat_done B0.out (by omega) P4.out _ _⟩
   | true =>
    rw [(res_yes f1).1, (res_yes f1).2] at c1
    cases f2 : fitB q with
    | false =>
     rw [(res_no f2).1, (res_no f2).2] at c2
     rw [Bool.and_false]
     generalize textI p = T1 at *
     clear f1 f2 hval hr0
     have VA := hid va; have VB := hid vb; have C1 := hid c1; have C2 := hid c2
     clear va vb c1 c2
     go_enter Tryz.func53, Tryz.ntmps53
     obtain ⟨⟨ca0, cb0, cc0, cd0⟩, ⟨ce0, cf0, cg0, ch0⟩, ⟨ci0, cj0, ck0, cl0⟩⟩ := HC.out _ (Below.refl _ _)
     go_wp2_with (rw [HW.out])
     refine (VA.out _).mono ?_
     rintro e w1 ⟨rfl, b1⟩
     have P1 := hid (below_up P0.out b1)
     obtain ⟨⟨ca1, cb1, cc1, cd1⟩, ⟨ce1, cf1, cg1, ch1⟩, ⟨ci1, cj1, ck1, cl1⟩⟩ := HC.out _ P1.out
     clear b1 P0 ca0 cb0 cc0 cd0 ce0 cf0 cg0 ch0 ci0 cj0 ck0 cl0 
     go_wp2_with fail
     refine (VB.out _).mono ?_
     rintro e w2 ⟨rfl, b2⟩
     have P2 := hid (below_up P1.out b2)
     obtain ⟨⟨ca2, cb2, cc2, cd2⟩, ⟨ce2, cf2, cg2, ch2⟩, ⟨ci2, cj2, ck2, cl2⟩⟩ := HC.out _ P2.out
     clear b2 P1 ca1 cb1 cc1 cd1 ce1 cf1 cg1 ch1 ci1 cj1 ck1 cl1 
     go_wp2_with fail
     refine (C1.out _).mono ?_
     rintro e w3 ⟨rfl, b3⟩
     have P3 := hid (below_up P2.out b3)
     obtain ⟨⟨ca3, cb3, cc3, cd3⟩, ⟨ce3, cf3, cg3, ch3⟩, ⟨ci3, cj3, ck3, cl3⟩⟩ := HC.out _ P3.out
     clear b3 P2 ca2 cb2 cc2 cd2 ce2 cf2 cg2 ch2 ci2 cj2 ck2 cl2 
     go_wp2_with fail
     refine (C2.out _).mono ?_
     rintro e w4 ⟨rfl, b4⟩
     have P4 := hid (below_up P3.out b4)
     obtain ⟨⟨ca4, cb4, cc4, cd4⟩, ⟨ce4, cf4, cg4, ch4⟩, ⟨ci4, cj4, ck4, cl4⟩⟩ := HC.out _ P4.out
     clear b4 P3 ca3 cb3 cc3 cd3 ce3 cf3 cg3 ch3 ci3 cj3 ck3 cl3 
     go_wp2_with fail
     refine bodyPost_ret (v := .tuple #[.agg #[.string ⟨#[]⟩, .string ⟨#[]⟩], .int .i64 40]) (by simp [results, Tryz.results53, go_sem, ci4, cj4]) rfl ⟨rfl, rat_done B0.out (by omega) P4.out _ _⟩
    | true =>
     rw [(res_yes f2).1, (res_yes f2).2] at c2
     rw [fitB_iff] at f1 f2
     have cm := fun W => makeR4_any (textI p) (textI q) (le_of_fits f1) (le_of_fits f2) W
     simp only [Bool.true_and]
     rw [(make_texts f1 f2 hr0).1, (make_texts f1 f2 hr0).2, hval] at cm
     obtain ⟨XN, hXN⟩ : ∃ t, outN true x = t := ⟨_, rfl⟩
     obtain ⟨XD, hXD⟩ : ∃ t, outD true x = t := ⟨_, rfl⟩
     obtain ⟨XE, hXE⟩ : ∃ t, outE true = t := ⟨_, rfl⟩
     rw [hXN, hXD, hXE] at cm ⊢
     generalize textI p = T1 at *
     generalize textI q = T2 at *
     have CM := hid cm
     clear cm f1 f2 hval hr0 hXN hXD hXE
     have VA := hid va; have VB := hid vb; have C1 := hid c1; have C2 := hid c2
     clear va vb c1 c2
     go_enter Tryz.func53, Tryz.ntmps53
     obtain ⟨⟨ca0, cb0, cc0, cd0⟩, ⟨ce0, cf0, cg0, ch0⟩, ⟨ci0, cj0, ck0, cl0⟩⟩ := HC.out _ (Below.refl _ _)
     go_wp2_with (rw [HW.out])
     refine (VA.out _).mono ?_
     rintro e w1 ⟨rfl, b1⟩
     have P1 := hid (below_up P0.out b1)
     obtain ⟨⟨ca1, cb1, cc1, cd1⟩, ⟨ce1, cf1, cg1, ch1⟩, ⟨ci1, cj1, ck1, cl1⟩⟩ := HC.out _ P1.out
     clear b1 P0 ca0 cb0 cc0 cd0 ce0 cf0 cg0 ch0 ci0 cj0 ck0 cl0 
     go_wp2_with fail
     refine (VB.out _).mono ?_
     rintro e w2 ⟨rfl, b2⟩
     have P2 := hid (below_up P1.out b2)
     obtain ⟨⟨ca2, cb2, cc2, cd2⟩, ⟨ce2, cf2, cg2, ch2⟩, ⟨ci2, cj2, ck2, cl2⟩⟩ := HC.out _ P2.out
     clear b2 P1 ca1 cb1 cc1 cd1 ce1 cf1 cg1 ch1 ci1 cj1 ck1 cl1 
     go_wp2_with fail
     refine (C1.out _).mono ?_
     rintro e w3 ⟨rfl, b3⟩
     have P3 := hid (below_up P2.out b3)
     obtain ⟨⟨ca3, cb3, cc3, cd3⟩, ⟨ce3, cf3, cg3, ch3⟩, ⟨ci3, cj3, ck3, cl3⟩⟩ := HC.out _ P3.out
     clear b3 P2 ca2 cb2 cc2 cd2 ce2 cf2 cg2 ch2 ci2 cj2 ck2 cl2 
     go_wp2_with fail
     refine (C2.out _).mono ?_
     rintro e w4 ⟨rfl, b4⟩
     have P4 := hid (below_up P3.out b4)
     obtain ⟨⟨ca4, cb4, cc4, cd4⟩, ⟨ce4, cf4, cg4, ch4⟩, ⟨ci4, cj4, ck4, cl4⟩⟩ := HC.out _ P4.out
     clear b4 P3 ca3 cb3 cc3 cd3 ce3 cf3 cg3 ch3 ci3 cj3 ck3 cl3 
     go_wp2_with fail
     refine (CM.out _).mono ?_
     rintro e w5 ⟨rfl, b5⟩
     have P5 := hid (below_up P4.out b5)
     obtain ⟨⟨ca5, cb5, cc5, cd5⟩, ⟨ce5, cf5, cg5, ch5⟩, ⟨ci5, cj5, ck5, cl5⟩⟩ := HC.out _ P5.out
     clear b5 P4 ca4 cb4 cc4 cd4 ce4 cf4 cg4 ch4 ci4 cj4 ck4 cl4 
     go_wp2_with fail
     refine bodyPost_ret (v := .tuple #[.agg #[.string XN, .string XD], .int .i64 XE]) (by simp [results, Tryz.results53, go_sem, ci5, cj5]) rfl ⟨rfl, rat_done B0.out (by omega) P5.out _ _⟩
theorem divR4_any (an ad bn bd : ByteArray) (h1 : an.size ≤ 1099511627776) (h2 : ad.size ≤ 1099511627776) (h3 : bn.size ≤ 1099511627776) (h4 : bd.size ≤ 1099511627776) (w : World) :
 Calls Tryz.prog 57 #[.agg #[.string an, .string ad], .agg #[.string bn, .string bd]] w fun e w' => e = .returned (.tuple #[.agg #[.string (outN (divB an ad bn bd) (valQ an ad / valQ bn bd)), .string (outD (divB an ad bn bd) (valQ an ad / valQ bn bd))], .int .i64 (outE (divB an ad bn bd))]) ∧ Below w.heap.size w w' := by
 obtain ⟨W0, hW0, b0, hcc⟩ := box_three w an ad bn bd ⟨#[]⟩ ⟨#[]⟩
 have HW := hid hW0; have HC := hid hcc; have B0 := hid b0
 have P0 := hid (Below.refl W0.heap.size W0)
 clear hW0 hcc b0
 have va := fun W => validR4_any an ad h1 h2 W
 have vb := fun W => validR4_any bn bd h3 h4 W
 cases e1 : validQ an ad with
 | false =>
  have hb : divB an ad bn bd = false := by unfold divB bothB; rw [e1]; rfl
  rw [hb]
  rw [e1] at va
  have VA := hid va; have VB := hid vb
  clear va vb e1 hb
  go_enter Tryz.func57, Tryz.ntmps57
  obtain ⟨⟨ca0, cb0, cc0, cd0⟩, ⟨ce0, cf0, cg0, ch0⟩, ⟨ci0, cj0, ck0, cl0⟩⟩ := HC.out _ (Below.refl _ _)
  go_wp2_with (rw [HW.out])
  refine (VA.out _).mono ?_
  rintro e w1 ⟨rfl, b1⟩
  have P1 := hid (below_up P0.out b1)
  obtain ⟨⟨ca1, cb1, cc1, cd1⟩, ⟨ce1, cf1, cg1, ch1⟩, ⟨ci1, cj1, ck1, cl1⟩⟩ := HC.out _ P1.out
  clear b1 P0 ca0 cb0 cc0 cd0 ce0 cf0 cg0 ch0 ci0 cj0 ck0 cl0 
  go_wp2_with fail
  refine (VB.out _).mono ?_
  rintro e w2 ⟨rfl, b2⟩
  have P2 := hid (below_up P1.out b2)
  obtain ⟨⟨ca2, cb2, cc2, cd2⟩, ⟨ce2, cf2, cg2, ch2⟩, ⟨ci2, cj2, ck2, cl2⟩⟩ := HC.out _ P2.out
  clear b2 P1 ca1 cb1 cc1 cd1 ce1 cf1 cg1 ch1 ci1 cj1 ck1 cl1 
  go_wp2_with fail
  refine bodyPost_ret (v := .tuple #[.agg #[.string ⟨#[]⟩, .string ⟨#[]⟩], .int .i64 40]) (by simp [results, Tryz.results57, go_sem, ci2, cj2]) rfl ⟨rfl, rat_done B0.out (by omega) P2.out _ _⟩
 | true =>
  cases e2 : validQ bn bd with
  | false =>
   have hb : divB an ad bn bd = false := by unfold divB bothB; rw [e1, e2]; rfl
   rw [hb]
   rw [e1] at va
   rw [e2] at vb
   have VA := hid va; have VB := hid vb
   clear va vb e1 e2 hb
   go_enter Tryz.func57, Tryz.ntmps57
   obtain ⟨⟨ca0, cb0, cc0, cd0⟩, ⟨ce0, cf0, cg0, ch0⟩, ⟨ci0, cj0, ck0, cl0⟩⟩ := HC.out _ (Below.refl _ _)
   go_wp2_with (rw [HW.out])
   refine (VA.out _).mono ?_
   rintro e w1 ⟨rfl, b1⟩
   have P1 := hid (below_up P0.out b1)
   obtain ⟨⟨ca1, cb1, cc1, cd1⟩, ⟨ce1, cf1, cg1, ch1⟩, ⟨ci1, cj1, ck1, cl1⟩⟩ := HC.out _ P1.out
   clear b1 P0 ca0 cb0 cc0 cd0 ce0 cf0 cg0 ch0 ci0 cj0 ck0 cl0 
   go_wp2_with fail
   refine (VB.out _).mono ?_
   rintro e w2 ⟨rfl, b2⟩
   have P2 := hid (below_up P1.out b2)
   obtain ⟨⟨ca2, cb2, cc2, cd2⟩, ⟨ce2, cf2, cg2, ch2⟩, ⟨ci2, cj2, ck2, cl2⟩⟩ := HC.out _ P2.out
   clear b2 P1 ca1 cb1 cc1 cd1 ce1 cf1 cg1 ch1 ci1 cj1 ck1 cl1 
   go_wp2_with fail
   refine bodyPost_ret (v := .tuple #[.agg #[.string ⟨#[]⟩, .string ⟨#[]⟩], .int .i64 40]) (by simp [results, Tryz.results57, go_sem, ci2, cj2]) rfl ⟨rfl, rat_done B0.out (by omega) P2.out _ _⟩
  | true =>
   obtain ⟨u1, u2, _, _⟩ := validQ_parts e1
   obtain ⟨u3, u4, _, _⟩ := validQ_parts e2
   have n1 := den_ne e1
   have n2 := den_ne e2
   have hval := div_val an ad bn bd
   have hb : divB an ad bn bd = ((fitB (numB an * numB bd) && fitB (numB ad * numB bn)) && decide (numB bn ≠ 0)) := by unfold divB bothB; rw [e1, e2]; rfl
   rw [hb]
   rw [e1] at va
   rw [e2] at vb
   have c1 := fun W => mulR_any an bd h1 h4 W
   have c2 := fun W => mulR_any ad bn h2 h3 W
   rw [(op_valid _ u1 u4).1, (op_valid _ u1 u4).2] at c1
   rw [(op_valid _ u2 u3).1, (op_valid _ u2 u3).2] at c2
   have hr0 : numB ad * numB bn = 0 ↔ numB bn = 0 := by rw [Int.mul_eq_zero]; exact ⟨fun h => h.resolve_left n1, Or.inr⟩
   obtain ⟨nz, hnz⟩ : ∃ k, decide (numB bn ≠ 0) = k := ⟨_, rfl⟩
   rw [hnz]
   have hr1 : nz = true ↔ numB ad * numB bn ≠ 0 := by rw [← hnz, decide_eq_true_iff, ne_eq, ne_eq, hr0]
   obtain ⟨x, hx⟩ : ∃ x, valQ an ad / valQ bn bd = x := ⟨_, rfl⟩
   obtain ⟨p, hp⟩ : ∃ x, numB an * numB bd = x := ⟨_, rfl⟩
   obtain ⟨q, hq⟩ : ∃ x, numB ad * numB bn = x := ⟨_, rfl⟩
   rw [hx, hp, hq] at hval
   rw [hp] at c1 ⊢
   rw [hq] at c2 hr1 ⊢
   rw [hx]
   clear hp hq hx e1 e2 n1 n2 hb u1 u2 u3 u4
   clear hr0 hnz
   cases f1 : fitB p with
   | false =>
    rw [(res_no f1).1, (res_no f1).2] at c1
    generalize resZ q = z2 at *
    generalize resT q = T2 at *
    simp only [Bool.false_and]
    clear f1 hval hr1
    have VA := hid va; have VB := hid vb; have C1 := hid c1; have C2 := hid c2
    clear va vb c1 c2
    go_enter Tryz.func57, Tryz.ntmps57
    obtain ⟨⟨ca0, cb0, cc0, cd0⟩, ⟨ce0, cf0, cg0, ch0⟩, ⟨ci0, cj0, ck0, cl0⟩⟩ := HC.out _ (Below.refl _ _)
    go_wp2_with (rw [HW.out])
    refine (VA.out _).mono ?_
    rintro e w1 ⟨rfl, b1⟩
    have P1 := hid (below_up P0.out b1)
    obtain ⟨⟨ca1, cb1, cc1, cd1⟩, ⟨ce1, cf1, cg1, ch1⟩, ⟨ci1, cj1, ck1, cl1⟩⟩ := HC.out _ P1.out
    clear b1 P0 ca0 cb0 cc0 cd0 ce0 cf0 cg0 ch0 ci0 cj0 ck0 cl0 
    go_wp2_with fail
    refine (VB.out _).mono ?_
    rintro e w2 ⟨rfl, b2⟩
    have P2 := hid (below_up P1.out b2)
    obtain ⟨⟨ca2, cb2, cc2, cd2⟩, ⟨ce2, cf2, cg2, ch2⟩, ⟨ci2, cj2, ck2, cl2⟩⟩ := HC.out _ P2.out
    clear b2 P1 ca1 cb1 cc1 cd1 ce1 cf1 cg1 ch1 ci1 cj1 ck1 cl1 
    go_wp2_with fail
    refine (C1.out _).mono ?_
    rintro e w3 ⟨rfl, b3⟩
    have P3 := hid (below_up P2.out b3)
    obtain ⟨⟨ca3, cb3, cc3, cd3⟩, ⟨ce3, cf3, cg3, ch3⟩, ⟨ci3, cj3, ck3, cl3⟩⟩ := HC.out _ P3.out
    clear b3 P2 ca2 cb2 cc2 cd2 ce2 cf2 cg2 ch2 ci2 cj2 ck2 cl2 
    go_wp2_with fail
    refine (C2.out _).mono ?_
    rintro e w4 ⟨rfl, b4⟩
    have P4 := hid (below_up P3.out b4)
    obtain ⟨⟨ca4, cb4, cc4, cd4⟩, ⟨ce4, cf4, cg4, ch4⟩, ⟨ci4, cj4, ck4, cl4⟩⟩ := HC.out _ P4.out
    clear b4 P3 ca3 cb3 cc3 cd3 ce3 cf3 cg3 ch3 ci3 cj3 ck3 cl3 
    go_wp2_with fail
    refine bodyPost_ret (v := .tuple #[.agg #[.string ⟨#[]⟩, .string ⟨#[]⟩], .int .i64 40]) (by simp [results, Tryz.results57, go_sem, ci4, cj4]) rfl ⟨rfl, rat_done B0.out (by omega) P4.out _ _⟩
   | true =>
    rw [(res_yes f1).1, (res_yes f1).2] at c1
    cases f2 : fitB q with
    | false =>
     rw [(res_no f2).1, (res_no f2).2] at c2
     rw [Bool.and_false, Bool.false_and]
     generalize textI p = T1 at *
     clear f1 f2 hval hr1
     have VA := hid va; have VB := hid vb; have C1 := hid c1; have C2 := hid c2
     clear va vb c1 c2
     go_enter Tryz.func57, Tryz.ntmps57
     obtain ⟨⟨ca0, cb0, cc0, cd0⟩, ⟨ce0, cf0, cg0, ch0⟩, ⟨ci0, cj0, ck0, cl0⟩⟩ := HC.out _ (Below.refl _ _)
     go_wp2_with (rw [HW.out])
     refine (VA.out _).mono ?_
     rintro e w1 ⟨rfl, b1⟩
     have P1 := hid (below_up P0.out b1)
     obtain ⟨⟨ca1, cb1, cc1, cd1⟩, ⟨ce1, cf1, cg1, ch1⟩, ⟨ci1, cj1, ck1, cl1⟩⟩ := HC.out _ P1.out
     clear b1 P0 ca0 cb0 cc0 cd0 ce0 cf0 cg0 ch0 ci0 cj0 ck0 cl0 
     go_wp2_with fail
     refine (VB.out _).mono ?_
     rintro e w2 ⟨rfl, b2⟩
     have P2 := hid (below_up P1.out b2)
     obtain ⟨⟨ca2, cb2, cc2, cd2⟩, ⟨ce2, cf2, cg2, ch2⟩, ⟨ci2, cj2, ck2, cl2⟩⟩ := HC.out _ P2.out
     clear b2 P1 ca1 cb1 cc1 cd1 ce1 cf1 cg1 ch1 ci1 cj1 ck1 cl1 
     go_wp2_with fail
     refine (C1.out _).mono ?_
     rintro e w3 ⟨rfl, b3⟩
     have P3 := hid (below_up P2.out b3)
     obtain ⟨⟨ca3, cb3, cc3, cd3⟩, ⟨ce3, cf3, cg3, ch3⟩, ⟨ci3, cj3, ck3, cl3⟩⟩ := HC.out _ P3.out
     clear b3 P2 ca2 cb2 cc2 cd2 ce2 cf2 cg2 ch2 ci2 cj2 ck2 cl2 
     go_wp2_with fail
     refine (C2.out _).mono ?_
     rintro e w4 ⟨rfl, b4⟩
     have P4 := hid (below_up P3.out b4)
     obtain ⟨⟨ca4, cb4, cc4, cd4⟩, ⟨ce4, cf4, cg4, ch4⟩, ⟨ci4, cj4, ck4, cl4⟩⟩ := HC.out _ P4.out
     clear b4 P3 ca3 cb3 cc3 cd3 ce3 cf3 cg3 ch3 ci3 cj3 ck3 cl3 
     go_wp2_with fail
     refine bodyPost_ret (v := .tuple #[.agg #[.string ⟨#[]⟩, .string ⟨#[]⟩], .int .i64 40]) (by simp [results, Tryz.results57, go_sem, ci4, cj4]) rfl ⟨rfl, rat_done B0.out (by omega) P4.out _ _⟩
    | true =>
     rw [(res_yes f2).1, (res_yes f2).2] at c2
     rw [fitB_iff] at f1 f2
     have cm := fun W => makeR4_any (textI p) (textI q) (le_of_fits f1) (le_of_fits f2) W
     simp only [Bool.true_and]
     have hmk : makeB (textI p) (textI q) = nz := by
      unfold makeB
      rw [(valid_text f1).1, (valid_text f2).1, (valid_text f2).2, Bool.true_and, Bool.true_and]
      cases nz with
      | true => rw [decide_eq_true (hr1.1 rfl)]
      | false => rw [decide_eq_false (fun h => by have := hr1.2 h; cases this)]
     have hvq : valQ (textI p) (textI q) = x := by
      unfold valQ
      rw [(valid_text f1).2, (valid_text f2).2, hval]
     rw [hmk, hvq] at cm
     obtain ⟨XN, hXN⟩ : ∃ t, outN nz x = t := ⟨_, rfl⟩
     obtain ⟨XD, hXD⟩ : ∃ t, outD nz x = t := ⟨_, rfl⟩
     obtain ⟨XE, hXE⟩ : ∃ t, outE nz = t := ⟨_, rfl⟩
     rw [hXN, hXD, hXE] at cm ⊢
     clear hmk hvq
     generalize textI p = T1 at *
     generalize textI q = T2 at *
     have CM := hid cm
     clear cm f1 f2 hval hr1 hXN hXD hXE
     have VA := hid va; have VB := hid vb; have C1 := hid c1; have C2 := hid c2
     clear va vb c1 c2
     go_enter Tryz.func57, Tryz.ntmps57
     obtain ⟨⟨ca0, cb0, cc0, cd0⟩, ⟨ce0, cf0, cg0, ch0⟩, ⟨ci0, cj0, ck0, cl0⟩⟩ := HC.out _ (Below.refl _ _)
     go_wp2_with (rw [HW.out])
     refine (VA.out _).mono ?_
     rintro e w1 ⟨rfl, b1⟩
     have P1 := hid (below_up P0.out b1)
     obtain ⟨⟨ca1, cb1, cc1, cd1⟩, ⟨ce1, cf1, cg1, ch1⟩, ⟨ci1, cj1, ck1, cl1⟩⟩ := HC.out _ P1.out
     clear b1 P0 ca0 cb0 cc0 cd0 ce0 cf0 cg0 ch0 ci0 cj0 ck0 cl0 
     go_wp2_with fail
     refine (VB.out _).mono ?_
     rintro e w2 ⟨rfl, b2⟩
     have P2 := hid (below_up P1.out b2)
     obtain ⟨⟨ca2, cb2, cc2, cd2⟩, ⟨ce2, cf2, cg2, ch2⟩, ⟨ci2, cj2, ck2, cl2⟩⟩ := HC.out _ P2.out
     clear b2 P1 ca1 cb1 cc1 cd1 ce1 cf1 cg1 ch1 ci1 cj1 ck1 cl1 
     go_wp2_with fail
     refine (C1.out _).mono ?_
     rintro e w3 ⟨rfl, b3⟩
     have P3 := hid (below_up P2.out b3)
     obtain ⟨⟨ca3, cb3, cc3, cd3⟩, ⟨ce3, cf3, cg3, ch3⟩, ⟨ci3, cj3, ck3, cl3⟩⟩ := HC.out _ P3.out
     clear b3 P2 ca2 cb2 cc2 cd2 ce2 cf2 cg2 ch2 ci2 cj2 ck2 cl2 
     go_wp2_with fail
     refine (C2.out _).mono ?_
     rintro e w4 ⟨rfl, b4⟩
     have P4 := hid (below_up P3.out b4)
     obtain ⟨⟨ca4, cb4, cc4, cd4⟩, ⟨ce4, cf4, cg4, ch4⟩, ⟨ci4, cj4, ck4, cl4⟩⟩ := HC.out _ P4.out
     clear b4 P3 ca3 cb3 cc3 cd3 ce3 cf3 cg3 ch3 ci3 cj3 ck3 cl3 
     go_wp2_with fail
     refine (CM.out _).mono ?_
     rintro e w5 ⟨rfl, b5⟩
     have P5 := hid (below_up P4.out b5)
     obtain ⟨⟨ca5, cb5, cc5, cd5⟩, ⟨ce5, cf5, cg5, ch5⟩, ⟨ci5, cj5, ck5, cl5⟩⟩ := HC.out _ P5.out
     clear b5 P4 ca4 cb4 cc4 cd4 ce4 cf4 cg4 ch4 ci4 cj4 ck4 cl4 
     go_wp2_with fail
     refine bodyPost_ret (v := .tuple #[.agg #[.string XN, .string XD], .int .i64 XE]) (by simp [results, Tryz.results57, go_sem, ci5, cj5]) rfl ⟨rfl, rat_done B0.out (by omega) P5.out _ _⟩
end Go.Proofs.YtcglcgphgahnpaaGreatDoor
namespace Go.Proofs.YtcglcgphgahnpaaGreatDoor
theorem one_fits : Fits 1 := by unfold Fits; exact Nat.one_lt_pow (by decide) (by decide)
end Go.Proofs.YtcglcgphgahnpaaGreatDoor
namespace Go.Proofs.YtcglcgphgahnpaaGreatDoor
open Go Go.Proofs Go.RowKit Go.Lib
theorem zOr_fits (x : Int) : Fits (zOr x) := by
 unfold zOr
 split
 · unfold Fits; exact Nat.pos_of_ne_zero (by decide)
 exact one_fits
theorem cmp_next {n d m c s R : Int} (h : CmpInv n d m c s R) (hz : n / d = m / c) (hr : n % d ≠ 0) (ht : m % c ≠ 0) : CmpInv d (n % d) c (m % c) (-s) R ∧ (n % d).natAbs < d.natAbs := by
 obtain ⟨h1, h2, h3, h4, h5, h6, h7, h8⟩ := h
 have p1 := Int.emod_nonneg n (show d ≠ 0 by omega)
 have p2 := Int.emod_nonneg m (show c ≠ 0 by omega)
 have p3 := Int.emod_lt_of_pos n h5
 refine ⟨⟨h2, rem_fits h2 h5, h4, rem_fits h4 h6, by omega, by omega, by omega, ?_⟩, by omega⟩
 rw [whole_eq hz, rest_flip, Int.mul_neg] at h8
 rw [Int.neg_mul]
 exact h8
theorem zeroOr_any (x : Int) (w : World) : Calls Tryz.prog 98 #[.string (textI x)] w fun e w' => e = .returned (.string (textI (zOr x))) ∧ w' = w := by
 have h := text_is0 x
 by_cases hx : x = 0
 · have e : textI (zOr x) = textI x := by unfold zOr; rw [if_pos hx, hx]
   rw [e]
   rw [decide_eq_true hx] at h
   generalize textI x = T at *
   clear hx e
   go_enter Tryz.func98, Tryz.ntmps98
   go_wp2
   go_ret
   exact ⟨rfl, rfl⟩
 have e : textI (zOr x) = ⟨#[49]⟩ := by unfold zOr; rw [if_neg hx]; decide +kernel
 rw [e]
 rw [decide_eq_false hx] at h
 generalize textI x = T at *
 clear hx e
 go_enter Tryz.func98, Tryz.ntmps98
 go_wp2
 go_ret
 exact ⟨rfl, rfl⟩
theorem cmpR4_any (an ad bn bd : ByteArray) (h1 : an.size ≤ 1099511627776) (h2 : ad.size ≤ 1099511627776) (h3 : bn.size ≤ 1099511627776) (h4 : bd.size ≤ 1099511627776) (w : World) :
 Calls Tryz.prog 60 #[.agg #[.string an, .string ad], .agg #[.string bn, .string bd]] w fun e w' => e = .returned (.int .i64 (cmpQ an ad bn bd)) ∧ Below w.heap.size w w' := by
 obtain ⟨W0, hW0, b0, hcc⟩ := box_two w an ad bn bd
 have HW := hid hW0; have HC := hid hcc; have B0 := hid b0
 have P0 := hid (Below.refl W0.heap.size W0)
 clear hW0 hcc b0
 have va := fun W => validR4_any an ad h1 h2 W
 have vb := fun W => validR4_any bn bd h3 h4 W
 cases hv : bothB an ad bn bd with
 | false =>
  have hb : cmpQ an ad bn bd = 0 := by unfold cmpQ; rw [hv]; rfl
  rw [hb]
  unfold bothB at hv
  cases e1 : validQ an ad with
  | false =>
   rw [e1] at va
   have VA := hid va; have VB := hid vb
   clear va vb e1 hv hb
   go_enter Tryz.func60, Tryz.ntmps60
   obtain ⟨⟨ca0, cb0, cc0, cd0⟩, ⟨ce0, cf0, cg0, ch0⟩⟩ := HC.out _ (Below.refl _ _)
   go_wp2_with (rw [HW.out])
   refine (VA.out _).mono ?_
   rintro e w1 ⟨rfl, b1⟩
   have P1 := hid (below_up P0.out b1)
   obtain ⟨⟨ca1, cb1, cc1, cd1⟩, ⟨ce1, cf1, cg1, ch1⟩⟩ := HC.out _ P1.out
   clear b1 P0 ca0 cb0 cc0 cd0 ce0 cf0 cg0 ch0 
   go_wp2_with fail
   refine (VB.out _).mono ?_
   rintro e w2 ⟨rfl, b2⟩
   have P2 := hid (below_up P1.out b2)
   obtain ⟨⟨ca2, cb2, cc2, cd2⟩, ⟨ce2, cf2, cg2, ch2⟩⟩ := HC.out _ P2.out
   clear b2 P1 ca1 cb1 cc1 cd1 ce1 cf1 cg1 ch1 
   go_wp2
   go_ret
   exact ⟨rfl, below_up B0.out P2.out⟩
  | true =>
   rw [e1, Bool.true_and] at hv
   rw [e1] at va
   rw [hv] at vb
   have VA := hid va; have VB := hid vb
   clear va vb e1 hv hb
   go_enter Tryz.func60, Tryz.ntmps60
   obtain ⟨⟨ca0, cb0, cc0, cd0⟩, ⟨ce0, cf0, cg0, ch0⟩⟩ := HC.out _ (Below.refl _ _)
   go_wp2_with (rw [HW.out])
   refine (VA.out _).mono ?_
   rintro e w1 ⟨rfl, b1⟩
   have P1 := hid (below_up P0.out b1)
   obtain ⟨⟨ca1, cb1, cc1, cd1⟩, ⟨ce1, cf1, cg1, ch1⟩⟩ := HC.out _ P1.out
   clear b1 P0 ca0 cb0 cc0 cd0 ce0 cf0 cg0 ch0 
   go_wp2_with fail
   refine (VB.out _).mono ?_
   rintro e w2 ⟨rfl, b2⟩
   have P2 := hid (below_up P1.out b2)
   obtain ⟨⟨ca2, cb2, cc2, cd2⟩, ⟨ce2, cf2, cg2, ch2⟩⟩ := HC.out _ P2.out
   clear b2 P1 ca1 cb1 cc1 cd1 ce1 cf1 cg1 ch1 
   go_wp2
   go_ret
   exact ⟨rfl, below_up B0.out P2.out⟩
 | true =>
  have hinv := cmpInv_start hv
  obtain ⟨v1, v2⟩ := both_parts hv
  obtain ⟨u1, u2, _, _⟩ := validQ_parts v1
  obtain ⟨u3, u4, _, _⟩ := validQ_parts v2
  rw [v1] at va
  rw [v2] at vb
  have HS := hid (show CmpInv (numB an) (numB ad) (numB bn) (numB bd) 1 (cmpQ an ad bn bd) ∧ an = textI (numB an) ∧ ad = textI (numB ad) ∧ bn = textI (numB bn) ∧ bd = textI (numB bd) from ⟨hinv, (text_valid u1).2, (text_valid u2).2, (text_valid u3).2, (text_valid u4).2⟩)
  generalize cmpQ an ad bn bd = R at *
  have VA := hid va; have VB := hid vb
  clear va vb hinv v1 v2 u1 u2 u3 u4 hv h1 h2 h3 h4
  go_enter Tryz.func60, Tryz.ntmps60
  obtain ⟨⟨ca0, cb0, cc0, cd0⟩, ⟨ce0, cf0, cg0, ch0⟩⟩ := HC.out _ (Below.refl _ _)
  go_wp2_with (rw [HW.out])
  refine (VA.out _).mono ?_
  rintro e w1 ⟨rfl, b1⟩
  have P1 := hid (below_up P0.out b1)
  obtain ⟨⟨ca1, cb1, cc1, cd1⟩, ⟨ce1, cf1, cg1, ch1⟩⟩ := HC.out _ P1.out
  clear b1 P0 ca0 cb0 cc0 cd0 ce0 cf0 cg0 ch0 
  go_wp2_with fail
  refine (VB.out _).mono ?_
  rintro e w2 ⟨rfl, b2⟩
  have P2 := hid (below_up P1.out b2)
  obtain ⟨⟨ca2, cb2, cc2, cd2⟩, ⟨ce2, cf2, cg2, ch2⟩⟩ := HC.out _ P2.out
  clear b2 P1 ca1 cb1 cc1 cd1 ce1 cf1 cg1 ch1 
  go_wp2_with fail
  clear ca2 cb2 cc2 cd2 ce2 cf2 cg2 ch2
  go_loopw [7, 8, 9, 10, 11] (fun sg vn vd vm vc wr => ∃ n d m c s : Int, sg = .int .i64 s ∧ vn = .string (textI n) ∧ vd = .string (textI d) ∧ vm = .string (textI m) ∧ vc = .string (textI c) ∧ Hid (CmpInv n d m c s R) ∧ Hid (Below W0.heap.size W0 wr)) (fun _ _ vd _ _ _ => (numB (strOfV vd)).natAbs)
  case atStart => exact ⟨numB an, numB ad, numB bn, numB bd, 1, rfl, by rw [← HS.out.2.1], by rw [← HS.out.2.2.1], by rw [← HS.out.2.2.2.1], by rw [← HS.out.2.2.2.2], HS.out.1, P2.out⟩
  obtain ⟨n, d, m, c, s, rfl, rfl, rfl, rfl, rfl, hinv, hbr⟩ := hrel
  have hi := hinv.out
  obtain ⟨f1, f2, f3, f4, pd, pc, hs, _⟩ := hi
  obtain ⟨q1, q2⟩ := div_texts f1 f2 (by omega)
  have q3 := rem_text f1 f2 (by omega)
  obtain ⟨r1, r2⟩ := div_texts f3 f4 (by omega)
  have r3 := rem_text f3 f4 (by omega)
  have ca := fun W => divR_any (textI n) (textI d) (le_of_fits f1) (le_of_fits f2) W
  have cb := fun W => divR_any (textI m) (textI c) (le_of_fits f3) (le_of_fits f4) W
  have cc := fun W => cmpR_any (textI (n / d)) (textI (m / c)) (le_of_fits (quot_fit f1)) (le_of_fits (quot_fit f3)) W
  rw [q1, q2, q3] at ca
  rw [r1, r2, r3] at cb
  rw [cmp_texts (quot_fit f1) (quot_fit f3)] at cc
  have hn0 := text_is0 (n % d)
  have ht0 := text_is0 (m % c)
  have hw := cmp_whole hinv.out
  have he := cmp_end hinv.out
  have hx := cmp_next hinv.out
  have hdn := (valid_text f2).2
  have cz := fun W => zeroOr_any (n % d) W
  have cy := fun W => zeroOr_any (m % c) W
  have ck := fun W => cmpR_any (textI (zOr (n % d))) (textI (zOr (m % c))) (le_of_fits (zOr_fits _)) (le_of_fits (zOr_fits _)) W
  rw [cmp_texts (zOr_fits _) (zOr_fits _)] at ck
  have hrn := (valid_text (rem_fits (x := n) f2 pd)).2
  clear q1 q2 q3 r1 r2 r3 f1 f2 f3 f4 pd pc hinv
  generalize n / d = Q1 at *
  generalize m / c = Q2 at *
  have HDN := hid hdn; have HRN := hid hrn
  clear hdn hrn
  have CA := hid ca; have CB := hid cb; have CC := hid cc; have CZ := hid cz; have CY := hid cy; have CK := hid ck; have HX := hid hx
  clear ca cb cc cz cy ck hx
  rcases sgZ_cases Q1 Q2 with ⟨hz, hl⟩ | ⟨hz, hl⟩ | ⟨hz, hl⟩
  · have hr := hw (by omega)
    rw [hz] at hr CC
    have HRR := hid hr
    clear hr hw he hz hl hn0 ht0
    rcases hs with rfl | rfl
    · go_wp2_with fail
      refine (CA.out _).mono ?_
      rintro e wa ⟨rfl, ba⟩
      go_wp2_with fail
      refine (CB.out _).mono ?_
      rintro e wb ⟨rfl, bb⟩
      go_wp2_with fail
      refine (CC.out _).mono ?_
      rintro e wc ⟨rfl, bc⟩
      have HB := hid (below_up hbr.out (below_up ba (below_up bb bc)))
      clear ba bb bc
      go_wp2_with fail
      go_ret
      exact ⟨by rw [← HRR.out]; rfl, below_up B0.out HB.out⟩
    go_wp2_with fail
    refine (CA.out _).mono ?_
    rintro e wa ⟨rfl, ba⟩
    go_wp2_with fail
    refine (CB.out _).mono ?_
    rintro e wb ⟨rfl, bb⟩
    go_wp2_with fail
    refine (CC.out _).mono ?_
    rintro e wc ⟨rfl, bc⟩
    have HB := hid (below_up hbr.out (below_up ba (below_up bb bc)))
    clear ba bb bc
    go_wp2_with fail
    go_ret
    exact ⟨by rw [← HRR.out]; rfl, below_up B0.out HB.out⟩
  · rw [hz] at CC
    replace he := he hl
    have HX2 := hid (HX.out hl)
    clear hw hz HX
    subst hl
    by_cases hr0 : n % d = 0
    · rw [decide_eq_true hr0] at hn0
      replace he := he (.inl hr0)
      clear hr0 ht0
      rcases hs with rfl | rfl
      · rcases sgZ_cases (zOr (n % d)) (zOr (m % c)) with ⟨hk, hkl⟩ | ⟨hk, hkl⟩ | ⟨hk, hkl⟩
        · rw [hk] at CK he
          have HRR := hid he
          clear he hk hkl HX2
          go_wp2_with fail
          refine (CA.out _).mono ?_
          rintro e wa ⟨rfl, ba⟩
          go_wp2_with fail
          refine (CB.out _).mono ?_
          rintro e wb ⟨rfl, bb⟩
          go_wp2_with fail
          refine (CC.out _).mono ?_
          rintro e wc ⟨rfl, bc⟩
          have HB := hid (below_up hbr.out (below_up ba (below_up bb bc)))
          clear ba bb bc
          go_wp2_with fail
          refine (CZ.out _).mono ?_
          rintro e wd ⟨rfl, rfl⟩
          go_wp2_with fail
          refine (CY.out _).mono ?_
          rintro e we ⟨rfl, rfl⟩
          go_wp2_with fail
          refine (CK.out _).mono ?_
          rintro e wf ⟨rfl, bf⟩
          have HB2 := hid (below_up HB.out bf)
          clear bf
          go_wp2_with fail
          go_ret
          exact ⟨by rw [← HRR.out]; rfl, below_up B0.out HB2.out⟩
        · rw [hk] at CK he
          have HRR := hid he
          clear he hk hkl HX2
          go_wp2_with fail
          refine (CA.out _).mono ?_
          rintro e wa ⟨rfl, ba⟩
          go_wp2_with fail
          refine (CB.out _).mono ?_
          rintro e wb ⟨rfl, bb⟩
          go_wp2_with fail
          refine (CC.out _).mono ?_
          rintro e wc ⟨rfl, bc⟩
          have HB := hid (below_up hbr.out (below_up ba (below_up bb bc)))
          clear ba bb bc
          go_wp2_with fail
          refine (CZ.out _).mono ?_
          rintro e wd ⟨rfl, rfl⟩
          go_wp2_with fail
          refine (CY.out _).mono ?_
          rintro e we ⟨rfl, rfl⟩
          go_wp2_with fail
          refine (CK.out _).mono ?_
          rintro e wf ⟨rfl, bf⟩
          have HB2 := hid (below_up HB.out bf)
          clear bf
          go_wp2_with fail
          go_ret
          exact ⟨by rw [← HRR.out]; rfl, below_up B0.out HB2.out⟩
        rw [hk] at CK he
        have HRR := hid he
        clear he hk hkl HX2
        go_wp2_with fail
        refine (CA.out _).mono ?_
        rintro e wa ⟨rfl, ba⟩
        go_wp2_with fail
        refine (CB.out _).mono ?_
        rintro e wb ⟨rfl, bb⟩
        go_wp2_with fail
        refine (CC.out _).mono ?_
        rintro e wc ⟨rfl, bc⟩
        have HB := hid (below_up hbr.out (below_up ba (below_up bb bc)))
        clear ba bb bc
        go_wp2_with fail
        refine (CZ.out _).mono ?_
        rintro e wd ⟨rfl, rfl⟩
        go_wp2_with fail
        refine (CY.out _).mono ?_
        rintro e we ⟨rfl, rfl⟩
        go_wp2_with fail
        refine (CK.out _).mono ?_
        rintro e wf ⟨rfl, bf⟩
        have HB2 := hid (below_up HB.out bf)
        clear bf
        go_wp2_with fail
        go_ret
        exact ⟨by rw [← HRR.out]; rfl, below_up B0.out HB2.out⟩
      rcases sgZ_cases (zOr (n % d)) (zOr (m % c)) with ⟨hk, hkl⟩ | ⟨hk, hkl⟩ | ⟨hk, hkl⟩
      · rw [hk] at CK he
        have HRR := hid he
        clear he hk hkl HX2
        go_wp2_with fail
        refine (CA.out _).mono ?_
        rintro e wa ⟨rfl, ba⟩
        go_wp2_with fail
        refine (CB.out _).mono ?_
        rintro e wb ⟨rfl, bb⟩
        go_wp2_with fail
        refine (CC.out _).mono ?_
        rintro e wc ⟨rfl, bc⟩
        have HB := hid (below_up hbr.out (below_up ba (below_up bb bc)))
        clear ba bb bc
        go_wp2_with fail
        refine (CZ.out _).mono ?_
        rintro e wd ⟨rfl, rfl⟩
        go_wp2_with fail
        refine (CY.out _).mono ?_
        rintro e we ⟨rfl, rfl⟩
        go_wp2_with fail
        refine (CK.out _).mono ?_
        rintro e wf ⟨rfl, bf⟩
        have HB2 := hid (below_up HB.out bf)
        clear bf
        go_wp2_with fail
        go_ret
        exact ⟨by rw [← HRR.out]; rfl, below_up B0.out HB2.out⟩
      · rw [hk] at CK he
        have HRR := hid he
        clear he hk hkl HX2
        go_wp2_with fail
        refine (CA.out _).mono ?_
        rintro e wa ⟨rfl, ba⟩
        go_wp2_with fail
        refine (CB.out _).mono ?_
        rintro e wb ⟨rfl, bb⟩
        go_wp2_with fail
        refine (CC.out _).mono ?_
        rintro e wc ⟨rfl, bc⟩
        have HB := hid (below_up hbr.out (below_up ba (below_up bb bc)))
        clear ba bb bc
        go_wp2_with fail
        refine (CZ.out _).mono ?_
        rintro e wd ⟨rfl, rfl⟩
        go_wp2_with fail
        refine (CY.out _).mono ?_
        rintro e we ⟨rfl, rfl⟩
        go_wp2_with fail
        refine (CK.out _).mono ?_
        rintro e wf ⟨rfl, bf⟩
        have HB2 := hid (below_up HB.out bf)
        clear bf
        go_wp2_with fail
        go_ret
        exact ⟨by rw [← HRR.out]; rfl, below_up B0.out HB2.out⟩
      rw [hk] at CK he
      have HRR := hid he
      clear he hk hkl HX2
      go_wp2_with fail
      refine (CA.out _).mono ?_
      rintro e wa ⟨rfl, ba⟩
      go_wp2_with fail
      refine (CB.out _).mono ?_
      rintro e wb ⟨rfl, bb⟩
      go_wp2_with fail
      refine (CC.out _).mono ?_
      rintro e wc ⟨rfl, bc⟩
      have HB := hid (below_up hbr.out (below_up ba (below_up bb bc)))
      clear ba bb bc
      go_wp2_with fail
      refine (CZ.out _).mono ?_
      rintro e wd ⟨rfl, rfl⟩
      go_wp2_with fail
      refine (CY.out _).mono ?_
      rintro e we ⟨rfl, rfl⟩
      go_wp2_with fail
      refine (CK.out _).mono ?_
      rintro e wf ⟨rfl, bf⟩
      have HB2 := hid (below_up HB.out bf)
      clear bf
      go_wp2_with fail
      go_ret
      exact ⟨by rw [← HRR.out]; rfl, below_up B0.out HB2.out⟩
    rw [decide_eq_false hr0] at hn0
    by_cases ht1 : m % c = 0
    · rw [decide_eq_true ht1] at ht0
      replace he := he (.inr ht1)
      clear hr0 ht1
      rcases hs with rfl | rfl
      · rcases sgZ_cases (zOr (n % d)) (zOr (m % c)) with ⟨hk, hkl⟩ | ⟨hk, hkl⟩ | ⟨hk, hkl⟩
        · rw [hk] at CK he
          have HRR := hid he
          clear he hk hkl HX2
          go_wp2_with fail
          refine (CA.out _).mono ?_
          rintro e wa ⟨rfl, ba⟩
          go_wp2_with fail
          refine (CB.out _).mono ?_
          rintro e wb ⟨rfl, bb⟩
          go_wp2_with fail
          refine (CC.out _).mono ?_
          rintro e wc ⟨rfl, bc⟩
          have HB := hid (below_up hbr.out (below_up ba (below_up bb bc)))
          clear ba bb bc
          go_wp2_with fail
          refine (CZ.out _).mono ?_
          rintro e wd ⟨rfl, rfl⟩
          go_wp2_with fail
          refine (CY.out _).mono ?_
          rintro e we ⟨rfl, rfl⟩
          go_wp2_with fail
          refine (CK.out _).mono ?_
          rintro e wf ⟨rfl, bf⟩
          have HB2 := hid (below_up HB.out bf)
          clear bf
          go_wp2_with fail
          go_ret
          exact ⟨by rw [← HRR.out]; rfl, below_up B0.out HB2.out⟩
        · rw [hk] at CK he
          have HRR := hid he
          clear he hk hkl HX2
          go_wp2_with fail
          refine (CA.out _).mono ?_
          rintro e wa ⟨rfl, ba⟩
          go_wp2_with fail
          refine (CB.out _).mono ?_
          rintro e wb ⟨rfl, bb⟩
          go_wp2_with fail
          refine (CC.out _).mono ?_
          rintro e wc ⟨rfl, bc⟩
          have HB := hid (below_up hbr.out (below_up ba (below_up bb bc)))
          clear ba bb bc
          go_wp2_with fail
          refine (CZ.out _).mono ?_
          rintro e wd ⟨rfl, rfl⟩
          go_wp2_with fail
          refine (CY.out _).mono ?_
          rintro e we ⟨rfl, rfl⟩
          go_wp2_with fail
          refine (CK.out _).mono ?_
          rintro e wf ⟨rfl, bf⟩
          have HB2 := hid (below_up HB.out bf)
          clear bf
          go_wp2_with fail
          go_ret
          exact ⟨by rw [← HRR.out]; rfl, below_up B0.out HB2.out⟩
        rw [hk] at CK he
        have HRR := hid he
        clear he hk hkl HX2
        go_wp2_with fail
        refine (CA.out _).mono ?_
        rintro e wa ⟨rfl, ba⟩
        go_wp2_with fail
        refine (CB.out _).mono ?_
        rintro e wb ⟨rfl, bb⟩
        go_wp2_with fail
        refine (CC.out _).mono ?_
        rintro e wc ⟨rfl, bc⟩
        have HB := hid (below_up hbr.out (below_up ba (below_up bb bc)))
        clear ba bb bc
        go_wp2_with fail
        refine (CZ.out _).mono ?_
        rintro e wd ⟨rfl, rfl⟩
        go_wp2_with fail
        refine (CY.out _).mono ?_
        rintro e we ⟨rfl, rfl⟩
        go_wp2_with fail
        refine (CK.out _).mono ?_
        rintro e wf ⟨rfl, bf⟩
        have HB2 := hid (below_up HB.out bf)
        clear bf
        go_wp2_with fail
        go_ret
        exact ⟨by rw [← HRR.out]; rfl, below_up B0.out HB2.out⟩
      rcases sgZ_cases (zOr (n % d)) (zOr (m % c)) with ⟨hk, hkl⟩ | ⟨hk, hkl⟩ | ⟨hk, hkl⟩
      · rw [hk] at CK he
        have HRR := hid he
        clear he hk hkl HX2
        go_wp2_with fail
        refine (CA.out _).mono ?_
        rintro e wa ⟨rfl, ba⟩
        go_wp2_with fail
        refine (CB.out _).mono ?_
        rintro e wb ⟨rfl, bb⟩
        go_wp2_with fail
        refine (CC.out _).mono ?_
        rintro e wc ⟨rfl, bc⟩
        have HB := hid (below_up hbr.out (below_up ba (below_up bb bc)))
        clear ba bb bc
        go_wp2_with fail
        refine (CZ.out _).mono ?_
        rintro e wd ⟨rfl, rfl⟩
        go_wp2_with fail
        refine (CY.out _).mono ?_
        rintro e we ⟨rfl, rfl⟩
        go_wp2_with fail
        refine (CK.out _).mono ?_
        rintro e wf ⟨rfl, bf⟩
        have HB2 := hid (below_up HB.out bf)
        clear bf
        go_wp2_with fail
        go_ret
        exact ⟨by rw [← HRR.out]; rfl, below_up B0.out HB2.out⟩
      · rw [hk] at CK he
        have HRR := hid he
        clear he hk hkl HX2
        go_wp2_with fail
        refine (CA.out _).mono ?_
        rintro e wa ⟨rfl, ba⟩
        go_wp2_with fail
        refine (CB.out _).mono ?_
        rintro e wb ⟨rfl, bb⟩
        go_wp2_with fail
        refine (CC.out _).mono ?_
        rintro e wc ⟨rfl, bc⟩
        have HB := hid (below_up hbr.out (below_up ba (below_up bb bc)))
        clear ba bb bc
        go_wp2_with fail
        refine (CZ.out _).mono ?_
        rintro e wd ⟨rfl, rfl⟩
        go_wp2_with fail
        refine (CY.out _).mono ?_
        rintro e we ⟨rfl, rfl⟩
        go_wp2_with fail
        refine (CK.out _).mono ?_
        rintro e wf ⟨rfl, bf⟩
        have HB2 := hid (below_up HB.out bf)
        clear bf
        go_wp2_with fail
        go_ret
        exact ⟨by rw [← HRR.out]; rfl, below_up B0.out HB2.out⟩
      rw [hk] at CK he
      have HRR := hid he
      clear he hk hkl HX2
      go_wp2_with fail
      refine (CA.out _).mono ?_
      rintro e wa ⟨rfl, ba⟩
      go_wp2_with fail
      refine (CB.out _).mono ?_
      rintro e wb ⟨rfl, bb⟩
      go_wp2_with fail
      refine (CC.out _).mono ?_
      rintro e wc ⟨rfl, bc⟩
      have HB := hid (below_up hbr.out (below_up ba (below_up bb bc)))
      clear ba bb bc
      go_wp2_with fail
      refine (CZ.out _).mono ?_
      rintro e wd ⟨rfl, rfl⟩
      go_wp2_with fail
      refine (CY.out _).mono ?_
      rintro e we ⟨rfl, rfl⟩
      go_wp2_with fail
      refine (CK.out _).mono ?_
      rintro e wf ⟨rfl, bf⟩
      have HB2 := hid (below_up HB.out bf)
      clear bf
      go_wp2_with fail
      go_ret
      exact ⟨by rw [← HRR.out]; rfl, below_up B0.out HB2.out⟩
    rw [decide_eq_false ht1] at ht0
    have hx := HX2.out hr0 ht1
    have HXX := hid hx
    clear he hr0 ht1 HX2 hx CZ CY CK
    rcases hs with rfl | rfl
    · go_wp2_with fail
      refine (CA.out _).mono ?_
      rintro e wa ⟨rfl, ba⟩
      go_wp2_with fail
      refine (CB.out _).mono ?_
      rintro e wb ⟨rfl, bb⟩
      go_wp2_with fail
      refine (CC.out _).mono ?_
      rintro e wc ⟨rfl, bc⟩
      have HB := hid (below_up hbr.out (below_up ba (below_up bb bc)))
      clear ba bb bc
      go_wp2_with fail
      go_roundw
      case rel => exact ⟨d, n % d, c, m % c, -1, rfl, rfl, rfl, rfl, rfl, HXX.out.1, HB.out⟩
      case measure =>
       show (numB (textI (n % d))).natAbs < (numB (textI d)).natAbs
       rw [HDN.out, HRN.out]
       exact HXX.out.2
    go_wp2_with fail
    refine (CA.out _).mono ?_
    rintro e wa ⟨rfl, ba⟩
    go_wp2_with fail
    refine (CB.out _).mono ?_
    rintro e wb ⟨rfl, bb⟩
    go_wp2_with fail
    refine (CC.out _).mono ?_
    rintro e wc ⟨rfl, bc⟩
    have HB := hid (below_up hbr.out (below_up ba (below_up bb bc)))
    clear ba bb bc
    go_wp2_with fail
    go_roundw
    case rel => exact ⟨d, n % d, c, m % c, 1, rfl, rfl, rfl, rfl, rfl, HXX.out.1, HB.out⟩
    case measure =>
     show (numB (textI (n % d))).natAbs < (numB (textI d)).natAbs
     rw [HDN.out, HRN.out]
     exact HXX.out.2
  have hr := hw (by omega)
  rw [hz] at hr CC
  have HRR := hid hr
  clear hr hw he hz hl hn0 ht0
  rcases hs with rfl | rfl
  · go_wp2_with fail
    refine (CA.out _).mono ?_
    rintro e wa ⟨rfl, ba⟩
    go_wp2_with fail
    refine (CB.out _).mono ?_
    rintro e wb ⟨rfl, bb⟩
    go_wp2_with fail
    refine (CC.out _).mono ?_
    rintro e wc ⟨rfl, bc⟩
    have HB := hid (below_up hbr.out (below_up ba (below_up bb bc)))
    clear ba bb bc
    go_wp2_with fail
    go_ret
    exact ⟨by rw [← HRR.out]; rfl, below_up B0.out HB.out⟩
  go_wp2_with fail
  refine (CA.out _).mono ?_
  rintro e wa ⟨rfl, ba⟩
  go_wp2_with fail
  refine (CB.out _).mono ?_
  rintro e wb ⟨rfl, bb⟩
  go_wp2_with fail
  refine (CC.out _).mono ?_
  rintro e wc ⟨rfl, bc⟩
  have HB := hid (below_up hbr.out (below_up ba (below_up bb bc)))
  clear ba bb bc
  go_wp2_with fail
  go_ret
  exact ⟨by rw [← HRR.out]; rfl, below_up B0.out HB.out⟩
end Go.Proofs.YtcglcgphgahnpaaGreatDoor
