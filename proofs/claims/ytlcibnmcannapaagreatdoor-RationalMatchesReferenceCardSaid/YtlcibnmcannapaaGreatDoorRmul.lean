/-
  Plain mathematics of layer 3: multiplying digit by digit.
  The contract of the reference's times.
  Plain mathematics of layer 3: dividing digit by digit.
  The contract of the reference's divided.
  The contracts of the reference's Mul and Gcd.
-/
import Derived.Test.YtlcibnmcannapaaGreatDoorGplain
import Derived.Test.YtlcibnmcannapaaGreatDoorRsum
import Derived.Laws.MakeOwn
namespace Go.Proofs.YtlcibnmcannapaaGreatDoor

theorem isDig_set {l : List Nat} (h : IsDig l) (p d : Nat) (hd : d < 10) : IsDig (l.set p d) := by
  intro x hx
  rcases List.mem_or_eq_of_mem_set hx with h1 | rfl
  · exact h x h1
  · exact hd
theorem valD_set : ∀ (l : List Nat) (p d : Nat), p < l.length → valD (l.set p d) + 10 ^ p * l.getD p 0 = valD l + 10 ^ p * d
  | [], p, d, h => by simp at h
  | x :: l, 0, d, _ => by simp [valD]; omega
  | x :: l, p + 1, d, h => by
    have ih := valD_set l p d (by simpa using h)
    rw [List.set_cons_succ, List.getD_cons_succ, Nat.pow_succ]
    simp only [valD]
    have e1 : 10 ^ p * 10 * l.getD p 0 = 10 * (10 ^ p * l.getD p 0) := by rw [Nat.mul_comm (10 ^ p) 10, Nat.mul_assoc]
    have e2 : 10 ^ p * 10 * d = 10 * (10 ^ p * d) := by rw [Nat.mul_comm (10 ^ p) 10, Nat.mul_assoc]
    rw [e1, e2]; omega
theorem valD_replicate : ∀ n, valD (List.replicate n 0) = 0
  | 0 => rfl
  | n + 1 => by rw [List.replicate_succ]; simp only [valD]; rw [valD_replicate n]

/-- The product's digits after i digits of a, and k digits of b at the next one. -/
def MulInv (a b out : List Nat) (c i k : Nat) : Prop := out.length = a.length + b.length ∧ IsDig out ∧ c ≤ 9 ∧ valD out + 10 ^ (i + k) * c = valD (a.take i) * valD b + 10 ^ i * a.getD i 0 * valD (b.take k)
def MulOut (a b out : List Nat) (i : Nat) : Prop := out.length = a.length + b.length ∧ IsDig out ∧ valD out = valD (a.take i) * valD b
theorem mul_start (a b : List Nat) : MulOut a b (List.replicate (a.length + b.length) 0) 0 := by
  refine ⟨by simp, ?_, by rw [valD_replicate]; simp [valD]⟩
  intro d hd
  rw [List.mem_replicate] at hd
  omega
theorem mul_in {a b out : List Nat} {i : Nat} (h : MulOut a b out i) : MulInv a b out 0 i 0 := ⟨h.1, h.2.1, by omega, by rw [h.2.2]; simp [valD]⟩
theorem mul_out {a b out : List Nat} {i k : Nat} (h : MulInv a b out 0 i k) (hk : b.length ≤ k) : MulOut a b out (i + 1) := by
  refine ⟨h.1, h.2.1, ?_⟩
  have := h.2.2.2
  rw [valD_take_all b k hk] at this
  rw [valD_take_getD, Nat.add_mul]
  omega
theorem mul_place {a b out : List Nat} {c i k : Nat} (ha : IsDig a) (hb : IsDig b) (h : MulInv a b out c i k) (hi : i < a.length) (hk : k < b.length ∨ 0 < c) : i + k < a.length + b.length ∧ k ≤ b.length := by
  rcases hk with hk | hk
  · omega
  · have h4 := h.2.2.2
    have hbk := valD_take_le b k
    have ha1 := valD_lt (isDig_take ha (i + 1))
    rw [List.length_take, Nat.min_eq_left (by omega)] at ha1
    have hb1 := valD_lt hb
    have e : valD (a.take i) * valD b + 10 ^ i * a.getD i 0 * valD b = valD (a.take (i + 1)) * valD b := by rw [valD_take_getD, Nat.add_mul]
    have h5 : valD (a.take i) * valD b + 10 ^ i * a.getD i 0 * valD (b.take k) ≤ valD (a.take (i + 1)) * valD b := by
      rw [← e]
      have := Nat.mul_le_mul_left (10 ^ i * a.getD i 0) hbk
      omega
    have h6 : valD (a.take (i + 1)) * valD b < 10 ^ (i + 1) * 10 ^ b.length := Nat.mul_lt_mul_of_lt_of_le ha1 (Nat.le_of_lt hb1) (Nat.pow_pos (by decide))
    rw [← Nat.pow_add] at h6
    have h7 : 10 ^ (i + k) < 10 ^ (i + 1 + b.length) := by
      have : 10 ^ (i + k) * 1 ≤ 10 ^ (i + k) * c := Nat.mul_le_mul_left _ hk
      omega
    have h8 : i + k < i + 1 + b.length := by
      rcases Nat.lt_or_ge (i + k) (i + 1 + b.length) with h | h
      · exact h
      · exact absurd h7 (Nat.not_lt.2 (Nat.pow_le_pow_right (by decide) h))
    omega
theorem mul_step {a b out : List Nat} {c i k : Nat} (ha : IsDig a) (hb : IsDig b) (h : MulInv a b out c i k) (hp : i + k < a.length + b.length) :
    MulInv a b (out.set (i + k) ((out.getD (i + k) 0 + c + a.getD i 0 * b.getD k 0) % 10)) ((out.getD (i + k) 0 + c + a.getD i 0 * b.getD k 0) / 10) i (k + 1) := by
  obtain ⟨hl, hd, hc, hv⟩ := h
  have h1 := getD_dig ha i
  have h2 := getD_dig hb k
  have h3 := getD_dig hd (i + k)
  have h12 : a.getD i 0 * b.getD k 0 ≤ 9 * 9 := Nat.mul_le_mul (by omega) (by omega)
  refine ⟨by simp [hl], isDig_set hd _ _ (Nat.mod_lt _ (by decide)), by omega, ?_⟩
  have hs := valD_set out (i + k) ((out.getD (i + k) 0 + c + a.getD i 0 * b.getD k 0) % 10) (by omega)
  rw [valD_take_getD, show i + (k + 1) = i + k + 1 by omega, Nat.pow_succ]
  have e2 : 10 ^ i * a.getD i 0 * (valD (b.take k) + 10 ^ k * b.getD k 0) = 10 ^ i * a.getD i 0 * valD (b.take k) + 10 ^ (i + k) * (a.getD i 0 * b.getD k 0) := by
    rw [Nat.mul_add, Nat.pow_add]
    congr 1
    rw [Nat.mul_assoc, Nat.mul_assoc, Nat.mul_left_comm (a.getD i 0)]
  rw [e2]
  generalize a.getD i 0 * b.getD k 0 = m at *
  generalize out.getD (i + k) 0 = o at *
  have e : 10 ^ (i + k) * ((o + c + m) % 10) + 10 ^ (i + k) * 10 * ((o + c + m) / 10) = 10 ^ (i + k) * o + 10 ^ (i + k) * c + 10 ^ (i + k) * m := by
    rw [Nat.mul_assoc, ← Nat.mul_add, ← Nat.mul_add, ← Nat.mul_add, Nat.mod_add_div]
  omega
theorem mul_end {a b out : List Nat} {i : Nat} (h : MulOut a b out i) (hi : a.length ≤ i) : trimD out = digs (valD a * valD b) := by
  unfold trimD
  rw [h.2.2, valD_take_all a i hi]
end Go.Proofs.YtlcibnmcannapaaGreatDoor

namespace Go.Proofs.YtlcibnmcannapaaGreatDoor
open Go Go.Proofs Go.RowKit Go.Lib

set_option maxRecDepth 100000 in
set_option maxHeartbeats 8000000 in
theorem times_any (m n : Nat) (ad1 ad2 : Option Addr) (c1 c2 n1 n2 : Nat) (w : World) (h1 : HoldI w ad1 c1 (digs m)) (h2 : HoldI w ad2 c2 (digs n)) (e1 : (digs m).length = n1) (e2 : (digs n).length = n2) (hn1 : n1 ≤ 1000) (hn2 : n2 ≤ 1000) :
    Calls Tryz.prog 74 #[.slice ad1 n1 c1, .slice ad2 n2 c2] w (IntsPost w (digs (m * n))) := by
  have ha := digs_lt m
  have hb := digs_lt n
  have va := valD_digs m
  have vb := valD_digs n
  obtain ⟨a, hae⟩ : ∃ a, digs m = a := ⟨_, rfl⟩
  obtain ⟨b, hbe⟩ : ∃ b, digs n = b := ⟨_, rfl⟩
  rw [hae] at ha va h1 e1
  rw [hbe] at hb vb h2 e2
  obtain ⟨S, hS⟩ : ∃ S, m * n = S := ⟨_, rfl⟩
  have hSl : valD a * valD b = S := by rw [va, vb, hS]
  rw [hS]
  have hst0 := mul_start a b
  rw [e1, e2] at hst0
  have hmk := fun W => make_ints (n1 + n2) (by omega) W ((n1 : Int) + (n2 : Int)) (by omega)
  have hnew := fun W => heap_alloc_new W (.cells (numVals .i64 (List.replicate (n1 + n2) 0)).toArray 3)
  have HA := Lib.hid ha; have HB := Lib.hid hb; have H1 := Lib.hid h1; have H2 := Lib.hid h2; have E1 := Lib.hid e1; have E2 := Lib.hid e2; have HS := Lib.hid hSl; have HST0 := Lib.hid hst0; have HNEW := Lib.hid hnew
  clear ha hb va vb h1 h2 e1 e2 hae hbe hS hSl hst0 hnew
  go_enter Tryz.func74, Tryz.ntmps74
  go_wp2_with fail
  go_loopw [6] (fun i wr => ∃ (out : List Nat) (k : Nat), k ≤ n1 ∧ i = .int .i64 k ∧ Hid (MulOut a b out k) ∧ Hid (IsI wr w.heap.size out) ∧ Hid (Below w.heap.size w wr)) (fun i _ => n1 - (RowKit.intOf i).toNat)
  case atStart => exact ⟨_, 0, Nat.zero_le _, rfl, HST0.out, HNEW.out w, (Below.refl _ _).alloc (Nat.le_refl _) _⟩
  case round =>
    obtain ⟨out, k, hk, rfl, hmo, hIs, hbr⟩ := hrel
    by_cases hA : k < n1
    · have hA2 : (k : Int) < (n1 : Int) := by omega
      have hmi := mul_in hmo.out
      have HMI := Lib.hid hmi
      clear hmi hmo
      go_wp2_with fail
      go_loopw [7, 8] (fun c kk wr2 => ∃ (out : List Nat) (q t : Nat), kk = .int .i64 t ∧ c = .int .i64 q ∧ Hid (MulInv a b out q k t) ∧ Hid (IsI wr2 w.heap.size out) ∧ Hid (Below w.heap.size w wr2)) (fun _ kk _ => n1 + n2 + 2 - (RowKit.intOf kk).toNat)
      case atStart => exact ⟨out, 0, 0, rfl, rfl, HMI.out, hIs, hbr⟩
      case round =>
        obtain ⟨out, q, t, rfl, rfl, hmi, hIs, hbr2⟩ := hrel
        have hq9 := hmi.out.2.2.1
        by_cases hB : t < n2
        · have hB2 : (t : Int) < (n2 : Int) := by omega
          have hp : k + t < n1 + n2 := by omega
          have ck := (hIs.out.cell (k + t) (by rw [hmi.out.1, E1.out, E2.out]; exact hp))
          have fk := hIs.out.frozen (k + t)
          have j5 := fun w' => atI w.heap.size 0 (n1 + n2) (n1 + n2) (k + t) ((k : Int) + (t : Int)) (by omega) hp w'
          rw [Nat.zero_add] at j5
          have ol := getD_dig hmi.out.2.1 (k + t)
          have hst := mul_step HA.out HB.out hmi.out (by rw [E1.out, E2.out]; exact hp)
          obtain ⟨o, ho⟩ : ∃ o, out.getD (k + t) 0 = o := ⟨_, rfl⟩
          rw [ho] at ck ol hst
          have kb : t < b.length := by rw [E2.out]; exact hB
          have ka : k < a.length := by rw [E1.out]; exact hA
          obtain ⟨g1, o1, rfl, hg1, hs1⟩ := H1.out.at (by omega)
          obtain ⟨g2, o2, rfl, hg2, hs2⟩ := H2.out.at (by omega)
          have ca := (hs1.below hbr2.out hg1) k ka
          have cb := (hs2.below hbr2.out hg2) t kb
          have j1 := fun w => atI g1 o1 n1 c1 k (k : Int) rfl (by omega) w
          have j2 := fun w => atI g2 o2 n2 c2 t (t : Int) rfl (by omega) w
          have xl := getD_dig HA.out k
          have yl := getD_dig HB.out t
          obtain ⟨x, hx⟩ : ∃ x, a.getD k 0 = x := ⟨_, rfl⟩
          obtain ⟨y, hy⟩ : ∃ y, b.getD t 0 = y := ⟨_, rfl⟩
          rw [hx] at ca xl hst
          rw [hy] at cb yl hst
          have hm81 : x * y ≤ 9 * 9 := Nat.mul_le_mul (by omega) (by omega)
          obtain ⟨m, hm⟩ : ∃ m, x * y = m := ⟨_, rfl⟩
          have hmi2 : (x : Int) * (y : Int) = (m : Int) := by rw [← hm]; simp
          rw [hm] at hst hm81
          have hw1 : IntKind.i64.wrap (m : Int) = (m : Int) := IntWalk.i64_in _ (by omega)
          have hw2 : IntKind.i64.wrap ((o : Int) + (q : Int) + (m : Int)) = (o : Int) + (q : Int) + (m : Int) := IntWalk.i64_in _ (by omega)
          obtain ⟨d, hd⟩ : ∃ d, (o + q + m) % 10 = d := ⟨_, rfl⟩
          obtain ⟨c', hc'⟩ : ∃ c, (o + q + m) / 10 = c := ⟨_, rfl⟩
          rw [hd, hc'] at hst
          have hdi : ((o : Int) + (q : Int) + (m : Int)) % 10 = (d : Int) := by omega
          have hci : ((o : Int) + (q : Int) + (m : Int)) / 10 = (c' : Int) := by omega
          have hpi : (k : Int) + (t : Int) < ((n1 + n2 : Nat) : Int) := by omega
          have hpi2 : (k : Int) + (t : Int) < (n1 : Int) + (n2 : Int) := by omega
          have HST := Lib.hid hst; have HDI := Lib.hid hdi; have HCI := Lib.hid hci
          clear hst hd hc' ho hmi hci hp
          clear hm hx hy ka kb hs1 hs2
          go_wp2_with fail
          go_quiet (fail)
          go_wp2
          go_roundw
          case rel => exact ⟨out.set (k + t) d, c', t + 1, by go_num, congrArg (Value.int .i64) HCI.out, HST.out, (hIs.out.drewN nq).store _ _ _ (by first | exact HDI.out | rfl), (below_drewN hbr2.out nq).setCell (Nat.le_refl _) _⟩
          case measure => simp [RowKit.intOf]; omega
        · have hB2 : ¬ (t : Int) < (n2 : Int) := by omega
          by_cases hq : 0 < q
          · have hq2 : (0 : Int) < (q : Int) := by omega
            have hpl := mul_place HA.out HB.out hmi.out (by rw [E1.out]; exact hA) (.inr hq)
            rw [E1.out, E2.out] at hpl
            have hp := hpl.1
            have htn := hpl.2
            clear hpl
            have ck := (hIs.out.cell (k + t) (by rw [hmi.out.1, E1.out, E2.out]; exact hp))
            have fk := hIs.out.frozen (k + t)
            have j5 := fun w' => atI w.heap.size 0 (n1 + n2) (n1 + n2) (k + t) ((k : Int) + (t : Int)) (by omega) hp w'
            rw [Nat.zero_add] at j5
            have ol := getD_dig hmi.out.2.1 (k + t)
            have hst := mul_step HA.out HB.out hmi.out (by rw [E1.out, E2.out]; exact hp)
            obtain ⟨o, ho⟩ : ∃ o, out.getD (k + t) 0 = o := ⟨_, rfl⟩
            rw [ho] at ck ol hst
            have yz : b.getD t 0 = 0 := by rw [List.getD_eq_getElem?_getD, List.getElem?_eq_none (by rw [E2.out]; omega)]; rfl
            rw [yz, Nat.mul_zero, Nat.add_zero] at hst
            obtain ⟨d, hd⟩ : ∃ d, (o + q) % 10 = d := ⟨_, rfl⟩
            obtain ⟨c', hc'⟩ : ∃ c, (o + q) / 10 = c := ⟨_, rfl⟩
            rw [hd, hc'] at hst
            have hdi : ((o : Int) + (q : Int)) % 10 = (d : Int) := by omega
            have hci : ((o : Int) + (q : Int)) / 10 = (c' : Int) := by omega
            have hpi : (k : Int) + (t : Int) < ((n1 + n2 : Nat) : Int) := by omega
            have hpi2 : (k : Int) + (t : Int) < (n1 : Int) + (n2 : Int) := by omega
            have HST := Lib.hid hst; have HDI := Lib.hid hdi; have HCI := Lib.hid hci
            clear hst hd hc' ho hmi hci hp
            clear yz
            go_wp2
            go_roundw
            case rel => exact ⟨out.set (k + t) d, c', t + 1, by go_num, congrArg (Value.int .i64) HCI.out, HST.out, hIs.out.store _ _ _ (by first | exact HDI.out | rfl), hbr2.out.setCell (Nat.le_refl _) _⟩
            case measure => simp [RowKit.intOf]; omega
          · have hq0 : q = 0 := by omega
            subst hq0
            have hout := mul_out hmi.out (by rw [E2.out]; omega)
            have HOUT := Lib.hid hout
            clear hmi hout
            go_wp2
            go_roundw
            case rel => exact ⟨out, k + 1, by omega, by go_num, HOUT.out, hIs, hbr2⟩
            case measure => simp [RowKit.intOf]; omega
    · have hA2 : ¬ (k : Int) < (n1 : Int) := by omega
      have hfin := mul_end hmo.out (by rw [E1.out]; omega)
      rw [HS.out] at hfin
      have hol : out.length = n1 + n2 := by rw [hmo.out.1, E1.out, E2.out]
      have hod := hmo.out.2.1
      have htk := trimD_take _ hol hod
      rw [hfin] at htk
      have hh := hIs.out.holds (by rw [hol]; omega)
      rw [hol] at hh
      have c := trim_any out hod _ _ wr hh (n1 + n2) hol
      rw [hfin] at c
      have hh2 := hh.take (digs S).length
      rw [← htk] at hh2
      have C := Lib.hid c; have HH2 := Lib.hid hh2
      clear c hh hh2 htk hod hol hfin hmo
      go_wp2_with fail
      refine C.out.mono ?_
      rintro e W1 ⟨rfl, rfl⟩
      go_wp2
      go_ret
      exact ⟨_, _, rfl, HH2.out, hbr.out, fun q hq => by cases hq; exact Nat.le_refl _⟩
end Go.Proofs.YtlcibnmcannapaaGreatDoor

namespace Go.Proofs.YtlcibnmcannapaaGreatDoor

def DivInv (a qs : List Nat) (B R k : Nat) : Prop := qs.length = a.length ∧ IsDig qs ∧ R < B ∧ valD (a.drop k) = valD (qs.drop k) * B + R ∧ ∀ j, j < k → qs.getD j 0 = 0
def DivIn (a qs : List Nat) (B R k t : Nat) : Prop := qs.length = a.length ∧ IsDig qs ∧ qs.getD k 0 = t ∧ valD (a.drop k) = valD (qs.drop k) * B + R ∧ (∀ j, j < k → qs.getD j 0 = 0) ∧ R + t * B < 10 * B
theorem valD_drop (l : List Nat) (k : Nat) (h : k < l.length) : valD (l.drop k) = l.getD k 0 + 10 * valD (l.drop (k + 1)) := by
  rw [List.drop_eq_getElem_cons h]
  simp only [valD]
  simp [List.getD_eq_getElem?_getD, h]
theorem div_start (a : List Nat) (B : Nat) (hB : 0 < B) : DivInv a (List.replicate a.length 0) B 0 a.length := by
  refine ⟨by simp, ?_, hB, ?_, ?_⟩
  · intro d hd; rw [List.mem_replicate] at hd; omega
  · rw [List.drop_of_length_le (Nat.le_refl _), List.drop_of_length_le (by simp)]; simp [valD]
  · intro j hj; simp [List.getD_eq_getElem?_getD, hj]
theorem div_in {a qs : List Nat} {B R k : Nat} (ha : IsDig a) (h : DivInv a qs B R (k + 1)) (hk : k < a.length) : DivIn a qs B (a.getD k 0 + 10 * R) k 0 := by
  obtain ⟨h1, h2, h3, h4, h5⟩ := h
  have hx := getD_dig ha k
  have h0 := h5 k (by omega)
  refine ⟨h1, h2, h0, ?_, fun j hj => h5 j (by omega), by omega⟩
  rw [valD_drop a k hk, valD_drop qs k (by omega), h0, h4, Nat.zero_add, Nat.mul_add, Nat.mul_assoc]
  omega
theorem div_step {a qs : List Nat} {B R k t : Nat} (h : DivIn a qs B R k t) (hk : k < a.length) (hB : B ≤ R) : t + 1 ≤ 9 ∧ DivIn a (qs.set k (t + 1)) B (R - B) k (t + 1) := by
  obtain ⟨h1, h2, h3, h4, h5, h6⟩ := h
  have hkq : k < qs.length := by omega
  have hb : 0 < B := by
    rcases Nat.eq_zero_or_pos B with h | h
    · subst h; omega
    · exact h
  have ht : t + 1 ≤ 9 := by
    rcases Nat.lt_or_ge t 9 with h | h
    · omega
    · exfalso
      have : 9 * B ≤ t * B := Nat.mul_le_mul_right _ h
      omega
  refine ⟨ht, by simp [h1], isDig_set h2 _ _ (by omega), by simp [List.getD_eq_getElem?_getD, hkq], ?_, ?_, ?_⟩
  · rw [h4, valD_drop qs k hkq, valD_drop (qs.set k (t + 1)) k (by simpa using hkq)]
    have e1 : (qs.set k (t + 1)).getD k 0 = t + 1 := by simp [List.getD_eq_getElem?_getD, hkq]
    have e2 : (qs.set k (t + 1)).drop (k + 1) = qs.drop (k + 1) := by rw [List.drop_set_of_lt (by omega)]
    rw [e1, e2, h3, show t + 1 + 10 * valD (qs.drop (k + 1)) = (t + 10 * valD (qs.drop (k + 1))) + 1 by omega]
    have hX : ∀ X : Nat, X * B + R = (X + 1) * B + (R - B) := fun X => by
      rw [Nat.add_mul, Nat.one_mul]; omega
    exact hX _
  · intro j hj
    have := h5 j hj
    rw [List.getD_eq_getElem?_getD, List.getElem?_set_ne (by omega), ← List.getD_eq_getElem?_getD]
    exact this
  · rw [Nat.add_mul]; omega
theorem div_out {a qs : List Nat} {B R k t : Nat} (h : DivIn a qs B R k t) (hR : R < B) : DivInv a qs B R k := ⟨h.1, h.2.1, hR, h.2.2.2.1, h.2.2.2.2.1⟩
theorem div_end {a qs : List Nat} {B R : Nat} (h : DivInv a qs B R 0) : trimD qs = digs (valD a / B) ∧ R = valD a % B := by
  obtain ⟨_, _, h3, h4, _⟩ := h
  rw [List.drop_zero, List.drop_zero] at h4
  have e : valD a = R + B * valD qs := by rw [h4, Nat.mul_comm]; omega
  unfold trimD
  rw [e, Nat.add_mul_div_left _ _ (by omega), Nat.add_mul_mod_self_left, Nat.div_eq_of_lt h3, Nat.mod_eq_of_lt h3, Nat.zero_add]
  exact ⟨rfl, rfl⟩
theorem trim_cons (x R : Nat) : trimD (x :: digs R) = digs (x + 10 * R) := by
  unfold trimD; simp only [valD]; rw [valD_digs]
end Go.Proofs.YtlcibnmcannapaaGreatDoor

namespace Go.Proofs.YtlcibnmcannapaaGreatDoor
open Go Go.Proofs Go.RowKit Go.Lib

theorem run_append_owned_empty (w : World) (n : Nat) (ty : TypeId) (v : Value) (l : List Nat) (hown : OwnI w n v l) (c : Nat) : (Builtin.append_ #[40, 40] ty #[v, .slice none 0 c]).run Tryz.prog w = .ok v w := by
  obtain ⟨i0, hi, hz0, hz1, hz2⟩ := info_parts info_i64
  rcases hown.2 with ⟨rfl, h0⟩ | ⟨g, cap, cur, rfl, _, _, hnc, _⟩
  · simp [Builtin.append_, run_underlying Tryz.underlying40, sizeOf, typeInfo, hi, Builtin.lenOf, Builtin.firstCells]
  · simp [Builtin.append_, run_underlying Tryz.underlying40, sizeOf, typeInfo, hi, Builtin.lenOf, Builtin.firstCells, hnc, storeCells]
/-- append of what a slice holds to a row of one's own, in a plain walk. -/
theorem walk_hold {ops : Array Oper} {o : Oper} {rest : List Oper} {a : Act} {w w0 : World} {Q : Exit → Act → World → Prop}
    (hgd : o.guard = none) (s x : Operand) (hop : o.op = Op.call { callee := Callee.builtin Builtin.append, args := #[s, x], argTypes := #[40, 40] })
    (n : Nat) (v : Value) (l p : List Nat) (hs : a.eval s = v) (hown : OwnI w n v l) (hb : Below n w0 w) (hn : n ≤ w.heap.size) (ad : Option Addr) (m c : Nat) (hx : a.eval x = .slice ad m c) (hm : p.length = m) (hc : HoldI w ad c p) (hl : l.length + m ≤ 17592186044416)
    (hK : ∀ v' w', OwnI w' n v' (l ++ p) → Below n w0 w' → wpList Tryz.prog ops Q rest (a.put o.dst v') w') : wpList Tryz.prog ops Q (o :: rest) a w := by
  have hrun : ∃ v' w', (Builtin.append_ #[40, 40] o.type #[v, .slice ad m c]).run Tryz.prog w = .ok v' w' ∧ OwnI w' n v' (l ++ p) ∧ Below n w0 w' := by
    obtain ⟨i0, hi, hz0, hz1, hz2⟩ := info_parts info_i64
    by_cases h0 : 0 < m
    · obtain ⟨g, off, rfl, _, hns⟩ := hc.at (by omega)
      obtain ⟨v', w', r0, r1, r2, _⟩ := run_pushI w w0 n o.type v l p hown hb hn g off m c hm hns hl
      exact ⟨v', w', r0, r1, r2⟩
    · obtain rfl : m = 0 := by omega
      have hp : p = [] := List.eq_nil_of_length_eq_zero hm
      subst hp
      rw [List.append_nil]
      cases ad with
      | none =>
        exact ⟨v, w, run_append_owned_empty w n o.type v l hown c, hown, hb⟩
      | some ad =>
        obtain ⟨v', w', hr, r1, r2, _⟩ := run_append_own (P := Tryz.prog) w n 40 o.type 3 i0 (.int .i64 0) 1 8 Tryz.underlying40 hi hz0 hz1 hz2 rfl (by decide) v l.length (numVals .i64 l) hown
          ad 0 c [] rfl (by intro j u hj; simp at hj) (by intro u hu; cases hu) (by unfold maxLen; omega) (by omega) hn
        refine ⟨v', w', hr, ?_, hb.grown r2 hn (own_ge hown)⟩
        rw [List.append_nil] at r1
        exact r1
  refine wpList_plain hgd fun K hK' => ?_
  obtain ⟨v', w', hrun, r1, r2⟩ := hrun
  unfold Oper.wp
  simp [execOp, hop, resolve, invoke, builtin, hs, hx, hrun, Result.andThen]
  exact hK' _ _ (hK v' w' r1 r2)
theorem HoldI.store {W : World} {ad : Option Addr} {c : Nat} {l : List Nat} (h : HoldI W ad c l) (G j : Nat) (v : Value) (hne : ∀ p, ad = some p → p.block ≠ G) : HoldI (W.setCell ⟨G, j, none⟩ v) ad c l := by
  obtain ⟨h1, h2, h3⟩ := h
  refine ⟨h1, h2, h3.imp id ?_⟩
  rintro ⟨g, o, rfl, hg, hn⟩
  have hgG : g ≠ G := hne _ rfl
  exact ⟨g, o, rfl, by simpa using hg, hn.heq (Below.heap_setCell W ⟨G, j, none⟩ v g hgG)⟩
def cellN (W : World) (g j : Nat) : Nat := match W.cell? ⟨g, j, none⟩ with | some (.int _ q) => q.toNat | _ => 0
theorem IsI.cellN {W : World} {g : Nat} {l : List Nat} (h : IsI W g l) (i : Nat) (hi : i < l.length) : Go.Proofs.YtlcibnmcannapaaGreatDoor.cellN W g i = l.getD i 0 := by
  unfold Go.Proofs.YtlcibnmcannapaaGreatDoor.cellN
  rw [h.cell i hi]
  simp
/-- Two lists of digits are returned. -/
def DivPost (w : World) (p q : List Nat) (e : Ending) (w' : World) : Prop :=
  ∃ a1 k1 a2 k2, e = .returned (.tuple #[.slice a1 p.length k1, .slice a2 q.length k2]) ∧ HoldI w' a1 k1 p ∧ HoldI w' a2 k2 q ∧ Below w.heap.size w w'
set_option maxRecDepth 100000 in
set_option maxHeartbeats 8000000 in
theorem divided_any (m n : Nat) (hn0 : 0 < n) (ad1 ad2 : Option Addr) (c1 c2 n1 n2 : Nat) (w : World) (h1 : HoldI w ad1 c1 (digs m)) (h2 : HoldI w ad2 c2 (digs n)) (e1 : (digs m).length = n1) (e2 : (digs n).length = n2) (hn1 : n1 ≤ 1000) (hn2 : n2 ≤ 1000) :
    Calls Tryz.prog 81 #[.slice ad1 n1 c1, .slice ad2 n2 c2] w (DivPost w (digs (m / n)) (digs (m % n))) := by
  have ha := digs_lt m
  have va := valD_digs m
  have hlb : ∀ R, R < n → (digs R).length ≤ 1000 := fun R hR => by have := digs_length_mono (Nat.le_of_lt hR); omega
  have co := fun R a3 k3 W (q3 : HoldI W a3 k3 (digs R)) (q2 : HoldI W ad2 c2 (digs n)) => order_any R n a3 ad2 k3 c2 _ n2 W q3 q2 rfl e2
  have cm := fun R (hR : n ≤ R) a3 k3 W (q3 : HoldI W a3 k3 (digs R)) (q2 : HoldI W ad2 c2 (digs n)) => minus_any R n hR a3 ad2 k3 c2 _ n2 W q3 q2 rfl e2
  obtain ⟨a, hae⟩ : ∃ a, digs m = a := ⟨_, rfl⟩
  rw [hae] at ha va h1 e1
  have hst0 := div_start a n hn0
  rw [e1] at hst0
  have hend : ∀ qs R, DivInv a qs n R 0 → trimD qs = digs (m / n) ∧ R = m % n := fun qs R h => by have := div_end h; rwa [va] at this
  have hmk := fun W => make_ints n1 (by omega) W (n1 : Int) rfl
  have hnew := fun W => heap_alloc_new W (.cells (numVals .i64 (List.replicate n1 0)).toArray 3)
  have HA := Lib.hid ha; have H1 := Lib.hid h1; have H2 := Lib.hid h2; have E1 := Lib.hid e1; have HST0 := Lib.hid hst0; have HNEW := Lib.hid hnew; have HLB := Lib.hid hlb; have CO := Lib.hid co; have CM := Lib.hid cm; have HEND := Lib.hid hend
  clear ha va h1 h2 e1 e2 hae hst0 hnew hlb co cm hend
  go_enter Tryz.func81, Tryz.ntmps81
  go_wp2_with fail
  go_loopw [7, 8] (fun r i wr => ∃ (qs : List Nat) (R k : Nat) (ar : Option Addr) (kr : Nat), k ≤ n1 ∧ i = .int .i64 ((k : Int) - 1) ∧ r = .slice ar (digs R).length kr ∧ Hid (HoldI wr ar kr (digs R)) ∧ Hid (DivInv a qs n R k) ∧ Hid (IsI wr w.heap.size qs) ∧ Hid (Below w.heap.size w wr)) (fun _ i _ => (RowKit.intOf i + 1).toNat)
  case atStart => exact ⟨_, 0, n1, none, 0, Nat.le_refl _, rfl, rfl, HoldI.nil _ _ _, HST0.out, HNEW.out w, (Below.refl _ _).alloc (Nat.le_refl _) _⟩
  case round =>
    obtain ⟨qs, R, k, ar, kr, hk, rfl, rfl, hhr, hdi, hIs, hbr⟩ := hrel
    by_cases hk0 : k = 0
    · subst hk0
      have hneg : ¬ (0 : Int) ≤ ((0 : Nat) : Int) - 1 := by omega
      obtain ⟨t1, t2⟩ := HEND.out qs R hdi.out
      subst t2
      have hql : qs.length = n1 := by rw [hdi.out.1, E1.out]
      have hqd := hdi.out.2.1
      have htk := trimD_take _ hql hqd
      rw [t1] at htk
      have hh := hIs.out.holds (by rw [hql]; omega)
      rw [hql] at hh
      have c := trim_any qs hqd _ _ wr hh n1 hql
      rw [t1] at c
      have hh2 := hh.take (digs (m / n)).length
      rw [← htk] at hh2
      have C := Lib.hid c; have HH2 := Lib.hid hh2
      clear c hh hh2 htk hqd hql t1 hdi
      go_wp2_with fail
      refine C.out.mono ?_
      rintro e W1 ⟨rfl, rfl⟩
      go_wp2
      go_ret2
      exact ⟨_, _, _, _, rfl, HH2.out, hhr.out, hbr.out⟩
    · obtain ⟨j, rfl⟩ : ∃ j, k = j + 1 := ⟨k - 1, by omega⟩
      have hj : (((j + 1 : Nat) : Int) - 1) = (j : Int) := by omega
      rw [hj]
      have hj0 : (0 : Int) ≤ (j : Int) := by omega
      have hj1 : (j : Int) < (n1 : Int) := by omega
      have ja : j < a.length := by rw [E1.out]; omega
      obtain ⟨g1, o1, rfl, hg1, hs1⟩ := H1.out.at (by omega)
      have ca := (hs1.below hbr.out hg1) j ja
      have j1 := fun w => atI g1 o1 n1 c1 j (j : Int) rfl (by omega) w
      have hin := div_in HA.out hdi.out ja
      have hRl := HLB.out R hdi.out.2.2.1
      have xl := getD_dig HA.out j
      obtain ⟨x, hx⟩ : ∃ x, a.getD j 0 = x := ⟨_, rfl⟩
      rw [hx] at ca hin xl
      have htc := trim_cons x R
      have hdig : IsDig ([x] ++ digs R) := isDig_append (fun d hd => by simp at hd; omega) (digs_lt R)
      obtain ⟨D, hD⟩ : ∃ D, digs R = D := ⟨_, rfl⟩
      rw [hD] at hhr hRl htc hdig ⊢
      obtain ⟨q, hq⟩ : ∃ q, D.length = q := ⟨_, rfl⟩
      rw [hq] at hRl ⊢
      have hGl := hIs.out.lt
      have hsz := hbr.out.size
      have HIN := Lib.hid hin; have HTC := Lib.hid htc; have HDG := Lib.hid hdig; have HQ := Lib.hid hq
      clear hin htc hdig hq hD hx hdi hs1 hk0
      go_wp2_with (first | (at_builtin; refine walk_hold (w0 := wr) rfl _ _ rfl wr.heap.size _ [x] D rfl (ownI_new wr wr.heap.size [x] (Nat.le_refl _) (by simp [maxLen])) ((Below.refl wr.heap.size wr).alloc (Nat.le_refl _) _) (by simp) ar q kr rfl HQ.out (hhr.out.below ((Below.refl wr.heap.size wr).alloc (Nat.le_refl _) _) (Nat.le_refl _)) (by simp; omega) ?_; intro v3 W3 ho3 hb3))
      have hl3 : ([x] ++ D).length = q + 1 := by rw [List.length_append, HQ.out]; simp; omega
      obtain ⟨a3, k3, rfl, hh3, hn3⟩ := own_hold ho3 (q + 1) hl3 (by omega)
      have htk := trimD_take _ hl3 HDG.out
      have c := trim_any ([x] ++ D) HDG.out a3 k3 W3 hh3 (q + 1) hl3
      have ht2 : trimD ([x] ++ D) = digs (x + 10 * R) := HTC.out
      rw [ht2] at htk c
      have hh4 := hh3.take (digs (x + 10 * R)).length
      rw [← htk] at hh4
      have hIs3 := hIs.out.below hb3 hGl
      have hbr3 : Below w.heap.size w W3 := hbr.out.trans (hb3.mono hsz)
      have hne3 : ∀ p, a3 = some p → p.block ≠ w.heap.size := fun p hp => by have := hn3 p hp; omega
      have C := Lib.hid c; have HH4 := Lib.hid hh4; have HIS3 := Lib.hid hIs3; have HBR3 := Lib.hid hbr3; have HNE3 := Lib.hid hne3
      clear c hh3 hh4 hIs3 hbr3 hne3 htk ht2 hl3 hn3 ho3 hb3 hIs hbr hhr
      refine C.out.mono ?_
      rintro e W4 ⟨rfl, rfl⟩
      go_wp2_with fail
      go_loopw [7] (fun r wr2 => ∃ (qs : List Nat) (R2 t : Nat) (a2 : Option Addr) (k2 : Nat), r = .slice a2 (digs R2).length k2 ∧ Hid (HoldI wr2 a2 k2 (digs R2)) ∧ Hid (DivIn a qs n R2 j t) ∧ Hid (IsI wr2 w.heap.size qs) ∧ Hid (Below w.heap.size w wr2) ∧ Hid (∀ p, a2 = some p → p.block ≠ w.heap.size)) (fun _ wr2 => 10 - cellN wr2 w.heap.size j)
      case atStart => exact ⟨qs, _, 0, _, _, rfl, HH4.out, HIN.out, HIS3.out, HBR3.out, HNE3.out⟩
      case round =>
        obtain ⟨qs, R2, t, a2, k2, rfl, hh2, hdi, hIs2, hbr2, hne2⟩ := hrel
        have co := CO.out R2 a2 k2 wr hh2.out (H2.out.below hbr2.out (Nat.le_refl _))
        have hjq : j < qs.length := by rw [hdi.out.1]; exact ja
        by_cases hB : n ≤ R2
        · have hge := cmp_ge hB
          obtain ⟨z, hz⟩ : ∃ z, cmpI R2 n = z := ⟨_, rfl⟩
          rw [hz] at co hge
          have hge1 := hge.1
          have hge2 := hge.2
          have hstep := div_step hdi.out ja hB
          have ht9 := hstep.1
          have htt : qs.getD j 0 = t := hdi.out.2.2.1
          have hcm := fun kk => CM.out R2 hB a2 k2 (wr.drewN kk) (hh2.out.below (below_drewN (Below.refl wr.heap.size wr) kk) (Nat.le_refl _)) (H2.out.below (below_drewN hbr2.out kk) (Nat.le_refl _))
          have HCO := Lib.hid co; have HCM := Lib.hid hcm; have HST := Lib.hid hstep.2; have HTT := Lib.hid htt
          have hG2 := hIs2.out.lt
          clear co hcm hstep hge hz htt hdi hh2 hne2
          go_wp2_with fail
          refine HCO.out.mono ?_
          rintro e W5 ⟨rfl, kk, rfl⟩
          go_wp2_with fail
          refine (HCM.out kk).mono ?_
          rintro e W6 ⟨a6, k6, rfl, hh6, hb6, hn6⟩
          have hIs6 := (hIs2.out.drewN kk).below hb6 (by simpa using hG2)
          have hcell := hIs6.cell j hjq
          rw [HTT.out] at hcell
          have hfro := hIs6.frozen j
          have hat := fun w' => atI w.heap.size 0 n1 n1 j (j : Int) rfl (by omega) w'
          rw [Nat.zero_add] at hat
          have hne6 : ∀ p, a6 = some p → p.block ≠ w.heap.size := fun p hp => by have := hn6 p hp; simp at this; omega
          have hbw6 : Below w.heap.size w W6 := (below_drewN hbr2.out kk).trans (hb6.mono (by have := hbr2.out.size; simpa using this))
          have HIS6 := Lib.hid hIs6; have HH6 := Lib.hid hh6; have HNE6 := Lib.hid hne6; have HBW6 := Lib.hid hbw6
          clear hIs6 hh6 hne6 hbw6 hb6 hn6 HCM HCO
          have hwt : IntKind.i64.wrap ((t : Int) + 1) = (t : Int) + 1 := IntWalk.i64_in _ (by omega)
          go_wp2
          go_roundw
          case rel => exact ⟨qs.set j (t + 1), _, t + 1, a6, k6, rfl, HH6.out.store _ _ _ HNE6.out, HST.out, HIS6.out.store j (t + 1) _ (by omega), HBW6.out.setCell (Nat.le_refl _) _, HNE6.out⟩
          case measure =>
            have m1 := hIs2.out.cellN j hjq
            have m2 := (HIS6.out.store j (t + 1) ((t : Int) + 1) (by omega)).cellN j (by simpa using hjq)
            rw [HTT.out] at m1
            have m3 : (qs.set j (t + 1)).getD j 0 = t + 1 := by simp [List.getD_eq_getElem?_getD, hjq]
            rw [m3] at m2
            rw [m1]
            simp only [m2]
            omega
        · have hz := cmp_lt hB
          rw [hz] at co
          have hout := div_out hdi.out (by omega)
          have HCO := Lib.hid co; have HOUT := Lib.hid hout
          clear co hout hz hdi
          go_wp2_with fail
          refine HCO.out.mono ?_
          rintro e W5 ⟨rfl, kk, rfl⟩
          go_wp2
          go_roundw
          case rel => exact ⟨qs, R2, j, a2, k2, by omega, by go_num, rfl, hh2.out.below (below_drewN (Below.refl wr.heap.size wr) kk) (Nat.le_refl _), HOUT.out, hIs2.out.drewN kk, below_drewN hbr2.out kk⟩
          case measure => simp [RowKit.intOf]
end Go.Proofs.YtlcibnmcannapaaGreatDoor

namespace Go.Proofs.YtlcibnmcannapaaGreatDoor
open Go Go.Proofs Go.RowKit Go.Lib

set_option maxRecDepth 100000 in
set_option maxHeartbeats 4000000 in
theorem mulR_any (s t : ByteArray) (hs : s.size ≤ 1099511627776) (ht : t.size ≤ 1099511627776) (w : World) :
    Calls Tryz.prog 44 #[.string s, .string t] w fun e w' => e = .returned (.tuple #[.string (opT (· * ·) s t), .int .i64 (opZ (· * ·) s t)]) ∧ Below w.heap.size w w' := by
  have va := fun W => valid_any s hs W
  have vb := fun W => valid_any t ht W
  unfold opT opZ
  by_cases h1 : validB s = true
  · by_cases h2 : validB t = true
    · rw [h1] at va
      rw [h2] at vb
      obtain ⟨f1, g1⟩ := text_valid h1
      obtain ⟨f2, g2⟩ := text_valid h2
      rw [h1, h2, Bool.true_and, if_pos rfl, if_pos rfl]
      obtain ⟨x, hx⟩ : ∃ x, numB s = x := ⟨_, rfl⟩
      obtain ⟨y, hy⟩ : ∃ x, numB t = x := ⟨_, rfl⟩
      rw [hx] at f1 g1 ⊢
      rw [hy] at f2 g2 ⊢
      have d1 := fun W => digits_any x (fits_size f1) W
      have d2 := fun W => digits_any y (fits_size f2) W
      rw [← g1] at d1
      rw [← g2] at d2
      have l1 := fits_length f1
      have l2 := fits_length f2
      obtain ⟨b, hb⟩ : ∃ b, decide (x < 0) = b := ⟨_, rfl⟩
      obtain ⟨c, hc⟩ : ∃ b, decide (y < 0) = b := ⟨_, rfl⟩
      have i1 := intD_self x
      have i2 := intD_self y
      rw [hb] at d1 i1
      rw [hc] at d2 i2
      have cs := fun W a1 k1 a2 k2 (q1 : HoldI W a1 k1 (digs x.natAbs)) (q2 : HoldI W a2 k2 (digs y.natAbs)) => times_any x.natAbs y.natAbs a1 a2 k1 k2 _ _ W q1 q2 rfl rfl (by omega) (by omega)
      obtain ⟨s, hs1⟩ : ∃ s, (b != c) = s := ⟨_, rfl⟩
      have hs2 : (b == c) = !s := by rw [← hs1]; simp [bne]
      have hmul : intD s (x.natAbs * y.natAbs) = x * y := by
        rw [← hs1]
        conv => rhs; rw [← i1, ← i2]
        exact intD_mul b c _ _
      have ck := fun W a1 k1 (q1 : HoldI W a1 k1 (digs (x.natAbs * y.natAbs))) => checked_any s (x.natAbs * y.natAbs) a1 k1 _ W q1 rfl
      rw [hmul] at ck
      obtain ⟨p, hp⟩ : ∃ p, x.natAbs * y.natAbs = p := ⟨_, rfl⟩
      rw [hp] at cs ck
      have hL : (· * ·) x y = x * y := rfl
      rw [hL]
      obtain ⟨m, hm⟩ : ∃ m, (digs x.natAbs).length = m := ⟨_, rfl⟩
      obtain ⟨n, hn⟩ : ∃ m, (digs y.natAbs).length = m := ⟨_, rfl⟩
      rw [hm] at d1 cs
      rw [hn] at d2 cs
      have VA := Lib.hid va; have VB := Lib.hid vb; have D1 := Lib.hid d1; have D2 := Lib.hid d2; have CS := Lib.hid cs; have CK := Lib.hid ck
      clear va vb d1 d2 cs ck i1 i2 hb hc hL hp hmul hm hn h1 h2 g1 g2 hx hy f1 f2 l1 l2
      go_enter Tryz.func44, Tryz.ntmps44
      go_wp2_with fail
      refine (VA.out _).mono ?_
      rintro e w1 ⟨rfl, rfl⟩
      go_wp2_with fail
      refine (VB.out _).mono ?_
      rintro e w2 ⟨rfl, rfl⟩
      go_wp2_with fail
      refine (D1.out _).mono ?_
      rintro e w3 ⟨a1, k1, rfl, q1, b3⟩
      go_wp2_with fail
      refine (D2.out _).mono ?_
      rintro e w4 ⟨a2, k2, rfl, q2, b4⟩
      have B4 := Lib.hid (b3.trans (b4.mono b3.size))
      have C := Lib.hid (CS.out w4 a1 k1 a2 k2 (q1.below b4 (Nat.le_refl _)) q2)
      clear q1 q2 b3 b4 CS
      go_wp2_with fail
      refine C.out.mono ?_
      rintro e w5 ⟨a5, k5, rfl, q5, b5, _⟩
      have B5 := Lib.hid (B4.out.trans (b5.mono B4.out.size))
      have C5 := Lib.hid (CK.out w5 a5 k5 q5)
      clear q5 b5 CK
      go_wp2_with fail
      refine C5.out.mono ?_
      rintro e w6 ⟨rfl, b6⟩
      go_wp2
      go_ret2
      exact ⟨rfl, B5.out.trans (b6.mono B5.out.size)⟩
    · have h2' : validB t = false := by simpa using h2
      rw [h1] at va
      rw [h2'] at vb
      rw [h1, h2', Bool.and_false, if_neg (by simp), if_neg (by simp)]
      have VA := Lib.hid va; have VB := Lib.hid vb
      clear va vb h1 h2 h2'
      go_enter Tryz.func44, Tryz.ntmps44
      go_wp2_with fail
      refine (VA.out _).mono ?_
      rintro e w1 ⟨rfl, rfl⟩
      go_wp2_with fail
      refine (VB.out _).mono ?_
      rintro e w2 ⟨rfl, rfl⟩
      go_wp2
      go_ret2
      exact ⟨rfl, Below.refl _ _⟩
  · have h1' : validB s = false := by simpa using h1
    rw [h1'] at va
    rw [h1', Bool.false_and, if_neg (by simp), if_neg (by simp)]
    have VA := Lib.hid va
    clear va vb h1 h1'
    go_enter Tryz.func44, Tryz.ntmps44
    go_wp2_with fail
    refine (VA.out _).mono ?_
    rintro e w1 ⟨rfl, rfl⟩
    go_wp2
    go_ret2
    exact ⟨rfl, Below.refl _ _⟩
/-- The number whose digits a slice holds. -/
def readD (W : World) (v : Value) : Nat := match v with
  | .slice (some p) n _ => valD ((List.range n).map fun j => match W.cell? ⟨p.block, p.off + j, none⟩ with | some (.int _ q) => q.toNat | _ => 0)
  | _ => 0
theorem readD_hold {W : World} {ad : Option Addr} {c : Nat} {l : List Nat} (h : HoldI W ad c l) : readD W (.slice ad l.length c) = valD l := by
  by_cases h0 : 0 < l.length
  · obtain ⟨g, o, rfl, _, hn⟩ := h.at h0
    show valD _ = valD l
    congr 1
    apply List.ext_getElem
    · simp
    · intro i h1 h2
      have hc := hn i h2
      simp only [List.getElem_map, List.getElem_range, hc]
      simp [List.getD_eq_getElem?_getD, h2]
  · have hl : l = [] := List.eq_nil_of_length_eq_zero (by omega)
    subst hl
    cases ad <;> rfl
set_option maxRecDepth 100000 in
set_option maxHeartbeats 4000000 in
theorem gcdR_any (s t : ByteArray) (hs : s.size ≤ 1099511627776) (ht : t.size ≤ 1099511627776) (w : World) :
    Calls Tryz.prog 61 #[.string s, .string t] w fun e w' => e = .returned (.tuple #[.string (opT gcdI s t), .int .i64 (opZ gcdI s t)]) ∧ Below w.heap.size w w' := by
  have va := fun W => valid_any s hs W
  have vb := fun W => valid_any t ht W
  unfold opT opZ
  by_cases h1 : validB s = true
  · by_cases h2 : validB t = true
    · rw [h1] at va
      rw [h2] at vb
      obtain ⟨f1, g1⟩ := text_valid h1
      obtain ⟨f2, g2⟩ := text_valid h2
      rw [h1, h2, Bool.true_and, if_pos rfl, if_pos rfl]
      obtain ⟨x, hx⟩ : ∃ x, numB s = x := ⟨_, rfl⟩
      obtain ⟨y, hy⟩ : ∃ x, numB t = x := ⟨_, rfl⟩
      rw [hx] at f1 g1 ⊢
      rw [hy] at f2 g2 ⊢
      have d1 := fun W => digits_any x (fits_size f1) W
      have d2 := fun W => digits_any y (fits_size f2) W
      rw [← g1] at d1
      rw [← g2] at d2
      have l1 := fits_length f1
      have l2 := fits_length f2
      have hL : gcdI x y = ((Nat.gcd x.natAbs y.natAbs : Nat) : Int) := rfl
      rw [hL]
      obtain ⟨X, hX⟩ : ∃ X, x.natAbs = X := ⟨_, rfl⟩
      obtain ⟨Y, hY⟩ : ∃ X, y.natAbs = X := ⟨_, rfl⟩
      rw [hX] at d1 l1 ⊢
      rw [hY] at d2 l2 ⊢
      have hGf : Nat.gcd X Y < 10 ^ 200 := by
        have hf1 := lt_of_digs_length l1
        have hf2 := lt_of_digs_length l2
        rcases Nat.eq_zero_or_pos X with h | h
        · subst h; rw [Nat.gcd_zero_left]; exact hf2
        · exact Nat.lt_of_le_of_lt (Nat.gcd_le_left _ h) hf1
      obtain ⟨G, hG⟩ : ∃ G, Nat.gcd X Y = G := ⟨_, rfl⟩
      rw [hG]
      obtain ⟨m, hm⟩ : ∃ m, (digs X).length = m := ⟨_, rfl⟩
      obtain ⟨n, hn⟩ : ∃ m, (digs Y).length = m := ⟨_, rfl⟩
      rw [hm] at d1
      rw [hn] at d2
      have VA := Lib.hid va; have VB := Lib.hid vb; have D1 := Lib.hid d1; have D2 := Lib.hid d2; have HG := Lib.hid hG; have HM := Lib.hid hm; have HN := Lib.hid hn
      clear va vb d1 d2 hL hm hn h1 h2 g1 g2 hx hy f1 f2 hX hY hG hGf
      go_enter Tryz.func61, Tryz.ntmps61
      go_wp2_with fail
      refine (VA.out _).mono ?_
      rintro e w1 ⟨rfl, rfl⟩
      go_wp2_with fail
      refine (VB.out _).mono ?_
      rintro e w2 ⟨rfl, rfl⟩
      go_wp2_with fail
      refine (D1.out _).mono ?_
      rintro e w3 ⟨a1, k1, rfl, q1, b3⟩
      go_wp2_with fail
      refine (D2.out _).mono ?_
      rintro e w4 ⟨a2, k2, rfl, q2, b4⟩
      have B4 := Lib.hid (b3.trans (b4.mono b3.size))
      have Q1 := Lib.hid (q1.below b4 (Nat.le_refl _)); have Q2 := Lib.hid q2
      rw [← HM.out, ← HN.out]
      clear q1 q2 b3 b4 HM HN
      go_wp2_with fail
      go_loopw [7, 9] (fun v u wr => ∃ (K L : Nat) (a1 : Option Addr) (k1 : Nat) (a2 : Option Addr) (k2 : Nat), v = .slice a1 (digs K).length k1 ∧ u = .slice a2 (digs L).length k2 ∧ Hid (HoldI wr a1 k1 (digs K)) ∧ Hid (HoldI wr a2 k2 (digs L)) ∧ Hid (Nat.gcd K L = G) ∧ Hid (Below w.heap.size w wr) ∧ (digs K).length ≤ 200 ∧ (digs L).length ≤ 200) (fun _ u wr => readD wr u)
      case atStart => exact ⟨X, Y, a1, k1, a2, k2, rfl, rfl, Q1.out, Q2.out, HG.out, B4.out, by omega, by omega⟩
      case round =>
        obtain ⟨K, L, a1, k1, a2, k2, rfl, rfl, q1, q2, hg, hbr, lk, ll⟩ := hrel
        have hrd := readD_hold q2.out
        rw [valD_digs] at hrd
        by_cases hL0 : L = 0
        · subst hL0
          have hKG : K = G := by rw [← hg.out, Nat.gcd_zero_right]
          subst hKG
          have ck := checked_any false K a1 k1 _ wr q1.out rfl
          have hi : intD false K = (K : Int) := rfl
          rw [hi] at ck
          have CK := Lib.hid ck
          have hz : (digs 0).length = 0 := rfl
          clear ck hrd hi
          go_wp2_with fail
          refine CK.out.mono ?_
          rintro e w6 ⟨rfl, b6⟩
          go_wp2
          go_ret2
          exact ⟨rfl, hbr.out.trans (b6.mono hbr.out.size)⟩
        · have hLp : 0 < (digs L).length := by rw [digs_pos hL0]; simp
          have cd := divided_any K L (by omega) a1 a2 k1 k2 _ _ wr q1.out q2.out rfl rfl (by omega) (by omega)
          have hlt : K % L < L := Nat.mod_lt _ (by omega)
          have hg2 : Nat.gcd L (K % L) = G := by rw [← hg.out, Nat.gcd_comm K L, Nat.gcd_rec L K, Nat.gcd_comm]
          have hml := digs_length_mono (Nat.le_of_lt hlt)
          have hQ2 := q2
          obtain ⟨R, hR⟩ : ∃ R, K % L = R := ⟨_, rfl⟩
          obtain ⟨D, hD⟩ : ∃ D, K / L = D := ⟨_, rfl⟩
          rw [hR, hD] at cd
          rw [hR] at hg2 hml hlt
          obtain ⟨mK, hmK⟩ : ∃ q, (digs K).length = q := ⟨_, rfl⟩
          obtain ⟨mL, hmL⟩ : ∃ q, (digs L).length = q := ⟨_, rfl⟩
          rw [hmK, hmL] at cd
          rw [hmK]
          rw [hmL] at hLp hml ll hrd ⊢
          have hLp2 : (0 : Int) < (mL : Int) := by omega
          have CD := Lib.hid cd; have HG2 := Lib.hid hg2; have HML := Lib.hid hmL; have HRD := Lib.hid hrd; have HLT := Lib.hid hlt
          clear cd hg2 hR hD hmK hg q1 hL0 hmL hrd hlt
          go_wp2_with fail
          refine CD.out.mono ?_
          rintro e w6 ⟨a5, k5, a6, k6, rfl, _, q6, b6⟩
          have hrd6 := readD_hold q6
          rw [valD_digs] at hrd6
          have Q6 := Lib.hid q6; have QL := Lib.hid (hQ2.out.below b6 (Nat.le_refl _)); have B6 := Lib.hid (hbr.out.trans (b6.mono hbr.out.size)); have HR6 := Lib.hid hrd6
          clear q6 b6 hrd6 hQ2 hbr
          go_wp2
          go_roundw
          case rel => exact ⟨L, R, a2, k2, a6, k6, by rw [HML.out], rfl, QL.out, Q6.out, HG2.out, B6.out, by rw [HML.out]; exact ll, by omega⟩
          case measure =>
            have m1 := HRD.out
            have m2 := HR6.out
            simp only [m1, m2]
            exact HLT.out
    · have h2' : validB t = false := by simpa using h2
      rw [h1] at va
      rw [h2'] at vb
      rw [h1, h2', Bool.and_false, if_neg (by simp), if_neg (by simp)]
      have VA := Lib.hid va; have VB := Lib.hid vb
      clear va vb h1 h2 h2'
      go_enter Tryz.func61, Tryz.ntmps61
      go_wp2_with fail
      refine (VA.out _).mono ?_
      rintro e w1 ⟨rfl, rfl⟩
      go_wp2_with fail
      refine (VB.out _).mono ?_
      rintro e w2 ⟨rfl, rfl⟩
      go_wp2
      go_ret2
      exact ⟨rfl, Below.refl _ _⟩
  · have h1' : validB s = false := by simpa using h1
    rw [h1'] at va
    rw [h1', Bool.false_and, if_neg (by simp), if_neg (by simp)]
    have VA := Lib.hid va
    clear va vb h1 h1'
    go_enter Tryz.func61, Tryz.ntmps61
    go_wp2_with fail
    refine (VA.out _).mono ?_
    rintro e w1 ⟨rfl, rfl⟩
    go_wp2
    go_ret2
    exact ⟨rfl, Below.refl _ _⟩
end Go.Proofs.YtlcibnmcannapaaGreatDoor
