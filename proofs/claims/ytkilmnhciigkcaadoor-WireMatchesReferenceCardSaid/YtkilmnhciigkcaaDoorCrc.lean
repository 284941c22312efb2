/-
  Plain mathematics of the checksum: one bit is shifted out by a linear map; the register is the map applied to the bytes as one number.
-/
import Derived.Test.YtkilmnhciigkcaaDoorSum
namespace Go.Proofs.YtkilmnhciigkcaaDoor
open Go Go.Lib

/-- One bit is shifted out. -/
def crcT (r : Nat) : Nat := if r % 2 = 1 then (r / 2) ^^^ 2197175160 else r / 2
/-- n bits. -/
def crcN : Nat → Nat → Nat
  | 0, r => r
  | n + 1, r => crcN n (crcT r)

theorem xor_div (a b k : Nat) : (a ^^^ b) / 2 ^ k = (a / 2 ^ k) ^^^ (b / 2 ^ k) := by
  rw [← Nat.shiftRight_eq_div_pow, ← Nat.shiftRight_eq_div_pow, ← Nat.shiftRight_eq_div_pow, Nat.shiftRight_xor_distrib]
theorem xor_div2 (a b : Nat) : (a ^^^ b) / 2 = (a / 2) ^^^ (b / 2) := xor_div a b 1
theorem xor_mod2 (a b : Nat) : (a ^^^ b) % 2 = (a % 2) ^^^ (b % 2) := Nat.xor_mod_two_pow (n := 1)

theorem crcT_xor (a b : Nat) : crcT (a ^^^ b) = crcT a ^^^ crcT b := by
  unfold crcT
  rw [xor_mod2, xor_div2]
  have ha : a % 2 = 0 ∨ a % 2 = 1 := by omega
  have hb : b % 2 = 0 ∨ b % 2 = 1 := by omega
  rcases ha with ha | ha <;> rcases hb with hb | hb <;> rw [ha, hb]
  · simp
  · simp [Nat.xor_assoc]
  · simp only [Nat.xor_zero, if_true]
    rw [if_neg (by decide), Nat.xor_assoc, Nat.xor_comm (b / 2), ← Nat.xor_assoc]
  · simp only [Nat.xor_self, if_true]
    rw [if_neg (by decide), Nat.xor_assoc, Nat.xor_comm 2197175160, Nat.xor_assoc, Nat.xor_self, Nat.xor_zero]
theorem crcN_xor : ∀ (n a b : Nat), crcN n (a ^^^ b) = crcN n a ^^^ crcN n b
  | 0, _, _ => rfl
  | n + 1, a, b => by simp only [crcN]; rw [crcT_xor, crcN_xor n]
theorem crcN_add : ∀ (m n r : Nat), crcN (m + n) r = crcN n (crcN m r)
  | 0, n, r => by simp [crcN]
  | m + 1, n, r => by rw [show m + 1 + n = (m + n) + 1 by omega]; simp only [crcN]; exact crcN_add m n _
theorem crcT_double (a : Nat) : crcT (a * 2) = a := by unfold crcT; rw [if_neg (by omega)]; omega
theorem crcN_shift : ∀ (k a : Nat), crcN k (a * 2 ^ k) = a
  | 0, a => by simp [crcN]
  | k + 1, a => by
    simp only [crcN]
    rw [Nat.pow_succ, ← Nat.mul_assoc, crcT_double, crcN_shift k a]
theorem crcT_pos {r : Nat} (h0 : 0 < r) (h1 : r < 4294967296) : 0 < crcT r ∧ crcT r < 4294967296 := by
  unfold crcT
  by_cases h : r % 2 = 1
  · rw [if_pos h]
    constructor
    · rcases Nat.eq_zero_or_pos ((r / 2) ^^^ 2197175160) with e | e
      · have h2 : r / 2 = 2197175160 := by
          have h3 := congrArg (fun z => z ^^^ 2197175160) e
          simpa only [Nat.xor_assoc, Nat.xor_self, Nat.xor_zero, Nat.zero_xor] using h3
        omega
      · exact e
    · exact xor_lt32 (by omega) (by decide)
  · rw [if_neg h]; omega
theorem crcN_pos : ∀ (n : Nat) {r : Nat}, 0 < r → r < 4294967296 → 0 < crcN n r
  | 0, _, h0, _ => h0
  | n + 1, _, h0, h1 => crcN_pos n (crcT_pos h0 h1).1 (crcT_pos h0 h1).2
theorem crcT_lt {r : Nat} (h1 : r < 4294967296) : crcT r < 4294967296 := by
  rcases Nat.eq_zero_or_pos r with h | h
  · subst h; decide
  · exact (crcT_pos h h1).2

theorem split_xor (r k : Nat) : (r / 2 ^ k) * 2 ^ k ^^^ r % 2 ^ k = r := by
  apply Nat.eq_of_testBit_eq
  intro i
  rw [Nat.testBit_xor, Nat.testBit_mul_two_pow, Nat.testBit_mod_two_pow, Nat.testBit_div_two_pow]
  by_cases h : i < k
  · have : ¬ k ≤ i := by omega
    simp [h, this]
  · have h2 : k ≤ i := by omega
    simp [h, h2]

theorem crcTab_N : ∀ i, i < 16 → crcTab i = crcN 4 i := by decide
theorem crc4_eq (r : Nat) : crc4 r = crcN 4 r := by
  unfold crc4
  conv => rhs; rw [← split_xor r 4]
  rw [crcN_xor, crcN_shift, crcTab_N _ (by omega)]
theorem crc8_eq (r : Nat) (b : UInt8) : crc8 r b = crcN 8 (r ^^^ b.toNat) := by
  unfold crc8
  rw [crc4_eq, crc4_eq, show (8 : Nat) = 4 + 4 from rfl, crcN_add]

/-- The bytes as one number, the first one lowest. -/
def leNum : List UInt8 → Nat
  | [] => 0
  | b :: l => (leNum l) * 2 ^ 8 ^^^ b.toNat
theorem fold_eq : ∀ (l : List UInt8) (r : Nat), l.foldl crc8 r = crcN (8 * l.length) (r ^^^ leNum l)
  | [], r => by simp [crcN, leNum]
  | b :: l, r => by
    simp only [List.foldl_cons, List.length_cons, leNum]
    rw [fold_eq l, crc8_eq, show 8 * (l.length + 1) = 8 + 8 * l.length by omega, crcN_add]
    congr 1
    conv => lhs; rw [← crcN_shift 8 (leNum l)]
    rw [← crcN_xor]
    congr 1
    rw [Nat.xor_assoc, Nat.xor_comm b.toNat]
theorem crcF_eq (l : List UInt8) : crcF l = crcN (8 * l.length) (4294967295 ^^^ leNum l) := fold_eq l _

/-- The checksum of the XOR of three strings of one length. -/
theorem crcF_xor3 {x a b c : List UInt8} (ha : a.length = x.length) (hb : b.length = x.length) (hc : c.length = x.length) (h : leNum x = (leNum a ^^^ leNum b) ^^^ leNum c) :
    crcF x = (crcF a ^^^ crcF b) ^^^ crcF c := by
  rw [crcF_eq, crcF_eq, crcF_eq, crcF_eq, ha, hb, hc, h, ← crcN_xor, ← crcN_xor]
  congr 1
  generalize leNum a = p
  generalize leNum b = q
  generalize leNum c = r
  apply Nat.eq_of_testBit_eq
  intro i
  simp only [Nat.testBit_xor]
  cases Nat.testBit 4294967295 i <;> cases p.testBit i <;> cases q.testBit i <;> cases r.testBit i <;> rfl

theorem leNum_xor3 : ∀ (x a b c : List UInt8), a.length = x.length → b.length = x.length → c.length = x.length →
    (∀ i (h : i < x.length) (h1 : i < a.length) (h2 : i < b.length) (h3 : i < c.length), x[i].toNat = (a[i].toNat ^^^ b[i].toNat) ^^^ c[i].toNat) → leNum x = (leNum a ^^^ leNum b) ^^^ leNum c
  | [], a, b, c, ha, hb, hc, _ => by
    rw [List.length_eq_zero_iff.1 ha, List.length_eq_zero_iff.1 hb, List.length_eq_zero_iff.1 hc]; rfl
  | x :: xs, a :: as1, b :: bs, c :: cs, ha, hb, hc, h => by
    have h0 := h 0 (by simp) (by simp) (by simp) (by simp)
    simp only [List.getElem_cons_zero] at h0
    have ih := leNum_xor3 xs as1 bs cs (by simpa using ha) (by simpa using hb) (by simpa using hc) (fun i hi h1 h2 h3 => by
      have := h (i + 1) (by simpa using hi) (by simpa using h1) (by simpa using h2) (by simpa using h3)
      simpa using this)
    simp only [leNum]
    rw [ih, h0]
    apply Nat.eq_of_testBit_eq
    intro i
    simp only [Nat.testBit_xor, Nat.testBit_mul_two_pow]
    by_cases hi : 8 ≤ i
    · simp only [hi, decide_true, Bool.true_and]
      cases (leNum as1).testBit (i - 8) <;> cases (leNum bs).testBit (i - 8) <;> cases (leNum cs).testBit (i - 8) <;> cases a.toNat.testBit i <;> cases b.toNat.testBit i <;> cases c.toNat.testBit i <;> rfl
    · simp [hi]
  | _ :: _, [], _, _, ha, _, _, _ => by simp at ha
  | _ :: _, _ :: _, [], _, _, hb, _, _ => by simp at hb
  | _ :: _, _ :: _, _ :: _, [], _, _, hc, _ => by simp at hc

/-- Flipping bit k of the bytes flips bit k of the number. -/
theorem leNum_set : ∀ (l : List UInt8) (i : Nat) (h : i < l.length) (v : UInt8) (m : Nat), m < 8 → v.toNat = l[i].toNat ^^^ 2 ^ m → leNum (l.set i v) = leNum l ^^^ 2 ^ (8 * i + m)
  | b :: l, 0, _, v, m, _, hv => by
    simp only [List.set_cons_zero, leNum, Nat.mul_zero, Nat.zero_add]
    simp only [List.getElem_cons_zero] at hv
    rw [hv, Nat.xor_assoc]
  | b :: l, i + 1, h, v, m, hm, hv => by
    simp only [List.set_cons_succ, leNum]
    simp only [List.getElem_cons_succ] at hv
    rw [leNum_set l i (by simpa using h) v m hm hv]
    apply Nat.eq_of_testBit_eq
    intro j
    simp only [Nat.testBit_xor, Nat.testBit_mul_two_pow, Nat.testBit_two_pow]
    by_cases hj : 8 ≤ j
    · have e : decide (8 * i + m = j - 8) = decide (8 * (i + 1) + m = j) := by
        apply Bool.eq_iff_iff.2; simp; omega
      simp only [hj, decide_true, Bool.true_and, e]
      cases (leNum l).testBit (j - 8) <;> cases b.toNat.testBit j <;> cases decide (8 * (i + 1) + m = j) <;> rfl
    · have e : decide (8 * (i + 1) + m = j) = false := by simp; omega
      simp [hj, e]

/-- A change of at most 32 consecutive bits changes the register. -/
theorem crcF_burst {x y : List UInt8} (hl : y.length = x.length) {p f : Nat} (hf : f ≤ 8 * x.length) (hp0 : 0 < p) (hp : p < 4294967296) (h : leNum y = leNum x ^^^ p * 2 ^ f) : crcF y ≠ crcF x := by
  intro e
  rw [crcF_eq, crcF_eq, hl, h, ← Nat.xor_assoc, crcN_xor] at e
  have e2 : crcN (8 * x.length) (p * 2 ^ f) = 0 := by
    have h2 := congrArg (fun z => crcN (8 * x.length) (4294967295 ^^^ leNum x) ^^^ z) e
    simp only [← Nat.xor_assoc, Nat.xor_self, Nat.zero_xor] at h2
    exact h2
  rw [show 8 * x.length = f + (8 * x.length - f) by omega, crcN_add, crcN_shift] at e2
  have := crcN_pos (8 * x.length - f) hp0 hp
  omega
theorem mod_set {b k : Nat} (h : b / 2 ^ k % 2 = 1) : b % 2 ^ (k + 1) = b % 2 ^ k ^^^ 2 ^ k := by
  have hk : b.testBit k = true := by rw [Nat.testBit_eq_decide_div_mod_eq, decide_eq_true_iff]; exact h
  apply Nat.eq_of_testBit_eq
  intro i
  rw [Nat.testBit_xor, Nat.testBit_mod_two_pow, Nat.testBit_mod_two_pow, Nat.testBit_two_pow]
  by_cases h1 : i < k
  · have h2 : i < k + 1 := by omega
    have h3 : ¬ k = i := by omega
    simp [h1, h2, h3]
  · by_cases h2 : i = k
    · subst h2; simp [hk]
    · have h3 : ¬ i < k + 1 := by omega
      have h4 : ¬ k = i := by omega
      simp [h1, h3, h4]
theorem mod_clear {b k : Nat} (h : ¬ b / 2 ^ k % 2 = 1) : b % 2 ^ (k + 1) = b % 2 ^ k := by
  rw [Nat.mod_pow_succ, show b / 2 ^ k % 2 = 0 by omega]; simp
theorem mod_set_pos {b k : Nat} (h : b / 2 ^ k % 2 = 1) : 0 < b % 2 ^ (k + 1) := by
  rw [Nat.mod_pow_succ, h]
  have := Nat.two_pow_pos k
  omega
theorem shift_xor (x k f : Nat) : (x ^^^ 2 ^ k) * 2 ^ f = x * 2 ^ f ^^^ 2 ^ (f + k) := by
  apply Nat.eq_of_testBit_eq
  intro i
  simp only [Nat.testBit_xor, Nat.testBit_mul_two_pow, Nat.testBit_two_pow]
  by_cases h : f ≤ i
  · have e : decide (k = i - f) = decide (f + k = i) := by apply Bool.eq_iff_iff.2; simp; omega
    simp [h, e]
  · have e : decide (f + k = i) = false := by simp; omega
    simp [h, e]
end Go.Proofs.YtkilmnhciigkcaaDoor
