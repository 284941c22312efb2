/-
  The contracts of package integer for texts of numbers whose results fit; bounds of sums and products.
-/
import Derived.Test.YtildgpahacaglaaDoorSane3
namespace Go.Proofs.YtildgpahacaglaaDoor
open Go Go.Proofs Go.RowKit Go.Lib

theorem op_fit (f : Int → Int → Int) {x y : Int} (hx : Fits x) (hy : Fits y) (h : Fits (f x y)) : opT f (textI x) (textI y) = textI (f x y) ∧ opZ f (textI x) (textI y) = 0 := by
  unfold opT opZ
  rw [(valid_text hx).1, (valid_text hy).1, (valid_text hx).2, (valid_text hy).2, Bool.and_self, if_pos rfl, if_pos rfl]
  have h' : (f x y).natAbs < 10 ^ 200 := h
  unfold resT resZ
  rw [if_pos h', if_pos h']
  exact ⟨rfl, rfl⟩
theorem op_over (f : Int → Int → Int) {x y : Int} (hx : Fits x) (hy : Fits y) (h : ¬ Fits (f x y)) : opT f (textI x) (textI y) = ByteArray.empty ∧ opZ f (textI x) (textI y) = 30 := by
  unfold opT opZ
  rw [(valid_text hx).1, (valid_text hy).1, (valid_text hx).2, (valid_text hy).2, Bool.and_self, if_pos rfl, if_pos rfl]
  have h' : ¬ (f x y).natAbs < 10 ^ 200 := h
  unfold resT resZ
  rw [if_neg h', if_neg h']
  exact ⟨rfl, rfl⟩
theorem fit_le {x : Int} (h : Fits x) : (textI x).size ≤ 1099511627776 := by have := fits_size h; omega

theorem fits_of {x : Int} {a : Nat} (h : x.natAbs < 10 ^ a) (ha : a ≤ 200) : Fits x := Nat.lt_of_lt_of_le h (Nat.pow_le_pow_right (by decide) ha)
theorem abs_mul {x y : Int} {a b : Nat} (hx : x.natAbs < 10 ^ a) (hy : y.natAbs < 10 ^ b) : (x * y).natAbs < 10 ^ (a + b) := by
  rw [Int.natAbs_mul, Nat.pow_add]
  exact Nat.mul_lt_mul'' hx hy
theorem abs_add {x y : Int} {a : Nat} (hx : x.natAbs < 10 ^ a) (hy : y.natAbs < 10 ^ a) : (x + y).natAbs < 10 ^ (a + 1) := by
  rw [Nat.pow_succ]; omega
theorem abs_sub {x y : Int} {a : Nat} (hx : x.natAbs < 10 ^ a) (hy : y.natAbs < 10 ^ a) : (x - y).natAbs < 10 ^ (a + 1) := by
  rw [Nat.pow_succ]; omega
theorem abs_up {x : Int} {a b : Nat} (h : x.natAbs < 10 ^ a) (hab : a ≤ b) : x.natAbs < 10 ^ b := Nat.lt_of_lt_of_le h (Nat.pow_le_pow_right (by decide) hab)
theorem abs_small {x : Int} {a : Nat} (h : x.natAbs < 10) (ha : 1 ≤ a) : x.natAbs < 10 ^ a := Nat.lt_of_lt_of_le h (by have := Nat.pow_le_pow_right (n := 10) (by decide) ha; simpa using this)

theorem add_fit {x y : Int} (hx : Fits x) (hy : Fits y) (h : Fits (x + y)) (w : World) (hR : Ready w) :
    Calls Tryd.prog 14 #[.string (textI x), .string (textI y)] w fun e w' => e = .returned (.tuple #[.string (textI (x + y)), .int .i64 0]) ∧ Below w.heap.size w w' := by
  have c := add_i _ _ (fit_le hx) (fit_le hy) w hR
  rw [(op_fit (· + ·) hx hy h).1, (op_fit (· + ·) hx hy h).2] at c
  exact c
theorem sub_fit {x y : Int} (hx : Fits x) (hy : Fits y) (h : Fits (x - y)) (w : World) (hR : Ready w) :
    Calls Tryd.prog 15 #[.string (textI x), .string (textI y)] w fun e w' => e = .returned (.tuple #[.string (textI (x - y)), .int .i64 0]) ∧ Below w.heap.size w w' := by
  have c := sub_i _ _ (fit_le hx) (fit_le hy) w hR
  rw [(op_fit (· - ·) hx hy h).1, (op_fit (· - ·) hx hy h).2] at c
  exact c
theorem mul_fit {x y : Int} (hx : Fits x) (hy : Fits y) (h : Fits (x * y)) (w : World) (hR : Ready w) :
    Calls Tryd.prog 16 #[.string (textI x), .string (textI y)] w fun e w' => e = .returned (.tuple #[.string (textI (x * y)), .int .i64 0]) ∧ Below w.heap.size w w' := by
  have c := mul_i _ _ (fit_le hx) (fit_le hy) w hR
  rw [(op_fit (· * ·) hx hy h).1, (op_fit (· * ·) hx hy h).2] at c
  exact c
theorem gcd_fits {x y : Int} (hx : Fits x) (hy : Fits y) : Fits (gcdI x y) := by
  unfold Fits gcdI at *
  rw [Int.natAbs_natCast]
  rcases Nat.eq_zero_or_pos x.natAbs with h | h
  · rw [h, Nat.gcd_zero_left]; exact hy
  · exact Nat.lt_of_le_of_lt (Nat.gcd_le_left _ h) hx
theorem gcd_fit {x y : Int} (hx : Fits x) (hy : Fits y) (w : World) (hR : Ready w) :
    Calls Tryd.prog 21 #[.string (textI x), .string (textI y)] w fun e w' => e = .returned (.tuple #[.string (textI (gcdI x y)), .int .i64 0]) ∧ Below w.heap.size w w' := by
  have c := gcd_i _ _ (fit_le hx) (fit_le hy) w hR
  rw [(op_fit gcdI hx hy (gcd_fits hx hy)).1, (op_fit gcdI hx hy (gcd_fits hx hy)).2] at c
  exact c
theorem cmp_fit {x y : Int} (hx : Fits x) (hy : Fits y) (w : World) (hR : Ready w) :
    Calls Tryd.prog 17 #[.string (textI x), .string (textI y)] w fun e w' => e = .returned (.int .i64 (sgnI x y)) ∧ Below w.heap.size w w' := by
  have c := cmp_i _ _ (fit_le hx) (fit_le hy) w hR
  unfold cmpB at c
  rw [(valid_text hx).1, (valid_text hy).1, (valid_text hx).2, (valid_text hy).2, Bool.and_self, if_pos rfl] at c
  exact c
theorem div_fit {x y : Int} (hx : Fits x) (hy : Fits y) (h0 : y ≠ 0) (h : Fits (x / y)) (w : World) (hR : Ready w) :
    Calls Tryd.prog 18 #[.string (textI x), .string (textI y)] w fun e w' => e = .returned (.tuple #[.string (textI (x / y)), .string (textI (x % y)), .int .i64 0]) ∧ Below w.heap.size w w' := by
  have c := div_i _ _ (fit_le hx) (fit_le hy) w hR
  unfold divQ divR divZ resR at c
  rw [(valid_text hx).1, (valid_text hy).1, (valid_text hx).2, (valid_text hy).2, decide_eq_true h0] at c
  simp only [Bool.and_self, if_true] at c
  unfold resT resZ at c
  have h' : (x / y).natAbs < 10 ^ 200 := h
  simp only [h', if_true] at c
  exact c
theorem div_zero {x : Int} (hx : Fits x) (w : World) (hR : Ready w) :
    Calls Tryd.prog 18 #[.string (textI x), .string (textI 0)] w fun e w' => e = .returned (.tuple #[.string ByteArray.empty, .string ByteArray.empty, .int .i64 30]) ∧ Below w.heap.size w w' := by
  have hy : Fits 0 := by unfold Fits; decide
  have c := div_i _ _ (fit_le hx) (fit_le hy) w hR
  unfold divQ divR divZ at c
  rw [(valid_text hx).1, (valid_text hy).1, (valid_text hx).2, (valid_text hy).2] at c
  simpa using c
theorem valid_fit {x : Int} (hx : Fits x) (w : World) (hR : Ready w) :
    Calls Tryd.prog 19 #[.string (textI x)] w fun e w' => e = .returned (.bool true) ∧ Below w.heap.size w w' := by
  have c := valid_i _ (fit_le hx) w hR
  rw [(valid_text hx).1] at c
  exact c
theorem root_fit {x : Nat} (hx : Fits x) (w : World) (hR : Ready w) :
    Calls Tryd.prog 22 #[.string (textI x)] w fun e w' => ∃ r : Nat, r * r ≤ x ∧ x < (r + 1) * (r + 1) ∧ e = .returned (.tuple #[.string (textI (r : Int)), .int .i64 0]) ∧ Below w.heap.size w w' := by
  have c := root_i _ (fit_le hx) w hR
  rw [(valid_text hx).1, (valid_text hx).2, decide_eq_true (by omega), Bool.and_self, Int.natAbs_natCast] at c
  refine c.mono ?_
  rintro e w1 ⟨b, r, h1, h2, rfl⟩
  exact ⟨r, h1, h2, rfl, b⟩
theorem root_neg {x : Int} (hx : Fits x) (h : x < 0) (w : World) (hR : Ready w) :
    Calls Tryd.prog 22 #[.string (textI x)] w fun e w' => e = .returned (.tuple #[.string ByteArray.empty, .int .i64 30]) ∧ Below w.heap.size w w' := by
  have c := root_i _ (fit_le hx) w hR
  rw [(valid_text hx).2, decide_eq_false (by omega), Bool.and_false] at c
  refine c.mono ?_
  rintro e w1 ⟨b, rfl⟩
  exact ⟨rfl, b⟩

def zeroT : ByteArray := ⟨#[48]⟩
def oneT : ByteArray := ⟨#[49]⟩
theorem text0 : textI 0 = ⟨#[48]⟩ := by decide +kernel
theorem text1 : textI 1 = ⟨#[49]⟩ := by decide +kernel
theorem fits0 : Fits 0 := by unfold Fits; decide
theorem fits1 : Fits 1 := by unfold Fits; decide
end Go.Proofs.YtildgpahacaglaaDoor
