/-
  Plain mathematics of layer 6: raw numbers, how they are reduced, what is drawn, and what is chosen.
-/
import Derived.Test.YtdolmahodhgfpaaDoorW1Wire
import Derived.Test.YtdolmahodhgfpaaDoorTree
namespace Go.Proofs.YtdolmahodhgfpaaDoor

/-- The greatest multiple of a bound that is at most 2 to the power of 62. -/
def limS (b : Int) : Int := 4611686018427387904 / b * b
def redB (raw b : Int) : Bool := decide (1 ≤ b ∧ b ≤ 4611686018427387903 ∧ 0 ≤ raw ∧ raw < limS b)
def redV (raw b : Int) : Int := if redB raw b then raw % b else 0
theorem lim_facts {b : Int} (h1 : 1 ≤ b) (h2 : b ≤ 4611686018427387903) : limS b % b = 0 ∧ 2305843009213693952 < limS b ∧ 4611686018427387904 - limS b < b ∧ limS b ≤ 4611686018427387904 := by
  have e := Int.mul_ediv_add_emod 4611686018427387904 b
  have r0 := Int.emod_nonneg 4611686018427387904 (show b ≠ 0 by omega)
  have r1 := Int.emod_lt_of_pos 4611686018427387904 (show 0 < b by omega)
  have q1 : 1 ≤ 4611686018427387904 / b := by
    rcases Int.lt_or_le (4611686018427387904 / b) 1 with h | h
    · have h0 : 0 ≤ 4611686018427387904 / b := Int.ediv_nonneg (by decide) (by omega)
      have hz : 4611686018427387904 / b = 0 := by omega
      rw [hz] at e
      omega
    · exact h
  have hm : b * 1 ≤ b * (4611686018427387904 / b) := Int.mul_le_mul_of_nonneg_left q1 (by omega)
  unfold limS
  rw [Int.mul_comm]
  generalize 4611686018427387904 / b = q at *
  generalize 4611686018427387904 % b = r at *
  generalize hp : b * q = p at *
  refine ⟨?_, by omega, by omega, by omega⟩
  rw [← hp]
  exact Int.mul_emod_right b q
theorem red_facts {raw b : Int} (h : redB raw b = true) : redV raw b = raw % b ∧ 0 ≤ redV raw b ∧ redV raw b < b ∧ (raw - redV raw b) % b = 0 := by
  have hb := of_decide_eq_true h
  unfold redV
  rw [if_pos h]
  exact ⟨rfl, Int.emod_nonneg _ (by omega), Int.emod_lt_of_pos _ (by omega), by rw [Int.sub_emod, Int.emod_emod_of_dvd _ (Int.dvd_refl b), Int.sub_self]; rfl⟩
theorem red_no {raw b : Int} (h : redB raw b = false) : redV raw b = 0 := by unfold redV; rw [h]; rfl
/-- The raw number that a digest begins with. -/
def rawN (d : List Nat) : Nat := 64 * ((d.take 7).foldl (fun a x => 256 * a + x) 0) + d.getD 7 0 / 4
def rawT (s : ByteArray) (i j : Int) : ByteArray := W1.putS s ++ W1.encS i ++ W1.encS j
def rawS (s : ByteArray) (i j : Int) : Nat := rawN (natsOf (sha (rawT s i j)))
def namedB (s : ByteArray) (i : Int) : Bool := decide (1 ≤ s.size ∧ s.size ≤ 40 ∧ 0 ≤ i ∧ i ≤ 4611686018427387903)
def rawB (s : ByteArray) (i j : Int) : Bool := namedB s i && decide (0 ≤ j ∧ j < 64)
theorem natsOf_lt (s : ByteArray) : ∀ x ∈ natsOf s, x < 256 := by
  intro x hx
  unfold natsOf at hx
  obtain ⟨y, _, rfl⟩ := List.mem_map.1 hx
  exact y.toNat_lt
theorem fold256_lt : ∀ (l : List Nat) (a : Nat), (∀ x ∈ l, x < 256) → l.foldl (fun a x => 256 * a + x) a < (a + 1) * 256 ^ l.length
  | [], a, _ => by simp
  | x :: l, a, h => by
    have hx := h x (by simp)
    have ih := fold256_lt l (256 * a + x) (fun y hy => h y (by simp [hy]))
    rw [List.foldl_cons, List.length_cons, Nat.pow_succ]
    refine Nat.lt_of_lt_of_le ih ?_
    rw [Nat.mul_comm (256 ^ l.length) 256, ← Nat.mul_assoc]
    exact Nat.mul_le_mul_right _ (by omega)
theorem rawN_lt {d : List Nat} (h : ∀ x ∈ d, x < 256) : rawN d < 4611686018427387904 := by
  have h1 := fold256_lt (d.take 7) 0 (fun x hx => h x (List.mem_of_mem_take hx))
  have h2 : (d.take 7).length ≤ 7 := by rw [List.length_take]; omega
  have h3 : 256 ^ (d.take 7).length ≤ 256 ^ 7 := Nat.pow_le_pow_right (by decide) h2
  have h4 : d.getD 7 0 < 256 := by
    rw [List.getD_eq_getElem?_getD]
    cases e : d[7]? with
    | none => decide
    | some x => exact h x (List.mem_of_getElem? e)
  unfold rawN
  generalize (d.take 7).foldl (fun a x => 256 * a + x) 0 = n at *
  rw [Nat.zero_add, Nat.one_mul] at h1
  have h5 : (256 : Nat) ^ 7 = 72057594037927936 := by decide
  omega
theorem rawS_lt (s : ByteArray) (i j : Int) : rawS s i j < 4611686018427387904 := rawN_lt (natsOf_lt _)
/-- The first try that is reduced. -/
def drawF (s : ByteArray) (i b : Int) : Nat → Nat → Option Int
  | 0, _ => none
  | f + 1, j => if redB (rawS s i j) b then some (redV (rawS s i j) b) else drawF s i b f (j + 1)
def drawO (s : ByteArray) (i b : Int) : Option Int := if namedB s i then drawF s i b 64 0 else none
def drawV (s : ByteArray) (i b : Int) : Int := (drawO s i b).getD 0
def drawE (s : ByteArray) (i b : Int) : Int := if (drawO s i b).isSome then 0 else 60
theorem drawF_step {s : ByteArray} {i b : Int} {j : Nat} (hj : j < 64) : drawF s i b (64 - j) j = if redB (rawS s i j) b then some (redV (rawS s i j) b) else drawF s i b (64 - (j + 1)) (j + 1) := by
  rw [show 64 - j = (64 - (j + 1)) + 1 by omega]
  rfl
theorem drawF_range {s : ByteArray} {i b : Int} : ∀ (f j : Nat) {n : Int}, drawF s i b f j = some n → 0 ≤ n ∧ n < b
  | 0, _, _, h => by cases h
  | f + 1, j, n, h => by
    unfold drawF at h
    split at h
    · rename_i hr
      injection h with h
      have k := red_facts hr
      omega
    · exact drawF_range f (j + 1) h
theorem drawO_range {s : ByteArray} {i b n : Int} (h : drawO s i b = some n) : 0 ≤ n ∧ n < b := by
  unfold drawO at h
  split at h
  · exact drawF_range 64 0 h
  · cases h
/-- The smallest index at which the sum is greater. -/
def chooseF (d : Int) : List Int → Int → Nat → Option Nat
  | [], _, _ => none
  | x :: l, a, i => if d < a + x then some i else chooseF d l (a + x) (i + 1)
def chooseB (ws : List Int) (d : Int) : Bool := decide (ws.length ≤ 200 ∧ 0 ≤ d) && ws.all fun x => decide (0 ≤ x ∧ x ≤ 1125899906842624)
def chooseO (ws : List Int) (d : Int) : Option Nat := if chooseB ws d then chooseF d ws 0 0 else none
end Go.Proofs.YtdolmahodhgfpaaDoor
