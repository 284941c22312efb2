/-
  Plain mathematics of layer 2: the tree of digests over any digest function; roots, proofs of entries and of beginnings, and what they bind.
-/
import Derived.Test.YtdolmahodhgfpaaDoorSha
namespace Go.Proofs.YtdolmahodhgfpaaDoor

/-- The greatest power of two that is less than n. -/
def splitN (n : Nat) : Nat := 2 ^ Nat.log2 (n - 1)
theorem splitN_pos (n : Nat) : 1 ≤ splitN n := Nat.one_le_two_pow
theorem splitN_lt {n : Nat} (h : 2 ≤ n) : splitN n < n := by
  have := Nat.log2_self_le (n := n - 1) (by omega)
  unfold splitN; omega
theorem splitN_ge {n : Nat} (h : 2 ≤ n) : n ≤ 2 * splitN n := by
  have := Nat.lt_log2_self (n := n - 1)
  unfold splitN
  rw [Nat.pow_succ] at this; omega
/-- The only power of two that does so. -/
theorem splitN_of_pow {n e : Nat} (h : 2 ^ e < n) (h2 : n ≤ 2 * 2 ^ e) : 2 ^ e = splitN n := by
  have hn : n - 1 ≠ 0 := by have := Nat.one_le_two_pow (n := e); omega
  have : Nat.log2 (n - 1) = e := by
    rw [Nat.log2_eq_iff hn]
    rw [Nat.pow_succ]; omega
  unfold splitN; rw [this]

def tagged (t : UInt8) (s : ByteArray) : ByteArray := (⟨#[t]⟩ : ByteArray) ++ s
def leafF (s : ByteArray) : ByteArray := sha (tagged 0 s)
def nodeF (a b : ByteArray) : ByteArray := sha (tagged 1 (a ++ b))
def chainF (h r : ByteArray) : ByteArray := sha (tagged 2 (h ++ r))

def rootF (l : List ByteArray) : ByteArray :=
  if _h : l.length ≤ 1 then (match l with | [] => sha ByteArray.empty | a :: _ => leafF a)
  else nodeF (rootF (l.take (splitN l.length))) (rootF (l.drop (splitN l.length)))
termination_by l.length
decreasing_by
  · have := splitN_lt (n := l.length) (by omega); simp; omega
  · have := splitN_pos l.length; simp; omega
theorem rootF_nil : rootF [] = sha ByteArray.empty := by rw [rootF]; rfl
theorem rootF_one (a : ByteArray) : rootF [a] = leafF a := by rw [rootF]; rfl
theorem rootF_big {l : List ByteArray} (h : 2 ≤ l.length) : rootF l = nodeF (rootF (l.take (splitN l.length))) (rootF (l.drop (splitN l.length))) := by
  rw [rootF, dif_neg (by omega)]

def proofF (l : List ByteArray) (i : Nat) : List ByteArray :=
  if _h : l.length ≤ 1 then []
  else if i < splitN l.length then proofF (l.take (splitN l.length)) i ++ [rootF (l.drop (splitN l.length))]
  else proofF (l.drop (splitN l.length)) (i - splitN l.length) ++ [rootF (l.take (splitN l.length))]
termination_by l.length
decreasing_by
  · have := splitN_lt (n := l.length) (by omega); simp; omega
  · have := splitN_pos l.length; simp; omega
theorem proofF_small {l : List ByteArray} (h : l.length ≤ 1) (i : Nat) : proofF l i = [] := by rw [proofF, dif_pos h]
theorem proofF_lo {l : List ByteArray} (h : 2 ≤ l.length) {i : Nat} (hi : i < splitN l.length) :
    proofF l i = proofF (l.take (splitN l.length)) i ++ [rootF (l.drop (splitN l.length))] := by rw [proofF, dif_neg (by omega), if_pos hi]
theorem proofF_hi {l : List ByteArray} (h : 2 ≤ l.length) {i : Nat} (hi : ¬ i < splitN l.length) :
    proofF l i = proofF (l.drop (splitN l.length)) (i - splitN l.length) ++ [rootF (l.take (splitN l.length))] := by rw [proofF, dif_neg (by omega), if_neg hi]

/-- The value of n, i and a proof whose elements come from the last one on. -/
def valR (n i : Nat) (s : ByteArray) : List ByteArray → Option ByteArray
  | [] => if n = 1 then some (leafF s) else none
  | x :: r => if n ≤ 1 then none
    else if i < splitN n then (valR (splitN n) i s r).map fun v => nodeF v x
    else (valR (n - splitN n) (i - splitN n) s r).map fun v => nodeF x v
def valF (n i : Nat) (s : ByteArray) (p : List ByteArray) : Option ByteArray := valR n i s p.reverse

/-- What the verifier of beginnings is given. -/
def partF (l : List ByteArray) (m : Nat) (whole : Bool) : List ByteArray :=
  if _h : l.length ≤ m ∨ m = 0 then (if whole then [] else [rootF l])
  else if m ≤ splitN l.length then partF (l.take (splitN l.length)) m whole ++ [rootF (l.drop (splitN l.length))]
  else partF (l.drop (splitN l.length)) (m - splitN l.length) false ++ [rootF (l.take (splitN l.length))]
termination_by l.length
decreasing_by
  · have := splitN_lt (n := l.length) (by omega); simp; omega
  · have := splitN_pos l.length; simp; omega
theorem partF_whole {l : List ByteArray} : partF l l.length true = [] := by rw [partF, dif_pos (.inl (Nat.le_refl _))]; rfl
theorem partF_self {l : List ByteArray} : partF l l.length false = [rootF l] := by rw [partF, dif_pos (.inl (Nat.le_refl _))]; rfl
theorem partF_lo {l : List ByteArray} {m : Nat} (h0 : 1 ≤ m) (h : m < l.length) (hm : m ≤ splitN l.length) (w : Bool) :
    partF l m w = partF (l.take (splitN l.length)) m w ++ [rootF (l.drop (splitN l.length))] := by rw [partF, dif_neg (by omega), if_pos hm]
theorem partF_hi {l : List ByteArray} {m : Nat} (h0 : 1 ≤ m) (h : m < l.length) (hm : ¬ m ≤ splitN l.length) (w : Bool) :
    partF l m w = partF (l.drop (splitN l.length)) (m - splitN l.length) false ++ [rootF (l.take (splitN l.length))] := by rw [partF, dif_neg (by omega), if_neg hm]

/-- The two values, the proof's elements from the last one on. -/
def twoR (old : ByteArray) (m n : Nat) (whole : Bool) (r : List ByteArray) : Option (ByteArray × ByteArray) :=
  if m = n then (if whole then (if r = [] then some (old, old) else none) else match r with | [x] => some (x, x) | _ => none)
  else match r with
    | [] => none
    | x :: r => if m ≤ splitN n then (twoR old m (splitN n) whole r).map fun v => (v.1, nodeF v.2 x)
      else (twoR old (m - splitN n) (n - splitN n) false r).map fun v => (nodeF x v.1, nodeF x v.2)
theorem twoR_whole (old : ByteArray) (n : Nat) (r : List ByteArray) : twoR old n n true r = if r = [] then some (old, old) else none := by cases r <;> simp [twoR]
theorem twoR_self (old : ByteArray) (n : Nat) (r : List ByteArray) : twoR old n n false r = match r with | [x] => some (x, x) | _ => none := by
  cases r <;> simp [twoR]
theorem twoR_nil (old : ByteArray) {m n : Nat} (h : ¬ m = n) (w : Bool) : twoR old m n w [] = none := by simp [twoR, h]
theorem twoR_cons (old : ByteArray) {m n : Nat} (h : ¬ m = n) (w : Bool) (x : ByteArray) (r : List ByteArray) :
    twoR old m n w (x :: r) = if m ≤ splitN n then (twoR old m (splitN n) w r).map fun v => (v.1, nodeF v.2 x) else (twoR old (m - splitN n) (n - splitN n) false r).map fun v => (nodeF x v.1, nodeF x v.2) := by simp [twoR, h]
def twoF (old : ByteArray) (m n : Nat) (whole : Bool) (p : List ByteArray) : Option (ByteArray × ByteArray) := twoR old m n whole p.reverse

def allDig (l : List ByteArray) : Bool := l.all fun s => s.size == 32
def verF (root : ByteArray) (n i : Nat) (s : ByteArray) (p : List ByteArray) : Bool := allDig p && decide (valF n i s p = some root)
end Go.Proofs.YtdolmahodhgfpaaDoor
