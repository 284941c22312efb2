/-
  Layer 8: an element appended in a walk; the constraints of events, plain.
-/
import Derived.Test.YtifdcfjllonmgaaDoorHl
namespace Go.Proofs.YtifdcfjllonmgaaDoor
open Go Go.Proofs Go.RowKit Go.Lib

theorem RowK.vs_one1 {T : Type} (K : RowK T) (x : T) : K.vs [x] = K.cs x := by unfold RowK.vs; simp
/-- One element is appended. -/
theorem RowK.push1 {T : Type} (K : RowK T) (w : World) (n : Nat) (ty : TypeId) (v : Value) (l : List T) (x : T) (hown : Own K w n v l) (hn : n ≤ w.heap.size) (g c : Nat)
    (hc : CellsAt w g (K.cs x)) (hl : l.length + 1 ≤ 100000000) :
    ∃ v' w', (Builtin.append_ #[K.st, K.st] ty #[v, .slice (some ⟨g, 0, none⟩) 1 c]).run Tryd.prog w = .ok v' w' ∧ Own K w' n v' (l ++ [x]) ∧ w.grownBy w' v.ownBlock ∧ (v'.ownBlock = v.ownBlock ∨ v'.ownBlock = some w.heap.size) :=
  K.push w n ty v l [x] hown hn ⟨g, 0, none⟩ 1 c rfl (by rw [K.vs_one1]; exact hc.news) hl
theorem walk_push8 {T : Type} (K : RowK T) {ops : Array Oper} {o : Oper} {rest : List Oper} {a : Act} {w w0 : World} {Q : Exit → Act → World → Prop}
    (hgd : o.guard = none) (s x : Operand) (hop : o.op = Op.call { callee := Callee.builtin Builtin.append, args := #[s, x], argTypes := #[K.st, K.st] })
    (n : Nat) (v : Value) (l : List T) (y : T) (hs : a.eval s = v) (hown : Own K w n v l) (hb : Below n w0 w) (hn : n ≤ w.heap.size) (g c : Nat) (hx : a.eval x = .slice (some ⟨g, 0, none⟩) 1 c) (hc : CellsAt w g (K.cs y)) (hl : l.length + 1 ≤ 100000000)
    (hK : ∀ v' w', Own K w' n v' (l ++ [y]) → Below n w0 w' → w.grownBy w' v.ownBlock → (v'.ownBlock = v.ownBlock ∨ v'.ownBlock = some w.heap.size) → wpList Tryd.prog ops Q rest (a.put o.dst v') w') : wpList Tryd.prog ops Q (o :: rest) a w := by
  refine wpList_plain hgd fun KK hK' => ?_
  obtain ⟨v', w', hrun, r1, r2, r3⟩ := K.push1 w n o.type v l y hown hn g c hc hl
  unfold Oper.wp
  simp [execOp, hop, resolve, invoke, builtin, hs, hx, hrun, Result.andThen]
  exact hK' _ _ (hK v' w' r1 (hb.grown r2 hn (fun k hk => (hown.ge k hk).1)) r2 r3)
/-- The set of the agents of two events. -/
def mask8 (a b : Ev) : Int := if a.ag = b.ag then 2 ^ a.ag.toNat else 2 ^ a.ag.toNat + 2 ^ b.ag.toNat
def low8 (dr d : Int) : Int := if 1 ≤ d then (d - 1) * (1000000 - dr) + 1 else 0
def conA (f : Fl) (l : List Ev) (i j : Nat) : List C4 :=
  if (evD l i).ag = (evD l j).ag ∧ i < j then
    [⟨j, i, -(low8 (f.drOf (evD l i).ag) ((evD l j).tm - (evD l i).tm)), mask8 (evD l i) (evD l j)⟩, ⟨i, j, ((evD l j).tm - (evD l i).tm + 1) * (1000000 + f.drOf (evD l i).ag) - 1, mask8 (evD l i) (evD l j)⟩]
  else []
def conB (f : Fl) (l : List Ev) (i j : Nat) : List C4 := if folB (evD l i) (evD l j) = true then [⟨j, i, -(folN f.lat (evD l i) (evD l j)), mask8 (evD l i) (evD l j)⟩] else []
def conP (f : Fl) (l : List Ev) (i j : Nat) : List C4 := if i = j then [] else conA f l i j ++ conB f l i j
def conR (f : Fl) (l : List Ev) (i n : Nat) : List C4 := (List.range n).flatMap (conP f l i)
def conN (f : Fl) (l : List Ev) (k : Nat) : List C4 := (List.range k).flatMap fun i => conR f l i l.length
noncomputable def conL (f : Fl) (l : List Ev) : List C4 := if evsB f l = true then conN f l l.length else []
noncomputable def conE (f : Fl) (l : List Ev) : Int := if evsB f l = true then 0 else 80
theorem conR_step (f : Fl) (l : List Ev) (i n : Nat) : conR f l i (n + 1) = conR f l i n ++ conP f l i n := by unfold conR; rw [List.range_succ, List.flatMap_append]; simp
theorem conN_step (f : Fl) (l : List Ev) (k : Nat) : conN f l (k + 1) = conN f l k ++ conR f l k l.length := by unfold conN; rw [List.range_succ, List.flatMap_append]; simp
theorem conP_le (f : Fl) (l : List Ev) (i j : Nat) : (conP f l i j).length ≤ 3 := by
  unfold conP conA conB
  split
  · simp
  · rw [List.length_append]
    split <;> split <;> simp
theorem conR_le (f : Fl) (l : List Ev) (i : Nat) : ∀ n, (conR f l i n).length ≤ 3 * n
  | 0 => by simp [conR]
  | n + 1 => by
    rw [conR_step, List.length_append]
    have h1 := conR_le f l i n
    have h2 := conP_le f l i n
    omega
theorem conN_le (f : Fl) (l : List Ev) : ∀ k, (conN f l k).length ≤ 3 * l.length * k
  | 0 => by simp [conN]
  | k + 1 => by
    rw [conN_step, List.length_append]
    have h1 := conN_le f l k
    have h2 := conR_le f l k l.length
    rw [Nat.mul_add]
    omega
theorem pow8 (q : Nat) (h : q ≤ 5) : 1 ≤ (2 : Int) ^ q ∧ (2 : Int) ^ q ≤ 32 := by
  have h : q = 0 ∨ q = 1 ∨ q = 2 ∨ q = 3 ∨ q = 4 ∨ q = 5 := by omega
  rcases h with rfl | rfl | rfl | rfl | rfl | rfl <;> decide
def ConPost (w : World) (l : List C4) (er : Int) (e : Ending) (w' : World) : Prop := ∃ ad c, e = .returned (.tuple #[.slice ad l.length c, .int .i64 er]) ∧ l.length ≤ c ∧ RN KC w' w.heap.size ad l ∧ Below w.heap.size w w'
end Go.Proofs.YtifdcfjllonmgaaDoor
