/-
  Layer 8, the program: the map of tests.
-/
import Derived.Test.YtifdcfjllonmgaaDoorNd
import Derived.Test.YtifdcfjllonmgaaDoorHq
import Derived.Maps.Own
import Derived.Maps.OwnOps
namespace Go.Proofs.YtifdcfjllonmgaaDoor
open Go Go.Proofs Go.RowKit Go.Lib Go.Maps

/-- Whatever has been laid behind a world. -/
def NewC (w w' : World) : Prop := Below w.heap.size w w'
theorem NewC.below {w w' : World} (h : NewC w w') : Below w.heap.size w w' := h
theorem newC0 (w : World) : NewC w { w with drawn := w.drawn + 1 } := Grew.below (grew0 w)
/-- How a function value in a map reads: as itself. -/
def Rv (v : Value) : Option (DataW Value × List MemPlace) := some (.held v, [])
theorem keyI : Keyed Tryd.prog 3 := int_keyed Tryd.underlying3
theorem wpList_insert_own8 {P : Program} (w : World) {ops : Array Oper} {rest : List Oper} {o : Oper} {a : Act} {Q : Exit → Act → World → Prop}
    (hg : o.guard = none) (m x v : Operand) (t : TypeId) (hop : o.op = Op.insert t m x v)
    (k e : TypeId) (K : Keyed P k) (ht : P.underlying t = some (.map k e)) (b n : Nat) (D : DataW Value)
    (hm : a.eval m = .map (some b)) (hown : w.ownsMap P k Rv b n D) (hn : n < maxLen) (key val : Value) (kl : Lit) (hx : a.eval x = key) (hv : a.eval v = val) (hkey : keyOf P k key = some kl)
    (hK : ∀ w', w'.ownsMap P k Rv b (n + 1) (D.put kl (.held val)) → w.grownBy w' (some b) → wpList P ops Q rest (a.put o.dst undef) w') :
    wpList P ops Q (o :: rest) a w := by
  refine wpList_plain hg fun K' hK' => ?_
  obtain ⟨w', hrun, r1, r2⟩ := hown.update K ht hn hkey (val := val) (d := .held val) (ps := []) rfl
  unfold Oper.wp
  simp [execOp, hop, hm, hx, hv, hrun, Result.andThen]
  exact hK' _ _ (hK w' r1 r2)
theorem ownsMap_below {w w' : World} {P : Program} {k : TypeId} {b n : Nat} {D : DataW Value} (h : w.ownsMap P k Rv b n D) (hb : Below w.heap.size w w') : w'.ownsMap P k Rv b n D :=
  h.kept (row := none) ⟨hb.os, hb.tape, hb.output, hb.size, fun i hi _ => hb.block i hi⟩ (by simp)
/-- The map of tests after k rounds. -/
def ftD : Nat → (Nat → Value) → DataW Value
  | 0, _ => (DataW.map []).put (.int .i64 1) (.held (.func (.func 73) #[] #[]))
  | k + 1, vs => (ftD k vs).put (.int .i64 (lkT (3 * k))) (.held (vs k))
theorem ftD_congr : ∀ (k : Nat) (vs us : Nat → Value), (∀ j, j < k → vs j = us j) → ftD k vs = ftD k us
  | 0, _, _, _ => rfl
  | k + 1, vs, us, h => by
    unfold ftD
    rw [ftD_congr k vs us (fun j hj => h j (by omega)), h k (by omega)]
/-- A closure that tests Link and N. -/
def ClosAt (W : World) (v : Value) (ml mn : Int) : Prop := ∃ A B, v = .func (.func 81) #[] #[.pointer (some ⟨A, 0, none⟩), .pointer (some ⟨B, 0, none⟩)] ∧ W.cell? ⟨A, 0, none⟩ = some (.int .i64 ml) ∧ W.cell? ⟨B, 0, none⟩ = some (.int .i64 mn)
theorem ClosAt.below {W W' : World} {v : Value} {ml mn : Int} (h : ClosAt W v ml mn) (b : Below W.heap.size W W') : ClosAt W' v ml mn := by
  obtain ⟨A, B, e, h1, h2⟩ := h
  exact ⟨A, B, e, (b.cell (p := ⟨A, 0, none⟩) (World.block_lt_of_cell? W ⟨A, 0, none⟩ h1)).trans h1, (b.cell (p := ⟨B, 0, none⟩) (World.block_lt_of_cell? W ⟨B, 0, none⟩ h2)).trans h2⟩
theorem ClosAt.map {W W' : World} {v : Value} {ml mn : Int} {b n : Nat} {D : DataW Value} (h : ClosAt W v ml mn) (hm : W.ownsMap Tryd.prog 3 Rv b n D) (g : W.grownBy W' (some b)) : ClosAt W' v ml mn := by
  obtain ⟨A, B, e, h1, h2⟩ := h
  obtain ⟨es, ck, hb, _⟩ := hm
  have ne : ∀ X v, W.cell? ⟨X, 0, none⟩ = some v → X ≠ b := fun X v h e => by subst e; simp [World.cell?, hb] at h
  exact ⟨A, B, e, (World.cell?_of_block (a := ⟨A, 0, none⟩) (g.block A (World.block_lt_of_cell? W ⟨A, 0, none⟩ h1) (fun e => ne A _ h1 (Option.some.inj e)))).trans h1,
    (World.cell?_of_block (a := ⟨B, 0, none⟩) (g.block B (World.block_lt_of_cell? W ⟨B, 0, none⟩ h2) (fun e => ne B _ h2 (Option.some.inj e)))).trans h2⟩
/-- The map of tests. -/
def FtAt (k : Nat) (W : World) (b : Nat) : Prop := ∃ vs : Nat → Value, W.ownsMap Tryd.prog 3 Rv b (k + 1) (ftD k vs) ∧ ∀ j, j < k → ClosAt W (vs j) (lkT (3 * j + 1)) (lkT (3 * j + 2))
theorem FtAt.below {k : Nat} {W W' : World} {b : Nat} (h : FtAt k W b) (hb : Below W.heap.size W W') : FtAt k W' b := by
  obtain ⟨vs, h1, h2⟩ := h
  exact ⟨vs, ownsMap_below h1 hb, fun j hj => (h2 j hj).below hb⟩
theorem FtAt.lt {k : Nat} {W : World} {b : Nat} (h : FtAt k W b) : b < W.heap.size := by
  obtain ⟨vs, h1, _⟩ := h
  exact h1.lt
def FtPost (w : World) (e : Ending) (w' : World) : Prop := ∃ b, e = .returned (.map (some b)) ∧ FtAt 6 w' b ∧ Below w.heap.size w w'
set_option maxRecDepth 100000 in
theorem lk_ix (k : Nat) (hk : k < 6) (W : World) : (Instr.index 123 (.agg #[.int .i64 2, .int .i64 0, .int .i64 0, .int .i64 3, .int .i64 99, .int .i64 0, .int .i64 4, .int .i64 99, .int .i64 0, .int .i64 5, .int .i64 99, .int .i64 99, .int .i64 6, .int .i64 99, .int .i64 99, .int .i64 7, .int .i64 9, .int .i64 0]) (.int .i64 (k : Int))).run Tryd.prog W = .ok (.agg #[.int .i64 (lkT (3 * k)), .int .i64 (lkT (3 * k + 1)), .int .i64 (lkT (3 * k + 2))]) W := by
  have h6 : k = 0 ∨ k = 1 ∨ k = 2 ∨ k = 3 ∨ k = 4 ∨ k = 5 := by omega
  rcases h6 with rfl | rfl | rfl | rfl | rfl | rfl <;> rfl
theorem lk_wf (k : Nat) (hk : k < 6) : (Lit.int .i64 (lkT (3 * k))).wf = true := by
  have h6 : k = 0 ∨ k = 1 ∨ k = 2 ∨ k = 3 ∨ k = 4 ∨ k = 5 := by omega
  rcases h6 with rfl | rfl | rfl | rfl | rfl | rfl <;> decide
theorem wpList_val8 {P : Program} {w : World} {ops : Array Oper} {rest : List Oper} {o : Oper} {a : Act} {Q : Exit → Act → World → Prop} (v : Value)
    (hg : o.guard = none) (h : (execOp a.eval o).run P w = .ok (.value v) w) (hK : wpList P ops Q rest (a.put o.dst v) w) : wpList P ops Q (o :: rest) a w := by
  refine wpList_plain hg fun K' hK' => ?_
  unfold Oper.wp
  rw [h]
  exact hK' _ _ hK
theorem lk_load (a : Act) (o : Oper) (ho : o.op = Op.load 123 (Operand.global 0)) (W : World) (h : HasLk W) : (execOp a.eval o).run Tryd.prog W = .ok (.value (.agg #[.int .i64 2, .int .i64 0, .int .i64 0, .int .i64 3, .int .i64 99, .int .i64 0, .int .i64 4, .int .i64 99, .int .i64 0, .int .i64 5, .int .i64 99, .int .i64 99, .int .i64 6, .int .i64 99, .int .i64 99, .int .i64 7, .int .i64 9, .int .i64 0])) W := by
  have y0 := h 0 (by decide)
  have y1 := h 1 (by decide)
  have y2 := h 2 (by decide)
  have y3 := h 3 (by decide)
  have y4 := h 4 (by decide)
  have y5 := h 5 (by decide)
  have y6 := h 6 (by decide)
  have y7 := h 7 (by decide)
  have y8 := h 8 (by decide)
  have y9 := h 9 (by decide)
  have y10 := h 10 (by decide)
  have y11 := h 11 (by decide)
  have y12 := h 12 (by decide)
  have y13 := h 13 (by decide)
  have y14 := h 14 (by decide)
  have y15 := h 15 (by decide)
  have y16 := h 16 (by decide)
  have y17 := h 17 (by decide)
  simp only [lkT, List.getD_cons_succ, List.getD_cons_zero] at y0 y1 y2 y3 y4 y5 y6 y7 y8 y9 y10 y11 y12 y13 y14 y15 y16 y17
  simp [execOp, ho, go_sem, y0, y1, y2, y3, y4, y5, y6, y7, y8, y9, y10, y11, y12, y13, y14, y15, y16, y17]
end Go.Proofs.YtifdcfjllonmgaaDoor
