/-
  The contracts of digest.proofOf and part.
-/
import Derived.Test.YtdolmahodhgfpaaDoorStep
import Derived.Test.YtdolmahodhgfpaaDoorVerify
namespace Go.Proofs.YtdolmahodhgfpaaDoor
open Go Go.Proofs Go.RowKit Go.Lib

/-- A list of strings in a row of the call's own. -/
def OwnStrs (W : World) (base : Nat) (v : Value) (p : List ByteArray) : Prop := W.ownsRow base 9 1 v p.length (strVals p)
theorem OwnStrs.below {n base : Nat} {W W' : World} {v : Value} {p : List ByteArray} (h : OwnStrs W base v p) (hb : Below n W W') (hn : W.heap.size ≤ n) : OwnStrs W' base v p := own_below h hb hn
theorem OwnStrs.nil (W : World) (base : Nat) : OwnStrs W base (.slice none 0 0) [] := World.ownsRow_nil _ _ _ _
/-- What proofOf leaves. -/
def ListPost (n : Nat) (w : World) (p : List ByteArray) (e : Ending) (w' : World) : Prop := ∃ v, e = .returned v ∧ OwnStrs w' n v p ∧ Below n w w'
theorem list_grow {P : Program} {f : FuncId} {args : Array Value} {n : Nat} {w W : World} {p : List ByteArray} (c : Calls P f args W (ListPost W.heap.size W p)) (hb : Below n w W) (hn : n ≤ W.heap.size) :
    Calls P f args W (ListPost n w p) := c.mono fun _ _ ⟨v, he, ho, h⟩ => ⟨v, he, own_base ho hn, hb.trans (h.mono hn)⟩
theorem below_same {n : Nat} {w W W' : World} (h : Below n w W) (ho : W'.os = W.os) (ht : W'.tape = W.tape) (hp : W'.output = W.output) (hh : W'.heap = W.heap) : Below n w W' :=
  ⟨ho.trans h.os, ht.trans h.tape, hp.trans h.output, by rw [hh]; exact h.size, fun k hk => by rw [hh]; exact h.block k hk⟩
theorem new_cell (W : World) (y : ByteArray) (t : TypeId) : (W.alloc (.cells #[.string y] t)).cell? ⟨W.heap.size, 0, none⟩ = some (.string y) := by
  rw [cell_of_row _ _ 0 _ _ _ (heap_alloc_new W _)]; rfl

theorem strs_info : (Tryd.prog.info? 9).map (fun i => (i.zero, i.size, i.bytes)) = some (some (.string ByteArray.empty), 1, 16) := by kernel_rfl

/-- append of one string to a row of one's own: a step of a region. -/
theorem step_push {ops : Array Oper} {o : Oper} {a : Act} {w w0 : World} {K : Act → World → Prop} {Q : Exit → Act → World → Prop} {E : Prop}
    (hgd : o.guard = none) (s x : Operand) (hop : o.op = Op.call { callee := Callee.builtin Builtin.append, args := #[s, x], argTypes := #[24, 24] })
    (n : Nat) (v : Value) (p : List ByteArray) (hs : a.eval s = v) (hown : OwnStrs w n v p) (hb : Below n w0 w) (hn : n ≤ w.heap.size) (ad : Addr) (c : Nat) (y : ByteArray) (hx : a.eval x = .slice (some ad) 1 c)
    (hc : w.cell? (ad.add 0) = some (.string y)) (hl : p.length ≤ 1000000)
    (hK : ∀ v' w', OwnStrs w' n v' (p ++ [y]) → Below n w0 w' → K (a.put o.dst v') w') :
    if Region.wanted o (yielded ops a.tmps) = true then Oper.wp Tryd.prog o a w K Q else E := by
  obtain ⟨i0, hi, hz0, hz1, hz2⟩ := info_parts strs_info
  refine step_append_own hgd s x 24 hop n 9 i0 (.string ByteArray.empty) 1 16 Tryd.underlying24 hi hz0 hz1 hz2 rfl (by decide) v p.length (strVals p) hs hown ad 1 c [.string y] hx rfl ?_ ?_ (by unfold maxLen; omega) (by omega) hn ?_
  · intro j u hj
    have : j = 0 := by
      rcases Nat.eq_zero_or_pos j with h | h
      · exact h
      · rw [List.getElem?_eq_none (by simp; omega)] at hj; cases hj
    subst this
    simp at hj
    rw [← hj]; exact hc
  · intro u hu
    simp at hu
    subst hu; rfl
  · intro v' w' h1 h2
    refine hK v' w' ?_ (hb.grown h2 hn (own_ge hown))
    unfold OwnStrs strVals
    rw [List.map_append, List.length_append]
    exact h1

end Go.Proofs.YtdolmahodhgfpaaDoor
