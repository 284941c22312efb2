/-
  append of a list of strings to a row of the call's own: a step of a region, and of a plain walk.
-/
import Derived.Test.YtoaaelnmbpmbeaaDoorSane2
import Derived.Laws.AppendOwnNone
namespace Go.Proofs.YtoaaelnmbpmbeaaDoor
open Go Go.Proofs Go.RowKit Go.Lib

theorem own_empty (W : World) (base : Nat) (hb : base ≤ W.heap.size) : OwnStrs (W.alloc (.cells #[] 9)) base (.slice (some ⟨W.heap.size, 0, none⟩) 0 0) [] :=
  ⟨rfl, .inr ⟨W.heap.size, 0, #[], rfl, hb, heap_alloc_new W _, Nat.le_refl _, by unfold maxLen; omega, rfl, rfl⟩⟩

/-- append of the strings p to the row v, which holds l. -/
theorem run_push_all (w w0 : World) (n : Nat) (ty : TypeId) (v : Value) (l p : List ByteArray) (hown : OwnStrs w n v l) (hb : Below n w0 w) (hn : n ≤ w.heap.size) (x : Value) (pn : Nat) (ho : ∃ base, OwnStrs w base x p) (hpn : p.length = pn) (hl : l.length ≤ 100000) (hp : pn ≤ 100000) :
    ∃ v' w', (Builtin.append_ #[26, 26] ty #[v, x]).run Tryd.prog w = .ok v' w' ∧ OwnStrs w' n v' (l ++ p) ∧ Below n w0 w' := by
  obtain ⟨i0, hi, hz0, hz1, hz2⟩ := info_parts strs_info
  subst hpn
  obtain ⟨base, ho⟩ := ho
  obtain ⟨_, ⟨rfl, h0⟩ | ⟨g, cap, cur, rfl, hg, hh, h1, h2, h3, h4⟩⟩ := ho
  · have hp0 : p = [] := List.eq_nil_of_length_eq_zero h0
    subst hp0
    refine ⟨v, w, run_append_owned_none (P := Tryd.prog) (w := w) n 26 ty 9 i0 1 Tryd.underlying26 hi v l.length (strVals l) hown, by rw [List.append_nil]; exact hown, hb⟩
  · obtain ⟨v', w', hrun, r1, r2, _⟩ := run_append_own (P := Tryd.prog) w n 26 ty 9 i0 (.string ByteArray.empty) 1 16 Tryd.underlying26 hi hz0 hz1 hz2 rfl (by decide) v l.length (strVals l) hown
      ⟨g, 0, none⟩ p.length cap (strVals p) (by simp [strVals]) (by
        intro j u hj
        have hjl : j < p.length := by
          rcases Nat.lt_or_ge j p.length with h | h
          · exact h
          · rw [List.getElem?_eq_none (by simp [strVals]; omega)] at hj; cases hj
        have e : (⟨g, 0, none⟩ : Addr).add j = ⟨g, j, none⟩ := by unfold Addr.add; split <;> simp_all
        rw [e, cell_of_row w g j cur _ _ hh, ← hj, ← h4, List.getElem?_take_of_lt (by omega)]
        simp) (by
        intro u hu
        simp only [strVals, List.mem_map] at hu
        obtain ⟨s, _, rfl⟩ := hu
        rfl) (by unfold maxLen; omega) (by omega) hn
    refine ⟨v', w', hrun, ?_, hb.grown r2 hn (own_ge hown)⟩
    unfold OwnStrs strVals
    rw [List.map_append, List.length_append]
    exact r1

theorem step_push_all {ops : Array Oper} {o : Oper} {a : Act} {w w0 : World} {K : Act → World → Prop} {Q : Exit → Act → World → Prop} {E : Prop}
    (hgd : o.guard = none) (s x : Operand) (hop : o.op = Op.call { callee := Callee.builtin Builtin.append, args := #[s, x], argTypes := #[26, 26] })
    (n : Nat) (v : Value) (l p : List ByteArray) (hs : a.eval s = v) (hown : OwnStrs w n v l) (hb : Below n w0 w) (hn : n ≤ w.heap.size) (xv : Value) (hx : a.eval x = xv) (pn : Nat) (ho : ∃ base, OwnStrs w base xv p) (hpn : p.length = pn) (hl : l.length ≤ 100000) (hp : pn ≤ 100000)
    (hK : ∀ v' w', OwnStrs w' n v' (l ++ p) → Below n w0 w' → K (a.put o.dst v') w') :
    if Region.wanted o (yielded ops a.tmps) = true then Oper.wp Tryd.prog o a w K Q else E := by
  have hw : Region.wanted o (yielded ops a.tmps) = true := by simp [Region.wanted, hgd]
  rw [if_pos hw]
  obtain ⟨v', w', hrun, r1, r2⟩ := run_push_all w w0 n o.type v l p hown hb hn xv pn ho hpn hl hp
  unfold Oper.wp
  simp [execOp, hop, resolve, invoke, builtin, hs, hx, hrun, Result.andThen]
  exact hK v' w' r1 r2

theorem walk_push_all {ops : Array Oper} {o : Oper} {rest : List Oper} {a : Act} {w w0 : World} {Q : Exit → Act → World → Prop}
    (hgd : o.guard = none) (s x : Operand) (hop : o.op = Op.call { callee := Callee.builtin Builtin.append, args := #[s, x], argTypes := #[26, 26] })
    (n : Nat) (v : Value) (l p : List ByteArray) (hs : a.eval s = v) (hown : OwnStrs w n v l) (hb : Below n w0 w) (hn : n ≤ w.heap.size) (xv : Value) (hx : a.eval x = xv) (pn : Nat) (ho : ∃ base, OwnStrs w base xv p) (hpn : p.length = pn) (hl : l.length ≤ 100000) (hp : pn ≤ 100000)
    (hK : ∀ v' w', OwnStrs w' n v' (l ++ p) → Below n w0 w' → wpList Tryd.prog ops Q rest (a.put o.dst v') w') : wpList Tryd.prog ops Q (o :: rest) a w := by
  refine wpList_plain hgd fun K hK' => ?_
  obtain ⟨v', w', hrun, r1, r2⟩ := run_push_all w w0 n o.type v l p hown hb hn xv pn ho hpn hl hp
  unfold Oper.wp
  simp [execOp, hop, resolve, invoke, builtin, hs, hx, hrun, Result.andThen]
  exact hK' _ _ (hK v' w' r1 r2)
end Go.Proofs.YtoaaelnmbpmbeaaDoor
