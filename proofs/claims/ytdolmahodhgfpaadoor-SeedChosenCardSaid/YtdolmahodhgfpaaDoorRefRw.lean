/-
  Rows of words and of bytes of the call's own: what they hold, and append to them.
-/
import Derived.Test.YtdolmahodhgfpaaDoorHash
import Derived.Test.YtdolmahodhgfpaaDoorStep
namespace Go.Proofs.YtdolmahodhgfpaaDoor
open Go Go.Proofs Go.RowKit Go.Lib

/-- What lies from the offset o of block g on. -/
def NumsAt (k : IntKind) (W : World) (g o : Nat) (l : List Nat) : Prop := ∀ j, j < l.length → W.cell? ⟨g, o + j, none⟩ = some (.int k ((l.getD j 0 : Nat) : Int))
theorem NumsAt.below {k : IntKind} {n : Nat} {W W' : World} {g o : Nat} {l : List Nat} (h : NumsAt k W g o l) (hb : Below n W W') (hn : g < n) : NumsAt k W' g o l :=
  fun j hj => (hb.cell (p := ⟨g, o + j, none⟩) hn).trans (h j hj)
theorem NumsAt.heq {k : IntKind} {W W' : World} {g o : Nat} {l : List Nat} (h : NumsAt k W g o l) (e : W'.heap[g]? = W.heap[g]?) : NumsAt k W' g o l :=
  fun j hj => (World.cell?_of_block e).trans (h j hj)
theorem NumsAt.sub {k : IntKind} {W : World} {g o : Nat} {l : List Nat} (h : NumsAt k W g o l) (i n : Nat) (hi : i + n ≤ l.length) : NumsAt k W g (o + i) ((l.drop i).take n) := by
  intro j hj
  have hj2 : j < n := by simp at hj; omega
  have := h (i + j) (by omega)
  rw [← Nat.add_assoc] at this
  rw [this]
  congr 3
  simp [List.getD_eq_getElem?_getD, hj2]
theorem add_at (g o j : Nat) : (⟨g, o, none⟩ : Addr).add j = ⟨g, o + j, none⟩ := by unfold Addr.add; split <;> simp_all
def numVals (k : IntKind) (l : List Nat) : List Value := l.map fun n => Value.int k ((n : Nat) : Int)
theorem numVals_append (k : IntKind) (a b : List Nat) : numVals k (a ++ b) = numVals k a ++ numVals k b := by simp [numVals]
theorem numVals_get {k : IntKind} {l : List Nat} {j : Nat} {u : Value} (h : (numVals k l)[j]? = some u) : j < l.length ∧ u = .int k ((l.getD j 0 : Nat) : Int) := by
  have hj : j < l.length := by
    rcases Nat.lt_or_ge j l.length with h1 | h1
    · exact h1
    · rw [List.getElem?_eq_none (by simp [numVals]; omega)] at h; cases h
  refine ⟨hj, ?_⟩
  simp [numVals, hj] at h
  rw [← h]
  simp [List.getD_eq_getElem?_getD, hj]
theorem numVals_one {k : IntKind} {l : List Nat} : ∀ u ∈ numVals k l, u.oneCell' = true := by
  intro u hu
  simp only [numVals, List.mem_map] at hu
  obtain ⟨s, _, rfl⟩ := hu
  rfl
/-- The cells of a block that was just made. -/
theorem new_nums (k : IntKind) (W : World) (l : List Nat) (t : TypeId) : NumsAt k (W.alloc (.cells (numVals k l).toArray t)) W.heap.size 0 l := by
  intro j hj
  rw [cell_of_row _ _ (0 + j) _ _ _ (heap_alloc_new W _)]
  simp [numVals, hj]
theorem new_num1 (k : IntKind) (W : World) (x : Int) (n : Nat) (hx : x = (n : Nat)) (t : TypeId) : NumsAt k (W.alloc (.cells #[.int k x] t)) W.heap.size 0 [n] := by
  subst hx; exact new_nums k W [n] t
theorem alloc_keeps {k : IntKind} {W : World} {g o : Nat} {l : List Nat} (h : NumsAt k W g o l) (hg : g < W.heap.size) (x : Obj) : NumsAt k (W.alloc x) g o l := h.heq (Below.heap_alloc W x g hg)


/-! ### u32 -/
theorem info_u32 : (Tryd.prog.info? 70).map (fun i => (i.zero, i.size, i.bytes)) = some (some (.int .u32 0), 1, 4) := by kernel_rfl
def Own32 (W : World) (base : Nat) (v : Value) (l : List Nat) : Prop := W.ownsRow base 70 1 v l.length (numVals .u32 l)
theorem Own32.nil (W : World) (base : Nat) : Own32 W base (.slice none 0 0) [] := World.ownsRow_nil _ _ _ _
theorem Own32.below {n base : Nat} {W W' : World} {v : Value} {p : List Nat} (h : Own32 W base v p) (hb : Below n W W') (hn : W.heap.size ≤ n) : Own32 W' base v p := own_below h hb hn
theorem Own32.heq {W W' : World} {base : Nat} {v : Value} {p : List Nat} (h : Own32 W base v p) (e : W'.heap = W.heap) : Own32 W' base v p := own_heap h (fun j _ => by rw [e])
theorem Own32.alloc {W : World} {base : Nat} {v : Value} {p : List Nat} (h : Own32 W base v p) (o : Obj) : Own32 (W.alloc o) base v p := own_heap h (fun k hk => Below.heap_alloc W o k hk)
theorem Own32.form {W : World} {base : Nat} {v : Value} {p : List Nat} (h : Own32 W base v p) (n : Nat) (hn : p.length = n) (h0 : 0 < n) :
    ∃ g cap, v = .slice (some ⟨g, 0, none⟩) n cap ∧ n ≤ cap ∧ base ≤ g ∧ g < W.heap.size ∧ NumsAt .u32 W g 0 p ∧ cap ≤ maxLen := by
  subst hn
  rcases h.2 with ⟨_, h1⟩ | ⟨g, cap, cur, hv, hb, hg, h2, h3, h4, h5⟩
  · omega
  · refine ⟨g, cap, hv, by omega, hb, ?_, ?_, h3⟩
    · rcases Nat.lt_or_ge g W.heap.size with hlt | hge
      · exact hlt
      · rw [Array.getElem?_eq_none hge] at hg; cases hg
    · intro j hj
      rw [cell_of_row W g (0 + j) cur _ _ hg, ← Array.getElem?_toList, ← List.getElem?_take_of_lt (j := p.length * 1) (by omega), h5]
      simp [numVals, hj]
theorem own32_new (W : World) (base : Nat) (l : List Nat) (hb : base ≤ W.heap.size) (hl : l.length ≤ maxLen) : Own32 (W.alloc (.cells (numVals .u32 l).toArray 70)) base (.slice (some ⟨W.heap.size, 0, none⟩) l.length l.length) l :=
  ⟨by simp [numVals], .inr ⟨W.heap.size, l.length, (numVals .u32 l).toArray, rfl, hb, heap_alloc_new W _, Nat.le_refl _, hl, by simp [numVals], by rw [List.take_of_length_le (by simp [numVals])]⟩⟩
theorem run_push32 (w w0 : World) (n : Nat) (ty : TypeId) (v : Value) (l p : List Nat) (hown : Own32 w n v l) (hb : Below n w0 w) (hn : n ≤ w.heap.size) (g o m c : Nat) (hm : p.length = m) (hc : NumsAt .u32 w g o p) (hl : l.length + m ≤ 17592186044416) :
    ∃ v' w', (Builtin.append_ #[71, 71] ty #[v, .slice (some ⟨g, o, none⟩) m c]).run Tryd.prog w = .ok v' w' ∧ Own32 w' n v' (l ++ p) ∧ Below n w0 w' ∧ w.grownBy w' v.ownBlock := by
  obtain ⟨i0, hi, hz0, hz1, hz2⟩ := info_parts info_u32
  subst hm
  obtain ⟨v', w', hrun, r1, r2, _⟩ := run_append_own (P := Tryd.prog) w n 71 ty 70 i0 (.int .u32 0) 1 4 Tryd.underlying71 hi hz0 hz1 hz2 rfl (by decide) v l.length (numVals .u32 l) hown
      ⟨g, o, none⟩ p.length c (numVals .u32 p) (by simp [numVals]) (by
        intro j u hj
        obtain ⟨h1, rfl⟩ := numVals_get hj
        rw [add_at]; exact hc j h1) numVals_one (by unfold maxLen; omega) (by omega) hn
  refine ⟨v', w', hrun, ?_, hb.grown r2 hn (own_ge hown), r2⟩
  unfold Own32
  rw [numVals_append, List.length_append]
  exact r1
theorem step_push32 {ops : Array Oper} {o : Oper} {a : Act} {w w0 : World} {K : Act → World → Prop} {Q : Exit → Act → World → Prop} {E : Prop}
    (hgd : o.guard = none) (s x : Operand) (hop : o.op = Op.call { callee := Callee.builtin Builtin.append, args := #[s, x], argTypes := #[71, 71] })
    (n : Nat) (v : Value) (l p : List Nat) (hs : a.eval s = v) (hown : Own32 w n v l) (hb : Below n w0 w) (hn : n ≤ w.heap.size) (g off m c : Nat) (hx : a.eval x = .slice (some ⟨g, off, none⟩) m c) (hm : p.length = m) (hc : NumsAt .u32 w g off p) (hl : l.length + m ≤ 17592186044416)
    (hK : ∀ v' w', Own32 w' n v' (l ++ p) → Below n w0 w' → w.grownBy w' v.ownBlock → K (a.put o.dst v') w') :
    if Region.wanted o (yielded ops a.tmps) = true then Oper.wp Tryd.prog o a w K Q else E := by
  have hw : Region.wanted o (yielded ops a.tmps) = true := by simp [Region.wanted, hgd]
  rw [if_pos hw]
  obtain ⟨v', w', hrun, r1, r2, r3⟩ := run_push32 w w0 n o.type v l p hown hb hn g off m c hm hc hl
  unfold Oper.wp
  simp [execOp, hop, resolve, invoke, builtin, hs, hx, hrun, Result.andThen]
  exact hK v' w' r1 r2 r3
theorem walk_push32 {ops : Array Oper} {o : Oper} {rest : List Oper} {a : Act} {w w0 : World} {Q : Exit → Act → World → Prop}
    (hgd : o.guard = none) (s x : Operand) (hop : o.op = Op.call { callee := Callee.builtin Builtin.append, args := #[s, x], argTypes := #[71, 71] })
    (n : Nat) (v : Value) (l p : List Nat) (hs : a.eval s = v) (hown : Own32 w n v l) (hb : Below n w0 w) (hn : n ≤ w.heap.size) (g off m c : Nat) (hx : a.eval x = .slice (some ⟨g, off, none⟩) m c) (hm : p.length = m) (hc : NumsAt .u32 w g off p) (hl : l.length + m ≤ 17592186044416)
    (hK : ∀ v' w', Own32 w' n v' (l ++ p) → Below n w0 w' → wpList Tryd.prog ops Q rest (a.put o.dst v') w') : wpList Tryd.prog ops Q (o :: rest) a w := by
  refine wpList_plain hgd fun K hK' => ?_
  obtain ⟨v', w', hrun, r1, r2, _⟩ := run_push32 w w0 n o.type v l p hown hb hn g off m c hm hc hl
  unfold Oper.wp
  simp [execOp, hop, resolve, invoke, builtin, hs, hx, hrun, Result.andThen]
  exact hK' _ _ (hK v' w' r1 r2)

/-! ### u8 -/
theorem info_u8 : (Tryd.prog.info? 5).map (fun i => (i.zero, i.size, i.bytes)) = some (some (.int .u8 0), 1, 1) := by kernel_rfl
def Own8 (W : World) (base : Nat) (v : Value) (l : List Nat) : Prop := W.ownsRow base 5 1 v l.length (numVals .u8 l)
theorem Own8.nil (W : World) (base : Nat) : Own8 W base (.slice none 0 0) [] := World.ownsRow_nil _ _ _ _
theorem Own8.below {n base : Nat} {W W' : World} {v : Value} {p : List Nat} (h : Own8 W base v p) (hb : Below n W W') (hn : W.heap.size ≤ n) : Own8 W' base v p := own_below h hb hn
theorem Own8.heq {W W' : World} {base : Nat} {v : Value} {p : List Nat} (h : Own8 W base v p) (e : W'.heap = W.heap) : Own8 W' base v p := own_heap h (fun j _ => by rw [e])
theorem Own8.alloc {W : World} {base : Nat} {v : Value} {p : List Nat} (h : Own8 W base v p) (o : Obj) : Own8 (W.alloc o) base v p := own_heap h (fun k hk => Below.heap_alloc W o k hk)
theorem Own8.form {W : World} {base : Nat} {v : Value} {p : List Nat} (h : Own8 W base v p) (n : Nat) (hn : p.length = n) (h0 : 0 < n) :
    ∃ g cap, v = .slice (some ⟨g, 0, none⟩) n cap ∧ n ≤ cap ∧ base ≤ g ∧ g < W.heap.size ∧ NumsAt .u8 W g 0 p ∧ cap ≤ maxLen := by
  subst hn
  rcases h.2 with ⟨_, h1⟩ | ⟨g, cap, cur, hv, hb, hg, h2, h3, h4, h5⟩
  · omega
  · refine ⟨g, cap, hv, by omega, hb, ?_, ?_, h3⟩
    · rcases Nat.lt_or_ge g W.heap.size with hlt | hge
      · exact hlt
      · rw [Array.getElem?_eq_none hge] at hg; cases hg
    · intro j hj
      rw [cell_of_row W g (0 + j) cur _ _ hg, ← Array.getElem?_toList, ← List.getElem?_take_of_lt (j := p.length * 1) (by omega), h5]
      simp [numVals, hj]
theorem own8_new (W : World) (base : Nat) (l : List Nat) (hb : base ≤ W.heap.size) (hl : l.length ≤ maxLen) : Own8 (W.alloc (.cells (numVals .u8 l).toArray 5)) base (.slice (some ⟨W.heap.size, 0, none⟩) l.length l.length) l :=
  ⟨by simp [numVals], .inr ⟨W.heap.size, l.length, (numVals .u8 l).toArray, rfl, hb, heap_alloc_new W _, Nat.le_refl _, hl, by simp [numVals], by rw [List.take_of_length_le (by simp [numVals])]⟩⟩
theorem run_push8 (w w0 : World) (n : Nat) (ty : TypeId) (v : Value) (l p : List Nat) (hown : Own8 w n v l) (hb : Below n w0 w) (hn : n ≤ w.heap.size) (g o m c : Nat) (hm : p.length = m) (hc : NumsAt .u8 w g o p) (hl : l.length + m ≤ 17592186044416) :
    ∃ v' w', (Builtin.append_ #[67, 67] ty #[v, .slice (some ⟨g, o, none⟩) m c]).run Tryd.prog w = .ok v' w' ∧ Own8 w' n v' (l ++ p) ∧ Below n w0 w' ∧ w.grownBy w' v.ownBlock := by
  obtain ⟨i0, hi, hz0, hz1, hz2⟩ := info_parts info_u8
  subst hm
  obtain ⟨v', w', hrun, r1, r2, _⟩ := run_append_own (P := Tryd.prog) w n 67 ty 5 i0 (.int .u8 0) 1 1 Tryd.underlying67 hi hz0 hz1 hz2 rfl (by decide) v l.length (numVals .u8 l) hown
      ⟨g, o, none⟩ p.length c (numVals .u8 p) (by simp [numVals]) (by
        intro j u hj
        obtain ⟨h1, rfl⟩ := numVals_get hj
        rw [add_at]; exact hc j h1) numVals_one (by unfold maxLen; omega) (by omega) hn
  refine ⟨v', w', hrun, ?_, hb.grown r2 hn (own_ge hown), r2⟩
  unfold Own8
  rw [numVals_append, List.length_append]
  exact r1
theorem step_push8 {ops : Array Oper} {o : Oper} {a : Act} {w w0 : World} {K : Act → World → Prop} {Q : Exit → Act → World → Prop} {E : Prop}
    (hgd : o.guard = none) (s x : Operand) (hop : o.op = Op.call { callee := Callee.builtin Builtin.append, args := #[s, x], argTypes := #[67, 67] })
    (n : Nat) (v : Value) (l p : List Nat) (hs : a.eval s = v) (hown : Own8 w n v l) (hb : Below n w0 w) (hn : n ≤ w.heap.size) (g off m c : Nat) (hx : a.eval x = .slice (some ⟨g, off, none⟩) m c) (hm : p.length = m) (hc : NumsAt .u8 w g off p) (hl : l.length + m ≤ 17592186044416)
    (hK : ∀ v' w', Own8 w' n v' (l ++ p) → Below n w0 w' → w.grownBy w' v.ownBlock → K (a.put o.dst v') w') :
    if Region.wanted o (yielded ops a.tmps) = true then Oper.wp Tryd.prog o a w K Q else E := by
  have hw : Region.wanted o (yielded ops a.tmps) = true := by simp [Region.wanted, hgd]
  rw [if_pos hw]
  obtain ⟨v', w', hrun, r1, r2, r3⟩ := run_push8 w w0 n o.type v l p hown hb hn g off m c hm hc hl
  unfold Oper.wp
  simp [execOp, hop, resolve, invoke, builtin, hs, hx, hrun, Result.andThen]
  exact hK v' w' r1 r2 r3
theorem walk_push8 {ops : Array Oper} {o : Oper} {rest : List Oper} {a : Act} {w w0 : World} {Q : Exit → Act → World → Prop}
    (hgd : o.guard = none) (s x : Operand) (hop : o.op = Op.call { callee := Callee.builtin Builtin.append, args := #[s, x], argTypes := #[67, 67] })
    (n : Nat) (v : Value) (l p : List Nat) (hs : a.eval s = v) (hown : Own8 w n v l) (hb : Below n w0 w) (hn : n ≤ w.heap.size) (g off m c : Nat) (hx : a.eval x = .slice (some ⟨g, off, none⟩) m c) (hm : p.length = m) (hc : NumsAt .u8 w g off p) (hl : l.length + m ≤ 17592186044416)
    (hK : ∀ v' w', Own8 w' n v' (l ++ p) → Below n w0 w' → wpList Tryd.prog ops Q rest (a.put o.dst v') w') : wpList Tryd.prog ops Q (o :: rest) a w := by
  refine wpList_plain hgd fun K hK' => ?_
  obtain ⟨v', w', hrun, r1, r2, _⟩ := run_push8 w w0 n o.type v l p hown hb hn g off m c hm hc hl
  unfold Oper.wp
  simp [execOp, hop, resolve, invoke, builtin, hs, hx, hrun, Result.andThen]
  exact hK' _ _ (hK v' w' r1 r2)
end Go.Proofs.YtdolmahodhgfpaaDoor
