/-
  What the proofs of layer 3 stand on: rows of numbers of the call's own, what they hold, and append to them; words for results.
-/
import Derived.Test.YtildgpahacaglaaDoorProg
import Derived.Test.YtildgpahacaglaaDoorVal
import Derived.Laws.Rows
import Derived.Below
import Derived.OwnWalk
import Derived.OwnWalkIn
import Derived.BigQuiet
import Derived.IntWalk
import Derived.RegionTactic
import Derived.Deep.RegionLaw
import Derived.Deep.RegionWith
import Derived.Deep.RegionHeld3
import Derived.Deep.QuietTactic
import Derived.Shelf.Abstract
import Derived.Laws.AppendOwn
import Derived.WalkKit
import Derived.WalkLawsBesides
import Derived.Outline
import Derived.Lib.Hide
namespace Go.Proofs.YtildgpahacaglaaDoor
open Go Go.Proofs Go.RowKit Go.Lib

theorem nat_cast {a b : Nat} (h : a = b) : (a : Int) = (b : Int) := congrArg _ h
theorem ret_w {k : IntKind} {a b : Int} (h : a = b) : Ending.returned (.int k a) = .returned (.int k b) := by rw [h]
theorem ret_str {a b : ByteArray} (h : a = b) : Ending.returned (.string a) = .returned (.string b) := by rw [h]
theorem ret_bool {a b : Bool} (h : a = b) : Ending.returned (.bool a) = .returned (.bool b) := by rw [h]
theorem str_eq_iff (a b : ByteArray) : (a.toList == b.toList) = decide (a = b) := by
  rw [ByteArray.toList_eq, ByteArray.toList_eq, Bool.eq_iff_iff, beq_iff_eq, decide_eq_true_eq]
  exact ⟨fun h => ByteArray.ext (Array.toList_inj.1 h), fun h => by rw [h]⟩
theorem below_same {n : Nat} {w W W' : World} (h : Below n w W) (ho : W'.os = W.os) (ht : W'.tape = W.tape) (hp : W'.output = W.output) (hh : W'.heap = W.heap) : Below n w W' :=
  ⟨ho.trans h.os, ht.trans h.tape, hp.trans h.output, by rw [hh]; exact h.size, fun k hk => by rw [hh]; exact h.block k hk⟩
theorem below_drewN {n : Nat} {w w' : World} (h : Below n w w') (k : Nat) : Below n w (w'.drewN k) := ⟨h.os, h.tape, h.output, h.size, h.block⟩
theorem grown_call {P : Program} {f : FuncId} {args : Array Value} {v : Value} {n : Nat} {w W : World} (c : Calls P f args W fun e W' => e = .returned v ∧ Below W.heap.size W W') (hb : Below n w W) (hn : n ≤ W.heap.size) :
    Calls P f args W fun e W' => e = .returned v ∧ Below n w W' := c.mono fun _ _ h => ⟨h.1, hb.trans (h.2.mono hn)⟩
/-- A row of one's own, in a world that has grown. -/
theorem own_below {w w' : World} {n base : Nat} {e : TypeId} {size : Nat} {v : Value} {k : Nat} {xs : List Value} (h : w.ownsRow base e size v k xs) (hb : Below n w w') (hn : w.heap.size ≤ n) : w'.ownsRow base e size v k xs := by
  refine ⟨h.1, h.2.imp id ?_⟩
  rintro ⟨g, cap, cur, hv, hg, hh, r⟩
  have hlt : g < w.heap.size := (Array.getElem?_eq_some_iff.1 hh).1
  exact ⟨g, cap, cur, hv, hg, (hb.block g (by omega)).trans hh, r⟩
theorem own_heap {w w' : World} {base : Nat} {e : TypeId} {size : Nat} {v : Value} {k : Nat} {xs : List Value} (h : w.ownsRow base e size v k xs) (hb : ∀ j, j < w.heap.size → w'.heap[j]? = w.heap[j]?) : w'.ownsRow base e size v k xs := by
  refine ⟨h.1, h.2.imp id ?_⟩
  rintro ⟨g, cap, cur, hv, hg, hh, r⟩
  have hlt : g < w.heap.size := (Array.getElem?_eq_some_iff.1 hh).1
  exact ⟨g, cap, cur, hv, hg, (hb g hlt).trans hh, r⟩
theorem own_base {w : World} {base base' : Nat} {e : TypeId} {size : Nat} {v : Value} {k : Nat} {xs : List Value} (h : w.ownsRow base e size v k xs) (hb : base' ≤ base) : w.ownsRow base' e size v k xs := by
  refine ⟨h.1, h.2.imp id ?_⟩
  rintro ⟨g, cap, cur, hv, hg, r⟩
  exact ⟨g, cap, cur, hv, Nat.le_trans hb hg, r⟩
theorem own_ge {w : World} {base : Nat} {e : TypeId} {size : Nat} {v : Value} {n : Nat} {xs : List Value} (h : w.ownsRow base e size v n xs) : ∀ k, v.ownBlock = some k → base ≤ k := fun k hk => (h.lt k hk).1

/-- What lies from the offset o of block g on. -/
def NumsAt (k : IntKind) (W : World) (g o : Nat) (l : List Nat) : Prop := ∀ j, j < l.length → W.cell? ⟨g, o + j, none⟩ = some (.int k ((l.getD j 0 : Nat) : Int))
theorem NumsAt.below {k : IntKind} {n : Nat} {W W' : World} {g o : Nat} {l : List Nat} (h : NumsAt k W g o l) (hb : Below n W W') (hn : g < n) : NumsAt k W' g o l :=
  fun j hj => (hb.cell (p := ⟨g, o + j, none⟩) hn).trans (h j hj)
theorem NumsAt.heq {k : IntKind} {W W' : World} {g o : Nat} {l : List Nat} (h : NumsAt k W g o l) (e : W'.heap[g]? = W.heap[g]?) : NumsAt k W' g o l :=
  fun j hj => (World.cell?_of_block e).trans (h j hj)
theorem NumsAt.sub {k : IntKind} {W : World} {g o : Nat} {l : List Nat} (h : NumsAt k W g o l) (i n : Nat) (hi : i + n ≤ l.length) : NumsAt k W g (o + i) ((l.drop i).take n) := by
  intro j hj
  have hj2 : j < n := by simp at hj; omega
  have := h (i + j) (by omega)
  rw [← Nat.add_assoc] at this
  rw [this]
  congr 3
  simp [List.getD_eq_getElem?_getD, hj2]
theorem add_at (g o j : Nat) : (⟨g, o, none⟩ : Addr).add j = ⟨g, o + j, none⟩ := by unfold Addr.add; split <;> simp_all
def numVals (k : IntKind) (l : List Nat) : List Value := l.map fun n => Value.int k ((n : Nat) : Int)
theorem numVals_append (k : IntKind) (a b : List Nat) : numVals k (a ++ b) = numVals k a ++ numVals k b := by simp [numVals]
theorem numVals_get {k : IntKind} {l : List Nat} {j : Nat} {u : Value} (h : (numVals k l)[j]? = some u) : j < l.length ∧ u = .int k ((l.getD j 0 : Nat) : Int) := by
  have hj : j < l.length := by
    rcases Nat.lt_or_ge j l.length with h1 | h1
    · exact h1
    · rw [List.getElem?_eq_none (by simp [numVals]; omega)] at h; cases h
  refine ⟨hj, ?_⟩
  simp [numVals, hj] at h
  rw [← h]
  simp [List.getD_eq_getElem?_getD, hj]
theorem numVals_one {k : IntKind} {l : List Nat} : ∀ u ∈ numVals k l, u.oneCell' = true := by
  intro u hu
  simp only [numVals, List.mem_map] at hu
  obtain ⟨s, _, rfl⟩ := hu
  rfl
/-- The cells of a block that was just made. -/
theorem new_nums (k : IntKind) (W : World) (l : List Nat) (t : TypeId) : NumsAt k (W.alloc (.cells (numVals k l).toArray t)) W.heap.size 0 l := by
  intro j hj
  rw [cell_of_row _ _ (0 + j) _ _ _ (heap_alloc_new W _)]
  simp [numVals, hj]
theorem new_num1 (k : IntKind) (W : World) (x : Int) (n : Nat) (hx : x = (n : Nat)) (t : TypeId) : NumsAt k (W.alloc (.cells #[.int k x] t)) W.heap.size 0 [n] := by
  subst hx; exact new_nums k W [n] t
theorem alloc_keeps {k : IntKind} {W : World} {g o : Nat} {l : List Nat} (h : NumsAt k W g o l) (hg : g < W.heap.size) (x : Obj) : NumsAt k (W.alloc x) g o l := h.heq (Below.heap_alloc W x g hg)



/-! ### i64 -/
theorem info_i64 : (Tryd.prog.info? 3).map (fun i => (i.zero, i.size, i.bytes)) = some (some (.int .i64 0), 1, 8) := by kernel_rfl
def OwnI (W : World) (base : Nat) (v : Value) (l : List Nat) : Prop := W.ownsRow base 3 1 v l.length (numVals .i64 l)
theorem OwnI.nil (W : World) (base : Nat) : OwnI W base (.slice none 0 0) [] := World.ownsRow_nil _ _ _ _
theorem OwnI.below {n base : Nat} {W W' : World} {v : Value} {p : List Nat} (h : OwnI W base v p) (hb : Below n W W') (hn : W.heap.size ≤ n) : OwnI W' base v p := own_below h hb hn
theorem OwnI.heq {W W' : World} {base : Nat} {v : Value} {p : List Nat} (h : OwnI W base v p) (e : W'.heap = W.heap) : OwnI W' base v p := own_heap h (fun j _ => by rw [e])
theorem OwnI.alloc {W : World} {base : Nat} {v : Value} {p : List Nat} (h : OwnI W base v p) (o : Obj) : OwnI (W.alloc o) base v p := own_heap h (fun k hk => Below.heap_alloc W o k hk)
theorem OwnI.form {W : World} {base : Nat} {v : Value} {p : List Nat} (h : OwnI W base v p) (n : Nat) (hn : p.length = n) (h0 : 0 < n) :
    ∃ g cap, v = .slice (some ⟨g, 0, none⟩) n cap ∧ n ≤ cap ∧ base ≤ g ∧ g < W.heap.size ∧ NumsAt .i64 W g 0 p ∧ cap ≤ maxLen := by
  subst hn
  rcases h.2 with ⟨_, h1⟩ | ⟨g, cap, cur, hv, hb, hg, h2, h3, h4, h5⟩
  · omega
  · refine ⟨g, cap, hv, by omega, hb, ?_, ?_, h3⟩
    · rcases Nat.lt_or_ge g W.heap.size with hlt | hge
      · exact hlt
      · rw [Array.getElem?_eq_none hge] at hg; cases hg
    · intro j hj
      rw [cell_of_row W g (0 + j) cur _ _ hg, ← Array.getElem?_toList, ← List.getElem?_take_of_lt (j := p.length * 1) (by omega), h5]
      simp [numVals, hj]
theorem ownI_new (W : World) (base : Nat) (l : List Nat) (hb : base ≤ W.heap.size) (hl : l.length ≤ maxLen) : OwnI (W.alloc (.cells (numVals .i64 l).toArray 3)) base (.slice (some ⟨W.heap.size, 0, none⟩) l.length l.length) l :=
  ⟨by simp [numVals], .inr ⟨W.heap.size, l.length, (numVals .i64 l).toArray, rfl, hb, heap_alloc_new W _, Nat.le_refl _, hl, by simp [numVals], by rw [List.take_of_length_le (by simp [numVals])]⟩⟩
theorem run_pushI (w w0 : World) (n : Nat) (ty : TypeId) (v : Value) (l p : List Nat) (hown : OwnI w n v l) (hb : Below n w0 w) (hn : n ≤ w.heap.size) (g o m c : Nat) (hm : p.length = m) (hc : NumsAt .i64 w g o p) (hl : l.length + m ≤ 17592186044416) :
    ∃ v' w', (Builtin.append_ #[48, 48] ty #[v, .slice (some ⟨g, o, none⟩) m c]).run Tryd.prog w = .ok v' w' ∧ OwnI w' n v' (l ++ p) ∧ Below n w0 w' ∧ w.grownBy w' v.ownBlock := by
  obtain ⟨i0, hi, hz0, hz1, hz2⟩ := info_parts info_i64
  subst hm
  obtain ⟨v', w', hrun, r1, r2, _⟩ := run_append_own (P := Tryd.prog) w n 48 ty 3 i0 (.int .i64 0) 1 8 Tryd.underlying48 hi hz0 hz1 hz2 rfl (by decide) v l.length (numVals .i64 l) hown
      ⟨g, o, none⟩ p.length c (numVals .i64 p) (by simp [numVals]) (by
        intro j u hj
        obtain ⟨h1, rfl⟩ := numVals_get hj
        rw [add_at]; exact hc j h1) numVals_one (by unfold maxLen; omega) (by omega) hn
  refine ⟨v', w', hrun, ?_, hb.grown r2 hn (own_ge hown), r2⟩
  unfold OwnI
  rw [numVals_append, List.length_append]
  exact r1
theorem step_pushI {ops : Array Oper} {o : Oper} {a : Act} {w w0 : World} {K : Act → World → Prop} {Q : Exit → Act → World → Prop} {E : Prop}
    (hgd : o.guard = none) (s x : Operand) (hop : o.op = Op.call { callee := Callee.builtin Builtin.append, args := #[s, x], argTypes := #[48, 48] })
    (n : Nat) (v : Value) (l p : List Nat) (hs : a.eval s = v) (hown : OwnI w n v l) (hb : Below n w0 w) (hn : n ≤ w.heap.size) (g off m c : Nat) (hx : a.eval x = .slice (some ⟨g, off, none⟩) m c) (hm : p.length = m) (hc : NumsAt .i64 w g off p) (hl : l.length + m ≤ 17592186044416)
    (hK : ∀ v' w', OwnI w' n v' (l ++ p) → Below n w0 w' → w.grownBy w' v.ownBlock → K (a.put o.dst v') w') :
    if Region.wanted o (yielded ops a.tmps) = true then Oper.wp Tryd.prog o a w K Q else E := by
  have hw : Region.wanted o (yielded ops a.tmps) = true := by simp [Region.wanted, hgd]
  rw [if_pos hw]
  obtain ⟨v', w', hrun, r1, r2, r3⟩ := run_pushI w w0 n o.type v l p hown hb hn g off m c hm hc hl
  unfold Oper.wp
  simp [execOp, hop, resolve, invoke, builtin, hs, hx, hrun, Result.andThen]
  exact hK v' w' r1 r2 r3
theorem walk_pushI {ops : Array Oper} {o : Oper} {rest : List Oper} {a : Act} {w w0 : World} {Q : Exit → Act → World → Prop}
    (hgd : o.guard = none) (s x : Operand) (hop : o.op = Op.call { callee := Callee.builtin Builtin.append, args := #[s, x], argTypes := #[48, 48] })
    (n : Nat) (v : Value) (l p : List Nat) (hs : a.eval s = v) (hown : OwnI w n v l) (hb : Below n w0 w) (hn : n ≤ w.heap.size) (g off m c : Nat) (hx : a.eval x = .slice (some ⟨g, off, none⟩) m c) (hm : p.length = m) (hc : NumsAt .i64 w g off p) (hl : l.length + m ≤ 17592186044416)
    (hK : ∀ v' w', OwnI w' n v' (l ++ p) → Below n w0 w' → wpList Tryd.prog ops Q rest (a.put o.dst v') w') : wpList Tryd.prog ops Q (o :: rest) a w := by
  refine wpList_plain hgd fun K hK' => ?_
  obtain ⟨v', w', hrun, r1, r2, _⟩ := run_pushI w w0 n o.type v l p hown hb hn g off m c hm hc hl
  unfold Oper.wp
  simp [execOp, hop, resolve, invoke, builtin, hs, hx, hrun, Result.andThen]
  exact hK' _ _ (hK v' w' r1 r2)

/-! ### u8 -/
theorem info_u8 : (Tryd.prog.info? 5).map (fun i => (i.zero, i.size, i.bytes)) = some (some (.int .u8 0), 1, 1) := by kernel_rfl
def Own8 (W : World) (base : Nat) (v : Value) (l : List Nat) : Prop := W.ownsRow base 5 1 v l.length (numVals .u8 l)
theorem Own8.nil (W : World) (base : Nat) : Own8 W base (.slice none 0 0) [] := World.ownsRow_nil _ _ _ _
theorem Own8.below {n base : Nat} {W W' : World} {v : Value} {p : List Nat} (h : Own8 W base v p) (hb : Below n W W') (hn : W.heap.size ≤ n) : Own8 W' base v p := own_below h hb hn
theorem Own8.heq {W W' : World} {base : Nat} {v : Value} {p : List Nat} (h : Own8 W base v p) (e : W'.heap = W.heap) : Own8 W' base v p := own_heap h (fun j _ => by rw [e])
theorem Own8.alloc {W : World} {base : Nat} {v : Value} {p : List Nat} (h : Own8 W base v p) (o : Obj) : Own8 (W.alloc o) base v p := own_heap h (fun k hk => Below.heap_alloc W o k hk)
theorem Own8.form {W : World} {base : Nat} {v : Value} {p : List Nat} (h : Own8 W base v p) (n : Nat) (hn : p.length = n) (h0 : 0 < n) :
    ∃ g cap, v = .slice (some ⟨g, 0, none⟩) n cap ∧ n ≤ cap ∧ base ≤ g ∧ g < W.heap.size ∧ NumsAt .u8 W g 0 p ∧ cap ≤ maxLen := by
  subst hn
  rcases h.2 with ⟨_, h1⟩ | ⟨g, cap, cur, hv, hb, hg, h2, h3, h4, h5⟩
  · omega
  · refine ⟨g, cap, hv, by omega, hb, ?_, ?_, h3⟩
    · rcases Nat.lt_or_ge g W.heap.size with hlt | hge
      · exact hlt
      · rw [Array.getElem?_eq_none hge] at hg; cases hg
    · intro j hj
      rw [cell_of_row W g (0 + j) cur _ _ hg, ← Array.getElem?_toList, ← List.getElem?_take_of_lt (j := p.length * 1) (by omega), h5]
      simp [numVals, hj]
theorem own8_new (W : World) (base : Nat) (l : List Nat) (hb : base ≤ W.heap.size) (hl : l.length ≤ maxLen) : Own8 (W.alloc (.cells (numVals .u8 l).toArray 5)) base (.slice (some ⟨W.heap.size, 0, none⟩) l.length l.length) l :=
  ⟨by simp [numVals], .inr ⟨W.heap.size, l.length, (numVals .u8 l).toArray, rfl, hb, heap_alloc_new W _, Nat.le_refl _, hl, by simp [numVals], by rw [List.take_of_length_le (by simp [numVals])]⟩⟩
theorem run_push8 (w w0 : World) (n : Nat) (ty : TypeId) (v : Value) (l p : List Nat) (hown : Own8 w n v l) (hb : Below n w0 w) (hn : n ≤ w.heap.size) (g o m c : Nat) (hm : p.length = m) (hc : NumsAt .u8 w g o p) (hl : l.length + m ≤ 17592186044416) :
    ∃ v' w', (Builtin.append_ #[72, 72] ty #[v, .slice (some ⟨g, o, none⟩) m c]).run Tryd.prog w = .ok v' w' ∧ Own8 w' n v' (l ++ p) ∧ Below n w0 w' ∧ w.grownBy w' v.ownBlock := by
  obtain ⟨i0, hi, hz0, hz1, hz2⟩ := info_parts info_u8
  subst hm
  obtain ⟨v', w', hrun, r1, r2, _⟩ := run_append_own (P := Tryd.prog) w n 72 ty 5 i0 (.int .u8 0) 1 1 Tryd.underlying72 hi hz0 hz1 hz2 rfl (by decide) v l.length (numVals .u8 l) hown
      ⟨g, o, none⟩ p.length c (numVals .u8 p) (by simp [numVals]) (by
        intro j u hj
        obtain ⟨h1, rfl⟩ := numVals_get hj
        rw [add_at]; exact hc j h1) numVals_one (by unfold maxLen; omega) (by omega) hn
  refine ⟨v', w', hrun, ?_, hb.grown r2 hn (own_ge hown), r2⟩
  unfold Own8
  rw [numVals_append, List.length_append]
  exact r1
theorem step_push8 {ops : Array Oper} {o : Oper} {a : Act} {w w0 : World} {K : Act → World → Prop} {Q : Exit → Act → World → Prop} {E : Prop}
    (hgd : o.guard = none) (s x : Operand) (hop : o.op = Op.call { callee := Callee.builtin Builtin.append, args := #[s, x], argTypes := #[72, 72] })
    (n : Nat) (v : Value) (l p : List Nat) (hs : a.eval s = v) (hown : Own8 w n v l) (hb : Below n w0 w) (hn : n ≤ w.heap.size) (g off m c : Nat) (hx : a.eval x = .slice (some ⟨g, off, none⟩) m c) (hm : p.length = m) (hc : NumsAt .u8 w g off p) (hl : l.length + m ≤ 17592186044416)
    (hK : ∀ v' w', Own8 w' n v' (l ++ p) → Below n w0 w' → w.grownBy w' v.ownBlock → K (a.put o.dst v') w') :
    if Region.wanted o (yielded ops a.tmps) = true then Oper.wp Tryd.prog o a w K Q else E := by
  have hw : Region.wanted o (yielded ops a.tmps) = true := by simp [Region.wanted, hgd]
  rw [if_pos hw]
  obtain ⟨v', w', hrun, r1, r2, r3⟩ := run_push8 w w0 n o.type v l p hown hb hn g off m c hm hc hl
  unfold Oper.wp
  simp [execOp, hop, resolve, invoke, builtin, hs, hx, hrun, Result.andThen]
  exact hK v' w' r1 r2 r3
theorem walk_push8 {ops : Array Oper} {o : Oper} {rest : List Oper} {a : Act} {w w0 : World} {Q : Exit → Act → World → Prop}
    (hgd : o.guard = none) (s x : Operand) (hop : o.op = Op.call { callee := Callee.builtin Builtin.append, args := #[s, x], argTypes := #[72, 72] })
    (n : Nat) (v : Value) (l p : List Nat) (hs : a.eval s = v) (hown : Own8 w n v l) (hb : Below n w0 w) (hn : n ≤ w.heap.size) (g off m c : Nat) (hx : a.eval x = .slice (some ⟨g, off, none⟩) m c) (hm : p.length = m) (hc : NumsAt .u8 w g off p) (hl : l.length + m ≤ 17592186044416)
    (hK : ∀ v' w', Own8 w' n v' (l ++ p) → Below n w0 w' → wpList Tryd.prog ops Q rest (a.put o.dst v') w') : wpList Tryd.prog ops Q (o :: rest) a w := by
  refine wpList_plain hgd fun K hK' => ?_
  obtain ⟨v', w', hrun, r1, r2, _⟩ := run_push8 w w0 n o.type v l p hown hb hn g off m c hm hc hl
  unfold Oper.wp
  simp [execOp, hop, resolve, invoke, builtin, hs, hx, hrun, Result.andThen]
  exact hK' _ _ (hK v' w' r1 r2)

/-! ### Behind a build and a draw -/
theorem mid8 {W W' : World} {base : Nat} {v : Value} {p : List Nat} (h : Own8 W base v p) {o : Obj} (e : W' = (W.alloc o).drew) : Own8 W' base v p := by subst e; exact (h.alloc o).heq rfl
theorem midI {W W' : World} {base : Nat} {v : Value} {p : List Nat} (h : OwnI W base v p) {o : Obj} (e : W' = (W.alloc o).drew) : OwnI W' base v p := by subst e; exact (h.alloc o).heq rfl
theorem mid_below {n : Nat} {w W W' : World} (h : Below n w W) (hn : n ≤ W.heap.size) {o : Obj} (e : W' = (W.alloc o).drew) : Below n w W' := by subst e; exact below_same (h.alloc hn o) rfl rfl rfl rfl
theorem mid_num1 {W W' : World} {k : IntKind} {x : Int} {t : TypeId} (n : Nat) (e : W' = (W.alloc (.cells #[.int k x] t)).drew) (hx : x = (n : Nat)) : NumsAt k W' W.heap.size 0 [n] := by subst e; exact (new_num1 k W x n hx t).heq rfl
theorem cell_mid {W W' : World} {p : Addr} {v : Value} (h : W.cell? p = some v) {o : Obj} (e : W' = (W.alloc o).drew) : W'.cell? p = some v := by
  subst e; exact (World.cell?_of_block (Below.heap_alloc W o p.block (World.block_lt_of_cell? W p h))).trans h
theorem mid_nums {W W' : World} {k : IntKind} {t : TypeId} (l : List Nat) (e : W' = (W.alloc (.cells (numVals k l).toArray t)).drew) : NumsAt k W' W.heap.size 0 l := by subst e; exact (new_nums k W l t).heq rfl
set_option maxRecDepth 100000 in
theorem at8 (g o n c i : Nat) (z : Int) (hz : z = (i : Nat)) (hi : i < n) (w : World) :
    (Instr.indexAt 72 (.slice (some ⟨g, o, none⟩) n c) (.int .i64 z)).run Tryd.prog w = .ok (.pointer (some ⟨g, o + i, none⟩)) w := by
  subst hz
  have hs : ∀ w, (sizeOf (Tryd.prog.elem 72)).run Tryd.prog w = .ok 1 w := fun w => by kernel_rfl
  rw [run_indexAt_slice w 72 _ _ _ _ _ Tryd.underlying72, if_pos (by omega)]
  simp [hs, add_at, Result.andThen]
set_option maxRecDepth 100000 in
theorem atI (g o n c i : Nat) (z : Int) (hz : z = (i : Nat)) (hi : i < n) (w : World) :
    (Instr.indexAt 48 (.slice (some ⟨g, o, none⟩) n c) (.int .i64 z)).run Tryd.prog w = .ok (.pointer (some ⟨g, o + i, none⟩)) w := by
  subst hz
  have hs : ∀ w, (sizeOf (Tryd.prog.elem 48)).run Tryd.prog w = .ok 1 w := fun w => by kernel_rfl
  rw [run_indexAt_slice w 48 _ _ _ _ _ Tryd.underlying48, if_pos (by omega)]
  simp [hs, add_at, Result.andThen]
end Go.Proofs.YtildgpahacaglaaDoor
