/-
  The contracts of digest.proofOf and part.
-/
import Derived.Test.YtoaaelnmbpmbeaaDoorStep
import Derived.Test.YtoaaelnmbpmbeaaDoorVerify
namespace Go.Proofs.YtoaaelnmbpmbeaaDoor
open Go Go.Proofs Go.RowKit Go.Lib

/-- A list of strings in a row of the call's own. -/
def OwnStrs (W : World) (base : Nat) (v : Value) (p : List ByteArray) : Prop := W.ownsRow base 9 1 v p.length (strVals p)
theorem OwnStrs.below {n base : Nat} {W W' : World} {v : Value} {p : List ByteArray} (h : OwnStrs W base v p) (hb : Below n W W') (hn : W.heap.size ≤ n) : OwnStrs W' base v p := own_below h hb hn
theorem OwnStrs.nil (W : World) (base : Nat) : OwnStrs W base (.slice none 0 0) [] := World.ownsRow_nil _ _ _ _
/-- What proofOf leaves. -/
def ListPost (n : Nat) (w : World) (p : List ByteArray) (e : Ending) (w' : World) : Prop := ∃ v, e = .returned v ∧ OwnStrs w' n v p ∧ Below n w w'
theorem list_grow {P : Program} {f : FuncId} {args : Array Value} {n : Nat} {w W : World} {p : List ByteArray} (c : Calls P f args W (ListPost W.heap.size W p)) (hb : Below n w W) (hn : n ≤ W.heap.size) :
    Calls P f args W (ListPost n w p) := c.mono fun _ _ ⟨v, he, ho, h⟩ => ⟨v, he, own_base ho hn, hb.trans (h.mono hn)⟩
theorem enters_root : ∀ args w, (callFunc 27 args).run Tryd.prog w = .ok (.enter 27 args) w := enters_of Tryd.func27 (by kernel_rfl) rfl
theorem enters_proof : ∀ args w, (callFunc 43 args).run Tryd.prog w = .ok (.enter 43 args) w := enters_of Tryd.func43 (by kernel_rfl) rfl
theorem enters_part : ∀ args w, (callFunc 45 args).run Tryd.prog w = .ok (.enter 45 args) w := enters_of Tryd.func45 (by kernel_rfl) rfl
theorem below_same {n : Nat} {w W W' : World} (h : Below n w W) (ho : W'.os = W.os) (ht : W'.tape = W.tape) (hp : W'.output = W.output) (hh : W'.heap = W.heap) : Below n w W' :=
  ⟨ho.trans h.os, ht.trans h.tape, hp.trans h.output, by rw [hh]; exact h.size, fun k hk => by rw [hh]; exact h.block k hk⟩
theorem new_cell (W : World) (y : ByteArray) (t : TypeId) : (W.alloc (.cells #[.string y] t)).cell? ⟨W.heap.size, 0, none⟩ = some (.string y) := by
  rw [cell_of_row _ _ 0 _ _ _ (heap_alloc_new W _)]; rfl

theorem strs_info : (Tryd.prog.info? 9).map (fun i => (i.zero, i.size, i.bytes)) = some (some (.string ByteArray.empty), 1, 16) := by kernel_rfl

/-- append of one string to a row of one's own: a step of a region. -/
theorem step_push {ops : Array Oper} {o : Oper} {a : Act} {w w0 : World} {K : Act → World → Prop} {Q : Exit → Act → World → Prop} {E : Prop}
    (hgd : o.guard = none) (s x : Operand) (hop : o.op = Op.call { callee := Callee.builtin Builtin.append, args := #[s, x], argTypes := #[26, 26] })
    (n : Nat) (v : Value) (p : List ByteArray) (hs : a.eval s = v) (hown : OwnStrs w n v p) (hb : Below n w0 w) (hn : n ≤ w.heap.size) (ad : Addr) (c : Nat) (y : ByteArray) (hx : a.eval x = .slice (some ad) 1 c)
    (hc : w.cell? (ad.add 0) = some (.string y)) (hl : p.length ≤ 1000000)
    (hK : ∀ v' w', OwnStrs w' n v' (p ++ [y]) → Below n w0 w' → K (a.put o.dst v') w') :
    if Region.wanted o (yielded ops a.tmps) = true then Oper.wp Tryd.prog o a w K Q else E := by
  obtain ⟨i0, hi, hz0, hz1, hz2⟩ := info_parts strs_info
  refine step_append_own hgd s x 26 hop n 9 i0 (.string ByteArray.empty) 1 16 Tryd.underlying26 hi hz0 hz1 hz2 rfl (by decide) v p.length (strVals p) hs hown ad 1 c [.string y] hx rfl ?_ ?_ (by unfold maxLen; omega) (by omega) hn ?_
  · intro j u hj
    have : j = 0 := by
      rcases Nat.eq_zero_or_pos j with h | h
      · exact h
      · rw [List.getElem?_eq_none (by simp; omega)] at hj; cases hj
    subst this
    simp at hj
    rw [← hj]; exact hc
  · intro u hu
    simp at hu
    subst hu; rfl
  · intro v' w' h1 h2
    refine hK v' w' ?_ (hb.grown h2 hn (own_ge hown))
    unfold OwnStrs strVals
    rw [List.map_append, List.length_append]
    exact h1

set_option maxRecDepth 100000 in
set_option maxHeartbeats 4000000 in
theorem proof_any : ∀ (N : Nat) (l : List ByteArray) (i b o cap : Nat) (w : World), l.length ≤ N → l.length ≤ 1000000 → i < l.length → l.length ≤ cap → l.length ≤ 1099511627776 → b < w.heap.size → StrsAt w b o l → Small l → Ready w →
    Calls Tryd.prog 43 #[.slice (some ⟨b, o, none⟩) l.length cap, .int .i64 (i : Nat)] w (ListPost w.heap.size w (proofF l i)) := by
  intro N
  induction N with
  | zero => intro l i b o cap w hN h6 hi; omega
  | succ N ih =>
    intro l i b o cap w hN h6 hi hc hc2 hb hS hM hR
    by_cases h2 : l.length = 1
    · have hp := proofF_small (l := l) (by omega) i
      rw [h2] at hc ⊢
      have HP := Lib.hid hp
      clear hp ih hS hM hR h2 hN h6 hi
      go_enter Tryd.func43, Tryd.ntmps43
      go_wp2_with fail
      go_ret
      exact ⟨_, rfl, by rw [HP.out]; exact OwnStrs.nil _ _, Below.refl _ _⟩
    · have hk := splitN_lt (n := l.length) (by omega)
      have hk1 := splitN_pos l.length
      have csp := split_any l.length (by omega) (by omega)
      have hs1 : (l.take (splitN l.length)).length = splitN l.length := by simp; omega
      have hs2 : (l.drop (splitN l.length)).length = l.length - splitN l.length := by simp
      have hz1 : ((l.length : Int) == 1) = false := by rw [beq_eq_false_iff_ne]; omega
      by_cases hik : i < splitN l.length
      · have hpr := proofF_lo (l := l) (by omega) hik
        have hlen := proofF_length 40 (l.take (splitN l.length)) i (by rw [hs1]; omega)
        have c1 := fun W (h : Below w.heap.size w W) => list_grow (ih (l.take (splitN l.length)) i b o cap W (by omega) (by omega) (by omega) (by omega) (by omega) (Nat.lt_of_lt_of_le hb h.size) ((hS.below h hb).take _) (hM.take _) (hR.below h)) h h.size
        have c2 := fun W (h : Below w.heap.size w W) => root_any (l.drop (splitN l.length)) b (o + splitN l.length) (cap - splitN l.length) W (by omega) (by omega) (Nat.lt_of_lt_of_le hb h.size) ((hS.below h hb).drop _) (hM.drop _) (hR.below h)
        rw [hs1] at c1
        rw [hs2] at c2
        obtain ⟨p1, ep1⟩ : ∃ p, proofF (l.take (splitN l.length)) i = p := ⟨_, rfl⟩
        obtain ⟨r, er⟩ : ∃ r, rootF (l.drop (splitN l.length)) = r := ⟨_, rfl⟩
        rw [ep1] at hpr hlen c1
        rw [er] at hpr c2
        have hl1 : p1.length ≤ 1000000 := by omega
        obtain ⟨k, ek⟩ : ∃ k, splitN l.length = k := ⟨_, rfl⟩
        obtain ⟨n, en⟩ : ∃ n, l.length = n := ⟨_, rfl⟩
        rw [ek] at c1 c2 csp hk hk1 hik
        rw [en] at c2 csp hk hc hz1 hi hN h6 ⊢
        have hik2 : (i : Int) < (k : Int) := by omega
        have hsl1 := fun w => slice_lo b o n cap k (by omega) w
        have hsl2 := fun w => slice_hi b o n cap k (by omega) (by omega) w
        have C1 := Lib.hid c1; have C2 := Lib.hid c2; have CS := Lib.hid csp; have HPR := Lib.hid hpr
        clear c1 c2 csp hpr ep1 er ek en hS hM hR hs1 hs2 hN h2 ih hlen
        go_enter Tryd.func43, Tryd.ntmps43
        go_wp2_with fail
        refine (CS.out _).mono ?_
        rintro e w' ⟨rfl, rfl⟩
        go_wp2_with fail
        go_region_law (first | (refine step_push (w0 := w) rfl _ _ rfl w.heap.size v1 p1 rfl (own_heap (own_heap ho1 (fun k hk => hb2.block k hk)) (fun k hk => Below.heap_alloc W2 _ k hk)) (below_same (hb2'.alloc hb2'.size _) rfl rfl rfl rfl) (Nat.le_trans hb2'.size (by simp)) _ _ r rfl (new_cell W2 r _) hl1 ?_; intro v3 W3 ho3 hb3) | (go_simp; go_at_call 43; (with_reducible refine (C1.out _ ?_).mono ?_); exact ⟨rfl, rfl, rfl, Nat.le_refl _, fun _ _ => rfl⟩; rintro e W1 ⟨v1, rfl, ho1, hb1⟩) | (go_simp; go_at_call 27; (with_reducible refine (C2.out _ ?_).mono ?_); exact ⟨hb1.os, hb1.tape, hb1.output, hb1.size, hb1.block⟩; rintro e W2 ⟨rfl, hb2⟩; have hb2' := Below.trans (show Below w.heap.size w _ from ⟨hb1.os, hb1.tape, hb1.output, hb1.size, hb1.block⟩) (hb2.mono hb1.size)))
        all_goals (go_wp2; go_ret; exact ⟨_, rfl, by rw [HPR.out]; exact ho3, hb3⟩)
      · have hpr := proofF_hi (l := l) (by omega) hik
        have hlen := proofF_length 40 (l.drop (splitN l.length)) (i - splitN l.length) (by rw [hs2]; omega)
        have c1 := fun W (h : Below w.heap.size w W) => list_grow (ih (l.drop (splitN l.length)) (i - splitN l.length) b (o + splitN l.length) (cap - splitN l.length) W (by omega) (by omega) (by omega) (by omega) (by omega) (Nat.lt_of_lt_of_le hb h.size) ((hS.below h hb).drop _) (hM.drop _) (hR.below h)) h h.size
        have c2 := fun W (h : Below w.heap.size w W) => root_any (l.take (splitN l.length)) b o cap W (by omega) (by omega) (Nat.lt_of_lt_of_le hb h.size) ((hS.below h hb).take _) (hM.take _) (hR.below h)
        rw [hs2, show ((i - splitN l.length : Nat) : Int) = (i : Int) - (splitN l.length : Int) by omega] at c1
        rw [hs1] at c2
        obtain ⟨p1, ep1⟩ : ∃ p, proofF (l.drop (splitN l.length)) (i - splitN l.length) = p := ⟨_, rfl⟩
        obtain ⟨r, er⟩ : ∃ r, rootF (l.take (splitN l.length)) = r := ⟨_, rfl⟩
        rw [ep1] at hpr hlen c1
        rw [er] at hpr c2
        have hl1 : p1.length ≤ 1000000 := by omega
        obtain ⟨k, ek⟩ : ∃ k, splitN l.length = k := ⟨_, rfl⟩
        obtain ⟨n, en⟩ : ∃ n, l.length = n := ⟨_, rfl⟩
        rw [ek] at c1 c2 csp hk hk1 hik
        rw [en] at c1 csp hk hc hz1 hi hN h6 ⊢
        have hik2 : ¬ (i : Int) < (k : Int) := by omega
        have hwi : IntKind.i64.wrap ((i : Int) - (k : Int)) = (i : Int) - (k : Int) := IntWalk.i64_in _ (by omega)
        have hsl1 := fun w => slice_lo b o n cap k (by omega) w
        have hsl2 := fun w => slice_hi b o n cap k (by omega) (by omega) w
        have C1 := Lib.hid c1; have C2 := Lib.hid c2; have CS := Lib.hid csp; have HPR := Lib.hid hpr
        clear c1 c2 csp hpr ep1 er ek en hS hM hR hs1 hs2 hN h2 ih hlen
        go_enter Tryd.func43, Tryd.ntmps43
        go_wp2_with fail
        refine (CS.out _).mono ?_
        rintro e w' ⟨rfl, rfl⟩
        go_wp2_with fail
        go_region_law (first | (refine step_push (w0 := w) rfl _ _ rfl w.heap.size v1 p1 rfl (own_heap (own_heap ho1 (fun k hk => hb2.block k hk)) (fun k hk => Below.heap_alloc W2 _ k hk)) (below_same (hb2'.alloc hb2'.size _) rfl rfl rfl rfl) (Nat.le_trans hb2'.size (by simp)) _ _ r rfl (new_cell W2 r _) hl1 ?_; intro v3 W3 ho3 hb3) | (go_simp; go_at_call 43; (with_reducible refine (C1.out _ ?_).mono ?_); exact ⟨rfl, rfl, rfl, Nat.le_refl _, fun _ _ => rfl⟩; rintro e W1 ⟨v1, rfl, ho1, hb1⟩) | (go_simp; go_at_call 27; (with_reducible refine (C2.out _ ?_).mono ?_); exact ⟨hb1.os, hb1.tape, hb1.output, hb1.size, hb1.block⟩; rintro e W2 ⟨rfl, hb2⟩; have hb2' := Below.trans (show Below w.heap.size w _ from ⟨hb1.os, hb1.tape, hb1.output, hb1.size, hb1.block⟩) (hb2.mono hb1.size)))
        all_goals (go_wp2; go_ret; exact ⟨_, rfl, by rw [HPR.out]; exact ho3, hb3⟩)
end Go.Proofs.YtoaaelnmbpmbeaaDoor
