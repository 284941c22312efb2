/-
  Layer 8: the contract of the reference's Events. Layer 8: what a valid event holds; whether times agree, plain. Layer 8: an element appended in a walk; the constraints of events, plain. Layer 8: a block named, the box of an event, what stays where a row grows. Layer 8: the contract of the reference's Agrees. Layer 8, the program: areIn, Valid. Layer 8, the program: linked, its closure, isBegin. Layer 8, the program: the tests of two events. Layer 8, the program: Valid.
-/
import Derived.Test.YtamefmojocegkaaDoorProg
import Derived.Test.YtamefmojocegkaaDoorK00
import Derived.Deep.RegionHeld3
import Derived.Lib.QuietBelow
import Derived.Deep.DeepCutAuto
import Derived.Deep.QuietTactic
import Derived.Laws.Rows
import Derived.Laws.OwnMore
import Derived.OwnWalk
import Derived.WalkKit
import Derived.WalkLawsBesides
import Derived.Outline
import Derived.Lib.Hide
import Derived.Below
import Derived.BigQuiet
set_option maxRecDepth 100000
set_option maxHeartbeats 16000000
namespace Go.Proofs.YtamefmojocegkaaDoor
open Go Go.Proofs Go.RowKit Go.Lib
def zE : Ev := ⟨0, 0, 0, 0, 0, 0, 0, 0, 0, 0, 0, 0⟩
def evD (l : List Ev) (i : Nat) : Ev := l.getD i zE
theorem evD_of {l : List Ev} {i : Nat} (h : i < l.length) : evD l i = l[i] := by unfold evD; rw [List.getD_eq_getElem?_getD, List.getElem?_eq_getElem h]; rfl
def StepOk (f : Fl) (l : List Ev) (i : Nat) : Prop :=
 evB (evD l i) = true ∧ (evD l i).ag < (f.dr.length : Int) ∧ (evD l i).tr = (evD l 0).tr ∧ ¬ ((evD l i).kd = 1 ∧ (f.sv.length : Int) ≤ (evD l i).op) ∧
 (0 < i → ¬ (evD l i).ag < (evD l (i - 1)).ag ∧ ¬ ((evD l i).ag = (evD l (i - 1)).ag ∧ (evD l i).sq ≤ (evD l (i - 1)).sq))
def EvsOk (f : Fl) (l : List Ev) : Prop := flB f = true ∧ l.length ≤ 24 ∧ ∀ i, i < l.length → StepOk f l i
noncomputable def evsB (f : Fl) (l : List Ev) : Bool := @decide (EvsOk f l) (Classical.propDecidable _)
theorem evsB_yes {f : Fl} {l : List Ev} (h : EvsOk f l) : evsB f l = true := @decide_eq_true _ (Classical.propDecidable _) h
theorem evsB_no {f : Fl} {l : List Ev} (h : ¬ EvsOk f l) : evsB f l = false := @decide_eq_false _ (Classical.propDecidable _) h
theorem of_evsB {f : Fl} {l : List Ev} (h : evsB f l = true) : EvsOk f l := @of_decide_eq_true _ (Classical.propDecidable _) h
theorem RL.evs {W : World} {ad : Option Addr} {l : List Ev} (h : RL KE W ad l) (h0 : 0 < l.length) : ∃ b o, ad = some ⟨b, o, none⟩ ∧ b < W.heap.size ∧ ∀ k, k < l.length → ∀ W', Below W.heap.size W W' → EvCells W' b (o + 12 * k) (evD l k) := by
 rcases h with h | ⟨b, o, h1, h2, h3⟩
 · subst h
   exact absurd h0 (Nat.not_lt_zero _)
 · refine ⟨b, o, h1, h2, fun k hk W' hb => ?_⟩
   obtain ⟨b2, o2, e, _, h⟩ := RL.ev (.inr ⟨b, o, h1, h2, h3⟩) k hk
   rw [h1] at e
   injection e with e
   injection e with e1 e2
   subst e1 e2
   rw [evD_of hk]
   exact h W' hb
theorem Ev.val_mk (x : Ev) : x.val = .agg #[.int .i64 x.ag, .int .i64 x.sq, .int .i64 x.tm, .int .i64 x.kd, .int .i64 x.tr, .int .i64 x.sp, .int .i64 x.lk, .int .i64 x.gn, .int .i64 x.op, .int .i64 x.vr, .int .i64 x.pe, .int .i64 x.bt] := rfl
end Go.Proofs.YtamefmojocegkaaDoor

namespace Go.Proofs.YtamefmojocegkaaDoor
open Go Go.Proofs Go.RowKit Go.Lib
theorem evB_of {e : Ev} (h : evB e = true) : (0 ≤ e.ag ∧ e.ag ≤ 5) ∧ (0 ≤ e.sq ∧ e.sq ≤ 999) ∧ (0 ≤ e.tm ∧ e.tm ≤ 1000000) ∧ (0 ≤ e.tr ∧ e.tr ≤ 999) ∧ (0 ≤ e.sp ∧ e.sp ≤ 9) ∧ (0 ≤ e.bt ∧ e.bt ≤ 1000) ∧ (0 ≤ e.gn ∧ e.gn ≤ 99) := by
 unfold evB at h
 simp only [Bool.and_eq_true] at h
 obtain ⟨⟨⟨⟨⟨⟨h1, h2⟩, h3⟩, h4⟩, h5⟩, h6⟩, h7⟩ := h
 refine ⟨of_inB h1, of_inB h2, of_inB h3, of_inB h4, of_inB h5, of_inB h6, ?_⟩
 split at h7
 · simp only [Bool.and_eq_true, beq_iff_eq] at h7
   omega
 · rw [Bool.and_eq_true] at h7
   have h7 := h7.2
   split at h7
   · simp only [Bool.and_eq_true, beq_iff_eq] at h7; omega
   · split at h7
     · simp only [Bool.and_eq_true, beq_iff_eq] at h7; omega
     · split at h7
       · rw [Bool.and_eq_true] at h7; exact of_inB h7.2
       · split at h7
         · simp only [Bool.and_eq_true, beq_iff_eq] at h7; omega
         · cases h7
theorem flB_of {f : Fl} (h : flB f = true) : (1 ≤ f.dr.length ∧ f.dr.length ≤ 6) ∧ (∀ x ∈ f.dr, 0 ≤ x ∧ x ≤ 1000) ∧ (0 ≤ f.lat ∧ f.lat ≤ 1000000) ∧ (0 ≤ f.lia ∧ f.lia ≤ 2) ∧ f.lia < (f.dr.length : Int) ∧ (1 ≤ f.tm.length ∧ f.tm.length ≤ 8) ∧ (1 ≤ f.sv.length ∧ f.sv.length ≤ 12) := by
 unfold flB at h
 simp only [Bool.and_eq_true] at h
 obtain ⟨⟨⟨⟨⟨h1, h2⟩, h3⟩, h4⟩, h5⟩, ⟨⟨h6, h7⟩, h8⟩, h9⟩ := h
 have a1 := of_inB h1
 have a6 := of_inB h6
 have a8 := of_inB h8
 refine ⟨by omega, fun x hx => of_inB (List.all_eq_true.1 h2 x hx), of_inB h3, of_inB h4, of_decide_eq_true h5, by omega, by omega⟩
theorem drOf_bd {f : Fl} (h : flB f = true) {ag : Int} (h0 : 0 ≤ ag) (h1 : ag < (f.dr.length : Int)) : 0 ≤ f.drOf ag ∧ f.drOf ag ≤ 1000 := by
 unfold Fl.drOf
 have hl : ag.toNat < f.dr.length := by omega
 rw [List.getD_eq_getElem?_getD, List.getElem?_eq_getElem hl]
 exact (flB_of h).2.1 _ (List.getElem_mem hl)
def xD (x : List Int) (i : Nat) : Int := x.getD i 0
theorem xD_of {x : List Int} {i : Nat} (h : i < x.length) : xD x i = x[i] := by unfold xD; rw [List.getD_eq_getElem?_getD, List.getElem?_eq_getElem h]; rfl
theorem timesB_of {n : Nat} {x : List Int} (h : timesB n x = true) : (∀ i, -17592186044416 ≤ xD x i ∧ xD x i ≤ 17592186044416) ∧ x.length = n := by
 unfold timesB at h
 rw [Bool.and_eq_true] at h
 refine ⟨fun i => ?_, of_decide_eq_true h.2⟩
 rcases Nat.lt_or_ge i x.length with hi | hi
 · rw [xD_of hi]
   exact of_inB (List.all_eq_true.1 h.1 _ (List.getElem_mem hi))
 · unfold xD
   rw [List.getD_eq_getElem?_getD, List.getElem?_eq_none hi]
   exact ⟨by decide, by decide⟩
def belB (m ag : Int) : Bool := !(bits .and .i64 (m / 2 ^ ag.toNat) 1 == 0)
def PairOk (f : Fl) (l : List Ev) (x : List Int) (m : Int) (i j : Nat) : Prop :=
 i = j ∨ belB m (evD l i).ag = false ∨ belB m (evD l j).ag = false ∨
 (((evD l i).ag = (evD l j).ag → i < j → shB (f.drOf (evD l i).ag) ((evD l j).tm - (evD l i).tm) (xD x i) (xD x j) = true) ∧
  (folB (evD l i) (evD l j) = true → folN f.lat (evD l i) (evD l j) ≤ xD x j - xD x i))
def AgOk (f : Fl) (l : List Ev) (x : List Int) (m : Int) : Prop := evsB f l = true ∧ timesB l.length x = true ∧ ∀ i j, i < l.length → j < l.length → PairOk f l x m i j
noncomputable def agB (f : Fl) (l : List Ev) (x : List Int) (m : Int) : Bool := @decide (AgOk f l x m) (Classical.propDecidable _)
theorem agB_yes {f : Fl} {l : List Ev} {x : List Int} {m : Int} (h : AgOk f l x m) : agB f l x m = true := @decide_eq_true _ (Classical.propDecidable _) h
theorem agB_no {f : Fl} {l : List Ev} {x : List Int} {m : Int} (h : ¬ AgOk f l x m) : agB f l x m = false := @decide_eq_false _ (Classical.propDecidable _) h
theorem of_agB {f : Fl} {l : List Ev} {x : List Int} {m : Int} (h : agB f l x m = true) : AgOk f l x m := @of_decide_eq_true _ (Classical.propDecidable _) h
end Go.Proofs.YtamefmojocegkaaDoor

namespace Go.Proofs.YtamefmojocegkaaDoor
open Go Go.Proofs Go.RowKit Go.Lib
theorem RowK.vs_one1 {T : Type} (K : RowK T) (x : T) : K.vs [x] = K.cs x := by unfold RowK.vs; simp
theorem RowK.push1 {T : Type} (K : RowK T) (w : World) (n : Nat) (ty : TypeId) (v : Value) (l : List T) (x : T) (hown : Own K w n v l) (hn : n ≤ w.heap.size) (g c : Nat)
 (hc : CellsAt w g (K.cs x)) (hl : l.length + 1 ≤ 100000000) :
 ∃ v' w', (Builtin.append_ #[K.st, K.st] ty #[v, .slice (some ⟨g, 0, none⟩) 1 c]).run Tryd.prog w = .ok v' w' ∧ Own K w' n v' (l ++ [x]) ∧ w.grownBy w' v.ownBlock ∧ (v'.ownBlock = v.ownBlock ∨ v'.ownBlock = some w.heap.size) :=
 K.push w n ty v l [x] hown hn ⟨g, 0, none⟩ 1 c rfl (by rw [K.vs_one1]; exact hc.news) hl
theorem walk_push8 {T : Type} (K : RowK T) {ops : Array Oper} {o : Oper} {rest : List Oper} {a : Act} {w w0 : World} {Q : Exit → Act → World → Prop}
 (hgd : o.guard = none) (s x : Operand) (hop : o.op = Op.call { callee := Callee.builtin Builtin.append, args := #[s, x], argTypes := #[K.st, K.st] })
 (n : Nat) (v : Value) (l : List T) (y : T) (hs : a.eval s = v) (hown : Own K w n v l) (hb : Below n w0 w) (hn : n ≤ w.heap.size) (g c : Nat) (hx : a.eval x = .slice (some ⟨g, 0, none⟩) 1 c) (hc : CellsAt w g (K.cs y)) (hl : l.length + 1 ≤ 100000000)
 (hK : ∀ v' w', Own K w' n v' (l ++ [y]) → Below n w0 w' → w.grownBy w' v.ownBlock → (v'.ownBlock = v.ownBlock ∨ v'.ownBlock = some w.heap.size) → wpList Tryd.prog ops Q rest (a.put o.dst v') w') : wpList Tryd.prog ops Q (o :: rest) a w := by
 refine wpList_plain hgd fun KK hK' => ?_
 obtain ⟨v', w', hrun, r1, r2, r3⟩ := K.push1 w n o.type v l y hown hn g c hc hl
 unfold Oper.wp
 simp [execOp, hop, resolve, invoke, builtin, hs, hx, hrun, Result.andThen]
 exact hK' _ _ (hK v' w' r1 (hb.grown r2 hn (fun k hk => (hown.ge k hk).1)) r2 r3)
def mask8 (a b : Ev) : Int := if a.ag = b.ag then 2 ^ a.ag.toNat else 2 ^ a.ag.toNat + 2 ^ b.ag.toNat
def low8 (dr d : Int) : Int := if 1 ≤ d then (d - 1) * (1000000 - dr) + 1 else 0
def conA (f : Fl) (l : List Ev) (i j : Nat) : List C4 :=
 if (evD l i).ag = (evD l j).ag ∧ i < j then
  [⟨j, i, -(low8 (f.drOf (evD l i).ag) ((evD l j).tm - (evD l i).tm)), mask8 (evD l i) (evD l j)⟩, ⟨i, j, ((evD l j).tm - (evD l i).tm + 1) * (1000000 + f.drOf (evD l i).ag) - 1, mask8 (evD l i) (evD l j)⟩]
 else []
def conB (f : Fl) (l : List Ev) (i j : Nat) : List C4 := if folB (evD l i) (evD l j) = true then [⟨j, i, -(folN f.lat (evD l i) (evD l j)), mask8 (evD l i) (evD l j)⟩] else []
def conP (f : Fl) (l : List Ev) (i j : Nat) : List C4 := if i = j then [] else conA f l i j ++ conB f l i j
def conR (f : Fl) (l : List Ev) (i n : Nat) : List C4 := (List.range n).flatMap (conP f l i)
def conN (f : Fl) (l : List Ev) (k : Nat) : List C4 := (List.range k).flatMap fun i => conR f l i l.length
noncomputable def conL (f : Fl) (l : List Ev) : List C4 := if evsB f l = true then conN f l l.length else []
noncomputable def conE (f : Fl) (l : List Ev) : Int := if evsB f l = true then 0 else 80
theorem pow8 (q : Nat) (h : q ≤ 5) : 1 ≤ (2 : Int) ^ q ∧ (2 : Int) ^ q ≤ 32 := by
 have h : q = 0 ∨ q = 1 ∨ q = 2 ∨ q = 3 ∨ q = 4 ∨ q = 5 := by omega
 rcases h with rfl | rfl | rfl | rfl | rfl | rfl <;> decide
def ConPost (w : World) (l : List C4) (er : Int) (e : Ending) (w' : World) : Prop := ∃ ad c, e = .returned (.tuple #[.slice ad l.length c, .int .i64 er]) ∧ l.length ≤ c ∧ RN KC w' w.heap.size ad l ∧ Below w.heap.size w w'
end Go.Proofs.YtamefmojocegkaaDoor

namespace Go.Proofs.YtamefmojocegkaaDoor
open Go Go.Proofs Go.RowKit Go.Lib
theorem CellsAt.grown {W W' : World} {B : Nat} {v : Value} {vs : List Value} {row : Option Nat} (h : CellsAt W B (v :: vs)) (hg : W.grownBy W' row) (hne : some B ≠ row) : CellsAt W' B (v :: vs) := fun i hi => by
 have l := World.block_lt_of_cell? W ⟨B, 0, none⟩ (h 0 (Nat.zero_lt_succ _)).1
 exact ⟨(World.cell?_of_block (a := ⟨B, i, none⟩) (hg.block B l hne)).trans (h i hi).1, (World.frozen?_of_block (a := ⟨B, i, none⟩) (hg.block B l hne)).trans (h i hi).2⟩
theorem CellsAt.up {n : Nat} {W W' : World} {B : Nat} {vs : List Value} (h : CellsAt W B vs) (b : Below n W W') (hB : B < n) : CellsAt W' B vs := fun i hi =>
 ⟨(b.cell (p := ⟨B, i, none⟩) hB).trans (h i hi).1, (b.frozen (p := ⟨B, i, none⟩) hB).trans (h i hi).2⟩
def EvBox (W : World) (B : Nat) (x : Ev) : Prop := W.cell? ⟨B, 0, none⟩ = some (.int .i64 x.ag) ∧ W.cell? ⟨B, 1, none⟩ = some (.int .i64 x.sq) ∧ W.cell? ⟨B, 2, none⟩ = some (.int .i64 x.tm) ∧ W.cell? ⟨B, 3, none⟩ = some (.int .i64 x.kd) ∧ W.cell? ⟨B, 4, none⟩ = some (.int .i64 x.tr) ∧ W.cell? ⟨B, 5, none⟩ = some (.int .i64 x.sp) ∧ W.cell? ⟨B, 6, none⟩ = some (.int .i64 x.lk) ∧ W.cell? ⟨B, 7, none⟩ = some (.int .i64 x.gn) ∧ W.cell? ⟨B, 8, none⟩ = some (.int .i64 x.op) ∧ W.cell? ⟨B, 9, none⟩ = some (.int .i64 x.vr) ∧ W.cell? ⟨B, 10, none⟩ = some (.int .i64 x.pe) ∧ W.cell? ⟨B, 11, none⟩ = some (.int .i64 x.bt)
theorem CellsAt.ev {W : World} {B : Nat} {x : Ev} (h : CellsAt W B x.cells) : EvBox W B x :=
 ⟨(h 0 (by simp [Ev.cells])).1, (h 1 (by simp [Ev.cells])).1, (h 2 (by simp [Ev.cells])).1, (h 3 (by simp [Ev.cells])).1, (h 4 (by simp [Ev.cells])).1, (h 5 (by simp [Ev.cells])).1, (h 6 (by simp [Ev.cells])).1, (h 7 (by simp [Ev.cells])).1, (h 8 (by simp [Ev.cells])).1, (h 9 (by simp [Ev.cells])).1, (h 10 (by simp [Ev.cells])).1, (h 11 (by simp [Ev.cells])).1⟩
theorem lay8 (W : World) (vs : List Value) (t : TypeId) : ∃ W', W.alloc (.cells vs.toArray t) = W' ∧ W'.heap.size = W.heap.size + 1 ∧ CellsAt W' W.heap.size vs ∧ Below W.heap.size W W' :=
 ⟨_, rfl, by simp, cellsAt_new rfl, (Below.refl _ _).alloc (Nat.le_refl _) _⟩
theorem neg8 {x : Int} (h : -1152921504606846976 ≤ x) (h2 : x ≤ 1152921504606846976) : IntKind.i64.wrap (-x) = -x := IntWalk.i64_in _ (by omega)
end Go.Proofs.YtamefmojocegkaaDoor

namespace Go.Proofs.YtamefmojocegkaaDoor
open Go Go.Proofs Go.RowKit Go.Lib
theorem RL.ints8 {W : World} {ad : Option Addr} {l : List Int} (h : RL KI W ad l) (h0 : 0 < l.length) : ∃ b o, ad = some ⟨b, o, none⟩ ∧ b < W.heap.size ∧ ∀ k, k < l.length → ∀ W', Below W.heap.size W W' → W'.cell? ⟨b, o + k, none⟩ = some (.int .i64 (xD l k)) := by
 rcases h with h | ⟨b, o, h1, h2, h3⟩
 · subst h
   exact absurd h0 (Nat.not_lt_zero _)
 · refine ⟨b, o, h1, h2, fun k hk W' hb => ?_⟩
   obtain ⟨b2, o2, e, _, h⟩ := RL.int (.inr ⟨b, o, h1, h2, h3⟩) k hk
   rw [h1] at e
   injection e with e
   injection e with e1 e2
   subst e1 e2
   rw [xD_of hk]
   exact h W' hb
end Go.Proofs.YtamefmojocegkaaDoor

namespace Go.Proofs.YtamefmojocegkaaDoor
open Go Go.Proofs Go.RowKit Go.Lib
theorem areIn1_u (v lo hi : Int) (A B : Nat) (w : World) (hA : w.cell? ⟨A, 0, none⟩ = some (.int .i64 lo)) (hB : w.cell? ⟨B, 0, none⟩ = some (.int .i64 hi)) :
 Calls Tryd.prog 64 #[.int .i64 v, .pointer (some ⟨A, 0, none⟩), .pointer (some ⟨B, 0, none⟩)] w fun e w' => e = .returned (.bool (!inB v lo hi)) ∧ w' = w := by
 have HC := Lib.hid (fun W => isIn_u v lo hi W)
 generalize inB v lo hi = b at *
 go_enter Tryd.func64, Tryd.ntmps64
 go_wp2_with fail
 refine (HC.out _).mono ?_
 rintro e z ⟨rfl, rfl⟩
 go_wp2_with fail
 go_ret
 exact ⟨rfl, rfl⟩
theorem indexInt_u (p : Int → Bool) (F : Nat) (lb : Array Value) (n : Nat) (ad : Option Addr) (c : Nat) (l : List Int) (hl : l.length ≤ maxLen) (w : World) (hn : n ≤ w.heap.size) (hI : RL KI w ad l)
 (eg : ∀ args W, (callFunc F args).run Tryd.prog W = .ok (.enter F args) W)
 (HF : ∀ x W, Below n w W → Calls Tryd.prog F (#[.int .i64 x] ++ lb) W fun e W' => e = .returned (.bool (p x)) ∧ W' = W) :
 Calls Tryd.prog 78 #[.slice ad l.length c, .func (.func F) #[] lb] w fun e w' => e = .returned (.int .i64 (idxN p l 0)) ∧ Below n w w' := by
 unfold maxLen at hl
 have HC := Lib.hid (fun k hk => hI.int k hk)
 have HST := Lib.hid (fun k h => idxN_step p (l := l) (k := k) h)
 have HN := Lib.hid (show idxN p (l.drop l.length) l.length = -1 by rw [List.drop_length]; rfl)
 have H0 := Lib.hid (show idxN p l 0 = idxN p (l.drop 0) 0 from rfl)
 have HF := Lib.hid HF
 generalize idxN p l 0 = O at *
 clear hI
 go_enter Tryd.func78, Tryd.ntmps78
 go_wp2_with fail
 go_loopw [8] (fun i wr => ∃ k : Nat, k ≤ l.length ∧ i = .int .i64 k ∧ Hid (O = idxN p (l.drop k) k) ∧ Hid (Below n w wr) ∧ wr = w) (fun i _ => l.length - (RowKit.intOf i).toNat)
 case atStart => exact ⟨0, Nat.zero_le _, rfl, H0, Lib.hid (Below.refl _ _), rfl⟩
 case round =>
  obtain ⟨k, hk, rfl, HK, HB, hwr⟩ := hrel
  subst hwr
  by_cases hlt : k < l.length
  · have hki : (k : Int) < (l.length : Int) := by omega
    obtain ⟨b, o, rfl, _, e2⟩ := HC.out k hlt
    have hik := fun W => at_int8 b o l.length c k hlt W
    have c0 := e2 wr (Below.refl _ _)
    have hst := HST.out k hlt
    have HLT := Lib.hid hlt
    generalize l[k]'hlt = x at *
    have CB := Lib.hid (fun W b => HF.out x W b)
    cases hb : p x with
    | true =>
     have HO := Lib.hid (show O = (k : Int) by rw [HK.out, hst, hb]; rfl)
     rw [hb] at CB
     clear hst hb e2 hlt
     go_wp2_with fail
     refine (CB.out _ HB.out).mono ?_
     rintro e z ⟨rfl, rfl⟩
     clear c0
     go_wp2_with fail
     go_ret
     exact ⟨by rw [HO.out]; rfl, HB.out⟩
    | false =>
     have HO := Lib.hid (show O = idxN p (l.drop (k + 1)) (k + 1) by rw [HK.out, hst, hb]; rfl)
     rw [hb] at CB
     clear hst hb e2 hlt
     go_wp2_with fail
     refine (CB.out _ HB.out).mono ?_
     rintro e z ⟨rfl, rfl⟩
     clear c0
     go_wp2_with fail
     go_roundw
     case rel => exact ⟨k + 1, HLT.out, by go_num, HO, HB, by trivial⟩
     case measure => have := HLT.out; simp [RowKit.intOf]; omega
  · have hke : k = l.length := by omega
    have HO := Lib.hid (show O = -1 by rw [HK.out, hke, HN.out])
    have hki : ¬ (k : Int) < (l.length : Int) := by omega
    clear hke hlt
    go_wp2_with fail
    go_ret
    exact ⟨by rw [HO.out]; rfl, HB.out⟩
theorem containsInt_u (p : Int → Bool) (F : Nat) (lb : Array Value) (n : Nat) (ad : Option Addr) (c : Nat) (l : List Int) (hl : l.length ≤ maxLen) (w : World) (hn : n ≤ w.heap.size) (hI : RL KI w ad l)
 (eg : ∀ args W, (callFunc F args).run Tryd.prog W = .ok (.enter F args) W)
 (HF : ∀ x W, Below n w W → Calls Tryd.prog F (#[.int .i64 x] ++ lb) W fun e W' => e = .returned (.bool (p x)) ∧ W' = W) :
 Calls Tryd.prog 63 #[.slice ad l.length c, .func (.func F) #[] lb] w fun e w' => e = .returned (.bool (l.any p)) ∧ Below n w w' := by
 have HC := Lib.hid (indexInt_u p F lb n ad c l hl w hn hI eg HF)
 have HA := Lib.hid (idxN_any p l 0)
 generalize idxN p l 0 = O at *
 generalize l.any p = R at *
 clear hI hl HF
 go_enter Tryd.func63, Tryd.ntmps63
 go_wp2_with fail
 refine (HC.out).mono ?_
 rintro e z ⟨rfl, hz⟩
 have HZ := Lib.hid hz
 clear hz
 go_wp2_with fail
 go_ret
 exact ⟨by rw [← HA.out]; rfl, HZ.out⟩
theorem any_all8 (l : List Int) (hi : Int) : (!(l.any fun v => !inB v 0 hi)) = allB l hi := by
 unfold allB
 rw [List.not_any_eq_all_not]
 congr 1
 funext a
 simp
theorem areIn_u (ad : Option Addr) (c : Nat) (l : List Int) (lo hi : Int) (hl : l.length ≤ maxLen) (w : World) (hI : RL KI w ad l) :
 Calls Tryd.prog 41 #[.slice ad l.length c, .int .i64 lo, .int .i64 hi] w fun e w' => e = .returned (.bool (!(l.any fun v => !inB v lo hi))) ∧ Below w.heap.size w w' := by
 obtain ⟨w1, V1, Z1, K1, B1⟩ := lay8 w [.int .i64 lo] 3
 obtain ⟨w2, V2, Z2, K2, B2⟩ := lay8 w1 [.int .i64 hi] 3
 rw [Z1] at Z2 K2 B2
 have HB := Lib.hid (show Below w.heap.size w w2 from B1.trans (B2.mono (by omega)))
 have KA := Lib.hid (K1.up B2 (by omega)); have KB := Lib.hid K2
 have HC := Lib.hid (containsInt_u (fun v => !inB v lo hi) 64 #[.pointer (some ⟨w.heap.size, 0, none⟩), .pointer (some ⟨w.heap.size + 1, 0, none⟩)] w2.heap.size ad c l hl w2 (Nat.le_refl _) (hI.below HB.out) (by intro args W; rfl)
  (fun x W b => areIn1_u x lo hi w.heap.size (w.heap.size + 1) W ((b.cell (p := ⟨w.heap.size, 0, none⟩) (by show w.heap.size < _; omega)).trans (KA.out 0 (by simp)).1) ((b.cell (p := ⟨w.heap.size + 1, 0, none⟩) (by show w.heap.size + 1 < _; omega)).trans (KB.out 0 (by simp)).1)))
 generalize (l.any fun v => !inB v lo hi) = R at *
 clear hI hl K1 K2 B1 B2
 go_enter Tryd.func41, Tryd.ntmps41
 go_wp2_with fail
 refine (HC.out).mono ?_
 rintro e z ⟨rfl, hz⟩
 have HZ := Lib.hid (HB.out.trans (hz.mono (by omega)))
 clear hz
 go_wp2_with fail
 go_ret
 exact ⟨by cases R <;> rfl, HZ.out⟩
end Go.Proofs.YtamefmojocegkaaDoor

namespace Go.Proofs.YtamefmojocegkaaDoor
open Go Go.Proofs Go.RowKit Go.Lib
theorem linked_u (ml mn : Int) (w : World) : Calls Tryd.prog 74 #[.int .i64 ml, .int .i64 mn] w fun e w' => e = .returned (.func (.func 81) #[] #[.pointer (some ⟨w.heap.size, 0, none⟩), .pointer (some ⟨w.heap.size + 1, 0, none⟩)]) ∧ (w.alloc (.cells #[.int .i64 ml] 3)).alloc (.cells #[.int .i64 mn] 3) = w' := by
 go_enter Tryd.func74, Tryd.ntmps74
 go_wp2
 go_ret
 exact ⟨rfl, rfl⟩
theorem linked1_u (x : Ev) (ml mn : Int) (A B : Nat) (w : World) (hA : w.cell? ⟨A, 0, none⟩ = some (.int .i64 ml)) (hB : w.cell? ⟨B, 0, none⟩ = some (.int .i64 mn)) : Calls Tryd.prog 81 #[x.val, .pointer (some ⟨A, 0, none⟩), .pointer (some ⟨B, 0, none⟩)] w fun e w' => e = .returned (.bool (linkB ml mn x)) ∧ Below w.heap.size w w' := by
 obtain ⟨ag, sq, tm, kd, tr, sp, lk, gn, op, vr, pe, bt⟩ := x
 obtain ⟨R, hR⟩ : ∃ R, linkB ml mn ⟨ag, sq, tm, kd, tr, sp, lk, gn, op, vr, pe, bt⟩ = R := ⟨_, rfl⟩
 rw [hR]
 have HR := Lib.hid hR.symm
 unfold Ev.val
 dsimp only
 obtain ⟨w1, V1, Z1, K1, B1⟩ := lay8 w [.int .i64 ag, .int .i64 sq, .int .i64 tm, .int .i64 kd, .int .i64 tr, .int .i64 sp, .int .i64 lk, .int .i64 gn, .int .i64 op, .int .i64 vr, .int .i64 pe, .int .i64 bt] 46
 have HZ := Lib.hid B1
 have y0 := (K1 0 (by simp)).1
 have y1 := (K1 1 (by simp)).1
 have y2 := (K1 2 (by simp)).1
 have y3 := (K1 3 (by simp)).1
 have y4 := (K1 4 (by simp)).1
 have y5 := (K1 5 (by simp)).1
 have y6 := (K1 6 (by simp)).1
 have y7 := (K1 7 (by simp)).1
 have y8 := (K1 8 (by simp)).1
 have y9 := (K1 9 (by simp)).1
 have y10 := (K1 10 (by simp)).1
 have y11 := (K1 11 (by simp)).1
 simp only [List.getElem_cons_zero, List.getElem_cons_succ] at y0 y1 y2 y3 y4 y5 y6 y7 y8 y9 y10 y11
 have hA1 := (B1.cell (p := ⟨A, 0, none⟩) (World.block_lt_of_cell? w ⟨A, 0, none⟩ hA)).trans hA
 have hB1 := (B1.cell (p := ⟨B, 0, none⟩) (World.block_lt_of_cell? w ⟨B, 0, none⟩ hB)).trans hB
 clear hA hB
 clear hR K1 B1
 have C0 := Lib.hid (fun W => isIn_u lk 0 ml W)
 obtain ⟨b1, hb1⟩ : ∃ q, inB lk 0 ml = q := ⟨_, rfl⟩
 rw [hb1] at C0
 have Hb1 := Lib.hid hb1
 clear hb1
 have C1 := Lib.hid (fun W => isIn_u gn 0 mn W)
 obtain ⟨b2, hb2⟩ : ∃ q, inB gn 0 mn = q := ⟨_, rfl⟩
 rw [hb2] at C1
 have Hb2 := Lib.hid hb2
 clear hb2
 go_enter Tryd.func81, Tryd.ntmps81
 cases b1 with
 | false =>
  go_wp2_with (first | (go_at_call 40; (first | (with_reducible refine (C0.out _).mono ?_) | (with_reducible refine (C1.out _).mono ?_)); rintro e z ⟨rfl, rfl⟩))
  go_ret
  exact ⟨by rw [HR.out]; simp [linkB, Hb1.out], HZ.out⟩
 | true =>
  cases b2 with
  | false =>
   go_wp2_with (first | (go_at_call 40; (first | (with_reducible refine (C0.out _).mono ?_) | (with_reducible refine (C1.out _).mono ?_)); rintro e z ⟨rfl, rfl⟩))
   go_ret
   exact ⟨by rw [HR.out]; simp [linkB, Hb2.out], HZ.out⟩
  | true =>
   by_cases eop : op = 0
   · subst eop
     by_cases evr : vr = 0
     · subst evr
       by_cases epe : pe = 0
       · subst epe
         go_wp2_with (first | (go_at_call 40; (first | (with_reducible refine (C0.out _).mono ?_) | (with_reducible refine (C1.out _).mono ?_)); rintro e z ⟨rfl, rfl⟩))
         go_ret
         exact ⟨by rw [HR.out]; simp [linkB, Hb1.out, Hb2.out], HZ.out⟩
       · have Epe := Lib.hid epe
         have epe2 : (pe == 0) = false := beq_eq_false_iff_ne.2 epe
         go_wp2_with (first | (go_at_call 40; (first | (with_reducible refine (C0.out _).mono ?_) | (with_reducible refine (C1.out _).mono ?_)); rintro e z ⟨rfl, rfl⟩))
         go_ret
         exact ⟨by rw [HR.out]; simp [linkB, Epe.out], HZ.out⟩
     · have Evr := Lib.hid evr
       have evr2 : (vr == 0) = false := beq_eq_false_iff_ne.2 evr
       go_wp2_with (first | (go_at_call 40; (first | (with_reducible refine (C0.out _).mono ?_) | (with_reducible refine (C1.out _).mono ?_)); rintro e z ⟨rfl, rfl⟩))
       go_ret
       exact ⟨by rw [HR.out]; simp [linkB, Evr.out], HZ.out⟩
   · have Eop := Lib.hid eop
     have eop2 : (op == 0) = false := beq_eq_false_iff_ne.2 eop
     go_wp2_with (first | (go_at_call 40; (first | (with_reducible refine (C0.out _).mono ?_) | (with_reducible refine (C1.out _).mono ?_)); rintro e z ⟨rfl, rfl⟩))
     go_ret
     exact ⟨by rw [HR.out]; simp [linkB, Eop.out], HZ.out⟩
theorem isBegin_u (x : Ev) (w : World) : Calls Tryd.prog 73 #[x.val] w fun e w' => e = .returned (.bool (begB x)) ∧ Below w.heap.size w w' := by
 obtain ⟨ag, sq, tm, kd, tr, sp, lk, gn, op, vr, pe, bt⟩ := x
 obtain ⟨R, hR⟩ : ∃ R, begB ⟨ag, sq, tm, kd, tr, sp, lk, gn, op, vr, pe, bt⟩ = R := ⟨_, rfl⟩
 rw [hR]
 have HR := Lib.hid hR.symm
 unfold Ev.val
 dsimp only
 obtain ⟨w1, V1, Z1, K1, B1⟩ := lay8 w [.int .i64 ag, .int .i64 sq, .int .i64 tm, .int .i64 kd, .int .i64 tr, .int .i64 sp, .int .i64 lk, .int .i64 gn, .int .i64 op, .int .i64 vr, .int .i64 pe, .int .i64 bt] 46
 have HZ := Lib.hid B1
 have y0 := (K1 0 (by simp)).1
 have y1 := (K1 1 (by simp)).1
 have y2 := (K1 2 (by simp)).1
 have y3 := (K1 3 (by simp)).1
 have y4 := (K1 4 (by simp)).1
 have y5 := (K1 5 (by simp)).1
 have y6 := (K1 6 (by simp)).1
 have y7 := (K1 7 (by simp)).1
 have y8 := (K1 8 (by simp)).1
 have y9 := (K1 9 (by simp)).1
 have y10 := (K1 10 (by simp)).1
 have y11 := (K1 11 (by simp)).1
 simp only [List.getElem_cons_zero, List.getElem_cons_succ] at y0 y1 y2 y3 y4 y5 y6 y7 y8 y9 y10 y11
 clear hR K1 B1
 have C0 := Lib.hid (fun W => isIn_u lk (-1) 9 W)
 obtain ⟨b1, hb1⟩ : ∃ q, inB lk (-1) 9 = q := ⟨_, rfl⟩
 rw [hb1] at C0
 have Hb1 := Lib.hid hb1
 clear hb1
 have C1 := Lib.hid (fun W => isIn_u op 0 11 W)
 obtain ⟨b2, hb2⟩ : ∃ q, inB op 0 11 = q := ⟨_, rfl⟩
 rw [hb2] at C1
 have Hb2 := Lib.hid hb2
 clear hb2
 have C2 := Lib.hid (fun W => isIn_u vr 0 9 W)
 obtain ⟨b3, hb3⟩ : ∃ q, inB vr 0 9 = q := ⟨_, rfl⟩
 rw [hb3] at C2
 have Hb3 := Lib.hid hb3
 clear hb3
 have C3 := Lib.hid (fun W => isIn_u pe (-1) 19 W)
 obtain ⟨b4, hb4⟩ : ∃ q, inB pe (-1) 19 = q := ⟨_, rfl⟩
 rw [hb4] at C3
 have Hb4 := Lib.hid hb4
 clear hb4
 go_enter Tryd.func73, Tryd.ntmps73
 cases b1 with
 | false =>
  go_wp2_with (first | (go_at_call 40; (first | (with_reducible refine (C0.out _).mono ?_) | (with_reducible refine (C1.out _).mono ?_) | (with_reducible refine (C2.out _).mono ?_) | (with_reducible refine (C3.out _).mono ?_)); rintro e z ⟨rfl, rfl⟩))
  go_ret
  exact ⟨by rw [HR.out]; simp [begB, Hb1.out], HZ.out⟩
 | true =>
  by_cases els : lk = sp
  · subst els
    go_wp2_with (first | (go_at_call 40; (first | (with_reducible refine (C0.out _).mono ?_) | (with_reducible refine (C1.out _).mono ?_) | (with_reducible refine (C2.out _).mono ?_) | (with_reducible refine (C3.out _).mono ?_)); rintro e z ⟨rfl, rfl⟩))
    go_ret
    exact ⟨by rw [HR.out]; simp [begB], HZ.out⟩
  · have els2 : (lk == sp) = false := beq_eq_false_iff_ne.2 els
    by_cases egn : gn = 0
    · subst egn
      cases b2 with
      | false =>
       go_wp2_with (first | (go_at_call 40; (first | (with_reducible refine (C0.out _).mono ?_) | (with_reducible refine (C1.out _).mono ?_) | (with_reducible refine (C2.out _).mono ?_) | (with_reducible refine (C3.out _).mono ?_)); rintro e z ⟨rfl, rfl⟩))
       go_ret
       exact ⟨by rw [HR.out]; simp [begB, Hb2.out], HZ.out⟩
      | true =>
       cases b3 with
       | false =>
        go_wp2_with (first | (go_at_call 40; (first | (with_reducible refine (C0.out _).mono ?_) | (with_reducible refine (C1.out _).mono ?_) | (with_reducible refine (C2.out _).mono ?_) | (with_reducible refine (C3.out _).mono ?_)); rintro e z ⟨rfl, rfl⟩))
        go_ret
        exact ⟨by rw [HR.out]; simp [begB, Hb3.out], HZ.out⟩
       | true =>
        cases b4 with
        | false =>
         go_wp2_with (first | (go_at_call 40; (first | (with_reducible refine (C0.out _).mono ?_) | (with_reducible refine (C1.out _).mono ?_) | (with_reducible refine (C2.out _).mono ?_) | (with_reducible refine (C3.out _).mono ?_)); rintro e z ⟨rfl, rfl⟩))
         go_ret
         exact ⟨by rw [HR.out]; simp [begB, Hb4.out], HZ.out⟩
        | true =>
         go_wp2_with (first | (go_at_call 40; (first | (with_reducible refine (C0.out _).mono ?_) | (with_reducible refine (C1.out _).mono ?_) | (with_reducible refine (C2.out _).mono ?_) | (with_reducible refine (C3.out _).mono ?_)); rintro e z ⟨rfl, rfl⟩))
         go_ret
         exact ⟨by rw [HR.out]; simp [begB, Hb1.out, Hb2.out, Hb3.out, Hb4.out], HZ.out⟩
    · have Egn := Lib.hid egn
      have egn2 : (gn == 0) = false := beq_eq_false_iff_ne.2 egn
      go_wp2_with (first | (go_at_call 40; (first | (with_reducible refine (C0.out _).mono ?_) | (with_reducible refine (C1.out _).mono ?_) | (with_reducible refine (C2.out _).mono ?_) | (with_reducible refine (C3.out _).mono ?_)); rintro e z ⟨rfl, rfl⟩))
      go_ret
      exact ⟨by rw [HR.out]; simp [begB, Egn.out], HZ.out⟩
end Go.Proofs.YtamefmojocegkaaDoor

namespace Go.Proofs.YtamefmojocegkaaDoor
open Go Go.Proofs Go.RowKit Go.Lib
def lateB (a b : Ev) : Bool := a.ag == b.ag && decide (a.sq < b.sq)
def folwB (a b : Ev) : Bool := a.tr == b.tr && (decide (a.ag < b.ag) || (a.ag == b.ag && decide (a.sq < b.sq)))
def msgB (a b : Ev) : Bool := a.kd == 3 && b.kd == 4 && a.lk == b.lk
def grtB (a b : Ev) : Bool := a.lk == b.lk && ((a.kd == 5 && b.kd == 6 && a.gn == b.gn) || (a.kd == 6 && b.kd == 5 && a.gn + 1 == b.gn))
def chdB (a b : Ev) : Bool := a.kd == 1 && b.kd == 1 && a.sp == b.lk
theorem follows_u (a b : Ev) (w : World) : Calls Tryd.prog 49 #[a.val, b.val] w fun e w' => e = .returned (.bool (folwB a b)) ∧ Below w.heap.size w w' := by
 obtain ⟨ag1, sq1, tm1, kd1, tr1, sp1, lk1, gn1, op1, vr1, pe1, bt1⟩ := a
 obtain ⟨ag2, sq2, tm2, kd2, tr2, sp2, lk2, gn2, op2, vr2, pe2, bt2⟩ := b
 obtain ⟨R, hR⟩ : ∃ R, folwB ⟨ag1, sq1, tm1, kd1, tr1, sp1, lk1, gn1, op1, vr1, pe1, bt1⟩ ⟨ag2, sq2, tm2, kd2, tr2, sp2, lk2, gn2, op2, vr2, pe2, bt2⟩ = R := ⟨_, rfl⟩
 rw [hR]
 have HR := Lib.hid hR.symm
 unfold Ev.val
 dsimp only at *
 obtain ⟨w1, V1, Z1, K1, B1⟩ := lay8 w [.int .i64 ag1, .int .i64 sq1, .int .i64 tm1, .int .i64 kd1, .int .i64 tr1, .int .i64 sp1, .int .i64 lk1, .int .i64 gn1, .int .i64 op1, .int .i64 vr1, .int .i64 pe1, .int .i64 bt1] 46
 obtain ⟨w2, V2, Z2, K2, B2⟩ := lay8 w1 [.int .i64 ag2, .int .i64 sq2, .int .i64 tm2, .int .i64 kd2, .int .i64 tr2, .int .i64 sp2, .int .i64 lk2, .int .i64 gn2, .int .i64 op2, .int .i64 vr2, .int .i64 pe2, .int .i64 bt2] 46
 rw [Z1] at Z2 K2 B2
 have K1 := K1.up B2 (by omega)
 have HZ := Lib.hid (show Below w.heap.size w w2 from B1.trans (B2.mono (by omega)))
 have y10 := (K1 0 (by simp)).1
 have y11 := (K1 1 (by simp)).1
 have y12 := (K1 2 (by simp)).1
 have y13 := (K1 3 (by simp)).1
 have y14 := (K1 4 (by simp)).1
 have y15 := (K1 5 (by simp)).1
 have y16 := (K1 6 (by simp)).1
 have y17 := (K1 7 (by simp)).1
 have y18 := (K1 8 (by simp)).1
 have y19 := (K1 9 (by simp)).1
 have y110 := (K1 10 (by simp)).1
 have y111 := (K1 11 (by simp)).1
 have y20 := (K2 0 (by simp)).1
 have y21 := (K2 1 (by simp)).1
 have y22 := (K2 2 (by simp)).1
 have y23 := (K2 3 (by simp)).1
 have y24 := (K2 4 (by simp)).1
 have y25 := (K2 5 (by simp)).1
 have y26 := (K2 6 (by simp)).1
 have y27 := (K2 7 (by simp)).1
 have y28 := (K2 8 (by simp)).1
 have y29 := (K2 9 (by simp)).1
 have y210 := (K2 10 (by simp)).1
 have y211 := (K2 11 (by simp)).1
 simp only [List.getElem_cons_zero, List.getElem_cons_succ] at y10 y11 y12 y13 y14 y15 y16 y17 y18 y19 y110 y111 y20 y21 y22 y23 y24 y25 y26 y27 y28 y29 y210 y211
 clear hR K1 K2 B1 B2
 go_enter Tryd.func49, Tryd.ntmps49
 by_cases c1 : tr1 = tr2
 · subst c1
   by_cases c2 : ag1 < ag2
   · have Hc2 := Lib.hid c2
     have c2b : decide (ag1 < ag2) = true := decide_eq_true c2
     clear c2
     go_wp2_with fail
     go_ret
     exact ⟨by rw [HR.out]; have := Hc2.out; simp [folwB, *], HZ.out⟩
   · have Hc2 := Lib.hid c2
     have c2b : decide (ag1 < ag2) = false := decide_eq_false c2
     clear c2
     by_cases c3 : ag1 = ag2
     · subst c3
       go_wp2_with fail
       go_ret
       exact ⟨by rw [HR.out]; have := Hc2.out; simp [folwB, *], HZ.out⟩
     · have Hc3 := Lib.hid c3
       have c3b : (ag1 == ag2) = false := beq_eq_false_iff_ne.2 c3
       clear c3
       go_wp2_with fail
       go_ret
       exact ⟨by rw [HR.out]; have := Hc2.out; have := Hc3.out; simp [folwB, *], HZ.out⟩
 · have Hc1 := Lib.hid c1
   have c1b : (tr1 == tr2) = false := beq_eq_false_iff_ne.2 c1
   clear c1
   go_wp2_with fail
   go_ret
   exact ⟨by rw [HR.out]; have := Hc1.out; simp [folwB, *], HZ.out⟩
theorem isLater_u (a b : Ev) (w : World) : Calls Tryd.prog 66 #[a.val, b.val] w fun e w' => e = .returned (.bool (lateB a b)) ∧ Below w.heap.size w w' := by
 obtain ⟨ag1, sq1, tm1, kd1, tr1, sp1, lk1, gn1, op1, vr1, pe1, bt1⟩ := a
 obtain ⟨ag2, sq2, tm2, kd2, tr2, sp2, lk2, gn2, op2, vr2, pe2, bt2⟩ := b
 obtain ⟨R, hR⟩ : ∃ R, lateB ⟨ag1, sq1, tm1, kd1, tr1, sp1, lk1, gn1, op1, vr1, pe1, bt1⟩ ⟨ag2, sq2, tm2, kd2, tr2, sp2, lk2, gn2, op2, vr2, pe2, bt2⟩ = R := ⟨_, rfl⟩
 rw [hR]
 have HR := Lib.hid hR.symm
 unfold Ev.val
 dsimp only at *
 obtain ⟨w1, V1, Z1, K1, B1⟩ := lay8 w [.int .i64 ag1, .int .i64 sq1, .int .i64 tm1, .int .i64 kd1, .int .i64 tr1, .int .i64 sp1, .int .i64 lk1, .int .i64 gn1, .int .i64 op1, .int .i64 vr1, .int .i64 pe1, .int .i64 bt1] 46
 obtain ⟨w2, V2, Z2, K2, B2⟩ := lay8 w1 [.int .i64 ag2, .int .i64 sq2, .int .i64 tm2, .int .i64 kd2, .int .i64 tr2, .int .i64 sp2, .int .i64 lk2, .int .i64 gn2, .int .i64 op2, .int .i64 vr2, .int .i64 pe2, .int .i64 bt2] 46
 rw [Z1] at Z2 K2 B2
 have K1 := K1.up B2 (by omega)
 have HZ := Lib.hid (show Below w.heap.size w w2 from B1.trans (B2.mono (by omega)))
 have y10 := (K1 0 (by simp)).1
 have y11 := (K1 1 (by simp)).1
 have y12 := (K1 2 (by simp)).1
 have y13 := (K1 3 (by simp)).1
 have y14 := (K1 4 (by simp)).1
 have y15 := (K1 5 (by simp)).1
 have y16 := (K1 6 (by simp)).1
 have y17 := (K1 7 (by simp)).1
 have y18 := (K1 8 (by simp)).1
 have y19 := (K1 9 (by simp)).1
 have y110 := (K1 10 (by simp)).1
 have y111 := (K1 11 (by simp)).1
 have y20 := (K2 0 (by simp)).1
 have y21 := (K2 1 (by simp)).1
 have y22 := (K2 2 (by simp)).1
 have y23 := (K2 3 (by simp)).1
 have y24 := (K2 4 (by simp)).1
 have y25 := (K2 5 (by simp)).1
 have y26 := (K2 6 (by simp)).1
 have y27 := (K2 7 (by simp)).1
 have y28 := (K2 8 (by simp)).1
 have y29 := (K2 9 (by simp)).1
 have y210 := (K2 10 (by simp)).1
 have y211 := (K2 11 (by simp)).1
 simp only [List.getElem_cons_zero, List.getElem_cons_succ] at y10 y11 y12 y13 y14 y15 y16 y17 y18 y19 y110 y111 y20 y21 y22 y23 y24 y25 y26 y27 y28 y29 y210 y211
 clear hR K1 K2 B1 B2
 go_enter Tryd.func66, Tryd.ntmps66
 by_cases c1 : ag1 = ag2
 · subst c1
   go_wp2_with fail
   go_ret
   exact ⟨by rw [HR.out]; simp [lateB, *], HZ.out⟩
 · have Hc1 := Lib.hid c1
   have c1b : (ag1 == ag2) = false := beq_eq_false_iff_ne.2 c1
   clear c1
   go_wp2_with fail
   go_ret
   exact ⟨by rw [HR.out]; have := Hc1.out; simp [lateB, *], HZ.out⟩
theorem isMessage_u (a b : Ev) (w : World) : Calls Tryd.prog 69 #[a.val, b.val] w fun e w' => e = .returned (.bool (msgB a b)) ∧ Below w.heap.size w w' := by
 obtain ⟨ag1, sq1, tm1, kd1, tr1, sp1, lk1, gn1, op1, vr1, pe1, bt1⟩ := a
 obtain ⟨ag2, sq2, tm2, kd2, tr2, sp2, lk2, gn2, op2, vr2, pe2, bt2⟩ := b
 obtain ⟨R, hR⟩ : ∃ R, msgB ⟨ag1, sq1, tm1, kd1, tr1, sp1, lk1, gn1, op1, vr1, pe1, bt1⟩ ⟨ag2, sq2, tm2, kd2, tr2, sp2, lk2, gn2, op2, vr2, pe2, bt2⟩ = R := ⟨_, rfl⟩
 rw [hR]
 have HR := Lib.hid hR.symm
 unfold Ev.val
 dsimp only at *
 obtain ⟨w1, V1, Z1, K1, B1⟩ := lay8 w [.int .i64 ag1, .int .i64 sq1, .int .i64 tm1, .int .i64 kd1, .int .i64 tr1, .int .i64 sp1, .int .i64 lk1, .int .i64 gn1, .int .i64 op1, .int .i64 vr1, .int .i64 pe1, .int .i64 bt1] 46
 obtain ⟨w2, V2, Z2, K2, B2⟩ := lay8 w1 [.int .i64 ag2, .int .i64 sq2, .int .i64 tm2, .int .i64 kd2, .int .i64 tr2, .int .i64 sp2, .int .i64 lk2, .int .i64 gn2, .int .i64 op2, .int .i64 vr2, .int .i64 pe2, .int .i64 bt2] 46
 rw [Z1] at Z2 K2 B2
 have K1 := K1.up B2 (by omega)
 have HZ := Lib.hid (show Below w.heap.size w w2 from B1.trans (B2.mono (by omega)))
 have y10 := (K1 0 (by simp)).1
 have y11 := (K1 1 (by simp)).1
 have y12 := (K1 2 (by simp)).1
 have y13 := (K1 3 (by simp)).1
 have y14 := (K1 4 (by simp)).1
 have y15 := (K1 5 (by simp)).1
 have y16 := (K1 6 (by simp)).1
 have y17 := (K1 7 (by simp)).1
 have y18 := (K1 8 (by simp)).1
 have y19 := (K1 9 (by simp)).1
 have y110 := (K1 10 (by simp)).1
 have y111 := (K1 11 (by simp)).1
 have y20 := (K2 0 (by simp)).1
 have y21 := (K2 1 (by simp)).1
 have y22 := (K2 2 (by simp)).1
 have y23 := (K2 3 (by simp)).1
 have y24 := (K2 4 (by simp)).1
 have y25 := (K2 5 (by simp)).1
 have y26 := (K2 6 (by simp)).1
 have y27 := (K2 7 (by simp)).1
 have y28 := (K2 8 (by simp)).1
 have y29 := (K2 9 (by simp)).1
 have y210 := (K2 10 (by simp)).1
 have y211 := (K2 11 (by simp)).1
 simp only [List.getElem_cons_zero, List.getElem_cons_succ] at y10 y11 y12 y13 y14 y15 y16 y17 y18 y19 y110 y111 y20 y21 y22 y23 y24 y25 y26 y27 y28 y29 y210 y211
 clear hR K1 K2 B1 B2
 go_enter Tryd.func69, Tryd.ntmps69
 by_cases c1 : kd1 = 3
 · subst c1
   by_cases c2 : kd2 = 4
   · subst c2
     go_wp2_with fail
     go_ret
     exact ⟨by rw [HR.out]; simp [msgB, *], HZ.out⟩
   · have Hc2 := Lib.hid c2
     have c2b : (kd2 == 4) = false := beq_eq_false_iff_ne.2 c2
     clear c2
     go_wp2_with fail
     go_ret
     exact ⟨by rw [HR.out]; have := Hc2.out; simp [msgB, *], HZ.out⟩
 · have Hc1 := Lib.hid c1
   have c1b : (kd1 == 3) = false := beq_eq_false_iff_ne.2 c1
   clear c1
   go_wp2_with fail
   go_ret
   exact ⟨by rw [HR.out]; have := Hc1.out; simp [msgB, *], HZ.out⟩
theorem isChild_u (a b : Ev) (w : World) : Calls Tryd.prog 72 #[a.val, b.val] w fun e w' => e = .returned (.bool (chdB a b)) ∧ Below w.heap.size w w' := by
 obtain ⟨ag1, sq1, tm1, kd1, tr1, sp1, lk1, gn1, op1, vr1, pe1, bt1⟩ := a
 obtain ⟨ag2, sq2, tm2, kd2, tr2, sp2, lk2, gn2, op2, vr2, pe2, bt2⟩ := b
 obtain ⟨R, hR⟩ : ∃ R, chdB ⟨ag1, sq1, tm1, kd1, tr1, sp1, lk1, gn1, op1, vr1, pe1, bt1⟩ ⟨ag2, sq2, tm2, kd2, tr2, sp2, lk2, gn2, op2, vr2, pe2, bt2⟩ = R := ⟨_, rfl⟩
 rw [hR]
 have HR := Lib.hid hR.symm
 unfold Ev.val
 dsimp only at *
 obtain ⟨w1, V1, Z1, K1, B1⟩ := lay8 w [.int .i64 ag1, .int .i64 sq1, .int .i64 tm1, .int .i64 kd1, .int .i64 tr1, .int .i64 sp1, .int .i64 lk1, .int .i64 gn1, .int .i64 op1, .int .i64 vr1, .int .i64 pe1, .int .i64 bt1] 46
 obtain ⟨w2, V2, Z2, K2, B2⟩ := lay8 w1 [.int .i64 ag2, .int .i64 sq2, .int .i64 tm2, .int .i64 kd2, .int .i64 tr2, .int .i64 sp2, .int .i64 lk2, .int .i64 gn2, .int .i64 op2, .int .i64 vr2, .int .i64 pe2, .int .i64 bt2] 46
 rw [Z1] at Z2 K2 B2
 have K1 := K1.up B2 (by omega)
 have HZ := Lib.hid (show Below w.heap.size w w2 from B1.trans (B2.mono (by omega)))
 have y10 := (K1 0 (by simp)).1
 have y11 := (K1 1 (by simp)).1
 have y12 := (K1 2 (by simp)).1
 have y13 := (K1 3 (by simp)).1
 have y14 := (K1 4 (by simp)).1
 have y15 := (K1 5 (by simp)).1
 have y16 := (K1 6 (by simp)).1
 have y17 := (K1 7 (by simp)).1
 have y18 := (K1 8 (by simp)).1
 have y19 := (K1 9 (by simp)).1
 have y110 := (K1 10 (by simp)).1
 have y111 := (K1 11 (by simp)).1
 have y20 := (K2 0 (by simp)).1
 have y21 := (K2 1 (by simp)).1
 have y22 := (K2 2 (by simp)).1
 have y23 := (K2 3 (by simp)).1
 have y24 := (K2 4 (by simp)).1
 have y25 := (K2 5 (by simp)).1
 have y26 := (K2 6 (by simp)).1
 have y27 := (K2 7 (by simp)).1
 have y28 := (K2 8 (by simp)).1
 have y29 := (K2 9 (by simp)).1
 have y210 := (K2 10 (by simp)).1
 have y211 := (K2 11 (by simp)).1
 simp only [List.getElem_cons_zero, List.getElem_cons_succ] at y10 y11 y12 y13 y14 y15 y16 y17 y18 y19 y110 y111 y20 y21 y22 y23 y24 y25 y26 y27 y28 y29 y210 y211
 clear hR K1 K2 B1 B2
 go_enter Tryd.func72, Tryd.ntmps72
 by_cases c1 : kd1 = 1
 · subst c1
   by_cases c2 : kd2 = 1
   · subst c2
     go_wp2_with fail
     go_ret
     exact ⟨by rw [HR.out]; simp [chdB, *], HZ.out⟩
   · have Hc2 := Lib.hid c2
     have c2b : (kd2 == 1) = false := beq_eq_false_iff_ne.2 c2
     clear c2
     go_wp2_with fail
     go_ret
     exact ⟨by rw [HR.out]; have := Hc2.out; simp [chdB, *], HZ.out⟩
 · have Hc1 := Lib.hid c1
   have c1b : (kd1 == 1) = false := beq_eq_false_iff_ne.2 c1
   clear c1
   go_wp2_with fail
   go_ret
   exact ⟨by rw [HR.out]; have := Hc1.out; simp [chdB, *], HZ.out⟩
theorem isGrant_u (a b : Ev) (h0 : -1000 ≤ a.gn) (h1 : a.gn ≤ 1000) (w : World) : Calls Tryd.prog 71 #[a.val, b.val] w fun e w' => e = .returned (.bool (grtB a b)) ∧ Below w.heap.size w w' := by
 obtain ⟨ag1, sq1, tm1, kd1, tr1, sp1, lk1, gn1, op1, vr1, pe1, bt1⟩ := a
 obtain ⟨ag2, sq2, tm2, kd2, tr2, sp2, lk2, gn2, op2, vr2, pe2, bt2⟩ := b
 obtain ⟨R, hR⟩ : ∃ R, grtB ⟨ag1, sq1, tm1, kd1, tr1, sp1, lk1, gn1, op1, vr1, pe1, bt1⟩ ⟨ag2, sq2, tm2, kd2, tr2, sp2, lk2, gn2, op2, vr2, pe2, bt2⟩ = R := ⟨_, rfl⟩
 rw [hR]
 have HR := Lib.hid hR.symm
 unfold Ev.val
 dsimp only at *
 obtain ⟨w1, V1, Z1, K1, B1⟩ := lay8 w [.int .i64 ag1, .int .i64 sq1, .int .i64 tm1, .int .i64 kd1, .int .i64 tr1, .int .i64 sp1, .int .i64 lk1, .int .i64 gn1, .int .i64 op1, .int .i64 vr1, .int .i64 pe1, .int .i64 bt1] 46
 obtain ⟨w2, V2, Z2, K2, B2⟩ := lay8 w1 [.int .i64 ag2, .int .i64 sq2, .int .i64 tm2, .int .i64 kd2, .int .i64 tr2, .int .i64 sp2, .int .i64 lk2, .int .i64 gn2, .int .i64 op2, .int .i64 vr2, .int .i64 pe2, .int .i64 bt2] 46
 rw [Z1] at Z2 K2 B2
 have K1 := K1.up B2 (by omega)
 have HZ := Lib.hid (show Below w.heap.size w w2 from B1.trans (B2.mono (by omega)))
 have y10 := (K1 0 (by simp)).1
 have y11 := (K1 1 (by simp)).1
 have y12 := (K1 2 (by simp)).1
 have y13 := (K1 3 (by simp)).1
 have y14 := (K1 4 (by simp)).1
 have y15 := (K1 5 (by simp)).1
 have y16 := (K1 6 (by simp)).1
 have y17 := (K1 7 (by simp)).1
 have y18 := (K1 8 (by simp)).1
 have y19 := (K1 9 (by simp)).1
 have y110 := (K1 10 (by simp)).1
 have y111 := (K1 11 (by simp)).1
 have y20 := (K2 0 (by simp)).1
 have y21 := (K2 1 (by simp)).1
 have y22 := (K2 2 (by simp)).1
 have y23 := (K2 3 (by simp)).1
 have y24 := (K2 4 (by simp)).1
 have y25 := (K2 5 (by simp)).1
 have y26 := (K2 6 (by simp)).1
 have y27 := (K2 7 (by simp)).1
 have y28 := (K2 8 (by simp)).1
 have y29 := (K2 9 (by simp)).1
 have y210 := (K2 10 (by simp)).1
 have y211 := (K2 11 (by simp)).1
 simp only [List.getElem_cons_zero, List.getElem_cons_succ] at y10 y11 y12 y13 y14 y15 y16 y17 y18 y19 y110 y111 y20 y21 y22 y23 y24 y25 y26 y27 y28 y29 y210 y211
 have hw : IntKind.i64.wrap (gn1 + 1) = gn1 + 1 := IntWalk.i64_in _ (by omega)
 clear hR K1 K2 B1 B2
 go_enter Tryd.func71, Tryd.ntmps71
 by_cases c1 : lk1 = lk2
 · subst c1
   by_cases c2 : kd1 = 5
   · subst c2
     by_cases c3 : kd2 = 6
     · subst c3
       by_cases c4 : gn1 = gn2
       · subst c4
         go_wp2_with fail
         go_ret
         exact ⟨by rw [HR.out]; simp [grtB, *], HZ.out⟩
       · have Hc4 := Lib.hid c4
         have c4b : (gn1 == gn2) = false := beq_eq_false_iff_ne.2 c4
         clear c4
         go_wp2_with fail
         go_ret
         exact ⟨by rw [HR.out]; have := Hc4.out; simp [grtB, *], HZ.out⟩
     · have Hc3 := Lib.hid c3
       have c3b : (kd2 == 6) = false := beq_eq_false_iff_ne.2 c3
       clear c3
       go_wp2_with fail
       go_ret
       exact ⟨by rw [HR.out]; have := Hc3.out; simp [grtB, *], HZ.out⟩
   · have Hc2 := Lib.hid c2
     have c2b : (kd1 == 5) = false := beq_eq_false_iff_ne.2 c2
     clear c2
     by_cases c5 : kd1 = 6
     · subst c5
       by_cases c6 : kd2 = 5
       · subst c6
         by_cases c7 : gn1 + 1 = gn2
         · subst c7
           go_wp2_with fail
           go_ret
           exact ⟨by rw [HR.out]; have := Hc2.out; simp [grtB, *], HZ.out⟩
         · have Hc7 := Lib.hid c7
           have c7b : (gn1 + 1 == gn2) = false := beq_eq_false_iff_ne.2 c7
           clear c7
           go_wp2_with fail
           go_ret
           exact ⟨by rw [HR.out]; have := Hc2.out; have := Hc7.out; simp [grtB, *], HZ.out⟩
       · have Hc6 := Lib.hid c6
         have c6b : (kd2 == 5) = false := beq_eq_false_iff_ne.2 c6
         clear c6
         go_wp2_with fail
         go_ret
         exact ⟨by rw [HR.out]; have := Hc2.out; have := Hc6.out; simp [grtB, *], HZ.out⟩
     · have Hc5 := Lib.hid c5
       have c5b : (kd1 == 6) = false := beq_eq_false_iff_ne.2 c5
       clear c5
       go_wp2_with fail
       go_ret
       exact ⟨by rw [HR.out]; have := Hc2.out; have := Hc5.out; simp [grtB, *], HZ.out⟩
 · have Hc1 := Lib.hid c1
   have c1b : (lk1 == lk2) = false := beq_eq_false_iff_ne.2 c1
   clear c1
   by_cases c8 : kd1 = 5
   · subst c8
     by_cases c9 : kd2 = 6
     · subst c9
       by_cases c10 : gn1 = gn2
       · subst c10
         go_wp2_with fail
         go_ret
         exact ⟨by rw [HR.out]; have := Hc1.out; simp [grtB, *], HZ.out⟩
       · have Hc10 := Lib.hid c10
         have c10b : (gn1 == gn2) = false := beq_eq_false_iff_ne.2 c10
         clear c10
         go_wp2_with fail
         go_ret
         exact ⟨by rw [HR.out]; have := Hc1.out; have := Hc10.out; simp [grtB, *], HZ.out⟩
     · have Hc9 := Lib.hid c9
       have c9b : (kd2 == 6) = false := beq_eq_false_iff_ne.2 c9
       clear c9
       go_wp2_with fail
       go_ret
       exact ⟨by rw [HR.out]; have := Hc1.out; have := Hc9.out; simp [grtB, *], HZ.out⟩
   · have Hc8 := Lib.hid c8
     have c8b : (kd1 == 5) = false := beq_eq_false_iff_ne.2 c8
     clear c8
     by_cases c11 : kd1 = 6
     · subst c11
       by_cases c12 : kd2 = 5
       · subst c12
         by_cases c13 : gn1 + 1 = gn2
         · subst c13
           go_wp2_with fail
           go_ret
           exact ⟨by rw [HR.out]; have := Hc1.out; have := Hc8.out; simp [grtB, *], HZ.out⟩
         · have Hc13 := Lib.hid c13
           have c13b : (gn1 + 1 == gn2) = false := beq_eq_false_iff_ne.2 c13
           clear c13
           go_wp2_with fail
           go_ret
           exact ⟨by rw [HR.out]; have := Hc1.out; have := Hc8.out; have := Hc13.out; simp [grtB, *], HZ.out⟩
       · have Hc12 := Lib.hid c12
         have c12b : (kd2 == 5) = false := beq_eq_false_iff_ne.2 c12
         clear c12
         go_wp2_with fail
         go_ret
         exact ⟨by rw [HR.out]; have := Hc1.out; have := Hc8.out; have := Hc12.out; simp [grtB, *], HZ.out⟩
     · have Hc11 := Lib.hid c11
       have c11b : (kd1 == 6) = false := beq_eq_false_iff_ne.2 c11
       clear c11
       go_wp2_with fail
       go_ret
       exact ⟨by rw [HR.out]; have := Hc1.out; have := Hc8.out; have := Hc11.out; simp [grtB, *], HZ.out⟩
end Go.Proofs.YtamefmojocegkaaDoor

namespace Go.Proofs.YtamefmojocegkaaDoor
open Go Go.Proofs Go.RowKit Go.Lib
theorem lia_min (lia n : Int) : inB lia 0 (min 2 (n - 1)) = (inB lia 0 2 && decide (lia < n)) := by
 unfold inB
 rw [Bool.eq_iff_iff]
 simp
 omega
theorem flB_prog (f : Fl) : flB f = (inB f.dr.length 1 6 && (!(f.dr.any fun v => !inB v 0 1000)) && inB f.lat 0 1000000 && inB f.lia 0 (min 2 ((f.dr.length : Int) - 1)) && inB f.tm.length 1 8 && (!(f.tm.any fun v => !inB v 0 3)) && inB f.sv.length 1 12 && (!(f.sv.any fun v => !inB v 0 ((f.tm.length : Int) - 1)))) := by
 rw [any_all8, any_all8, any_all8, lia_min]
 unfold flB
 simp only [Bool.and_assoc]
theorem valid_u (v : Value) (f : Fl) (w : World) (hfit : f.fit) (hf : FlAt w v f) :
 Calls Tryd.prog 14 #[v] w fun e w' => e = .returned (.bool (flB f)) ∧ Below w.heap.size w w' := by
 obtain ⟨a1, c1, a2, c2, a3, c3, rfl, r1, r2, r3⟩ := hf
 obtain ⟨f1, f2, f3⟩ := hfit
 obtain ⟨R, hR⟩ : ∃ R, flB f = R := ⟨_, rfl⟩
 rw [hR]
 have HR := Lib.hid (hR.symm.trans (flB_prog f))
 obtain ⟨dr, lat, lia, sv, tm⟩ := f
 dsimp only at HR r1 r2 r3 f1 f2 f3
 obtain ⟨w1, V1, Z1, K1, B1⟩ := lay8 w [.slice a1 dr.length c1, .int .i64 lat, .int .i64 lia, .slice a2 sv.length c2, .slice a3 tm.length c3] 24
 have HZ := Lib.hid B1
 have L1 := Lib.hid (show dr.length ≤ maxLen by unfold maxLen; omega); have L2 := Lib.hid (show sv.length ≤ maxLen by unfold maxLen; omega); have L3 := Lib.hid (show tm.length ≤ maxLen by unfold maxLen; omega)
 have C1 := Lib.hid (fun W => isIn_u (dr.length : Int) 1 6 W); have C3 := Lib.hid (fun W => isIn_u lat 0 1000000 W); have C4 := Lib.hid (show ∀ (m : Int) (W : World), m = min 2 ((dr.length : Int) - 1) → Calls Tryd.prog 40 #[.int .i64 lia, .int .i64 0, .int .i64 m] W fun e w' => e = .returned (.bool (inB lia 0 (min 2 ((dr.length : Int) - 1)))) ∧ w' = W from fun m W h => by rw [h]; exact isIn_u lia 0 (min 2 ((dr.length : Int) - 1)) W)
 have C5 := Lib.hid (fun W => isIn_u (tm.length : Int) 1 8 W); have C7 := Lib.hid (fun W => isIn_u (sv.length : Int) 1 12 W)
 have C2 := Lib.hid (fun W b => areIn_u a1 c1 dr 0 1000 L1.out W (r1.below b)); have C6 := Lib.hid (fun W b => areIn_u a3 c3 tm 0 3 L3.out W (r3.below b)); have C8 := Lib.hid (fun W b => areIn_u a2 c2 sv 0 ((tm.length : Int) - 1) L2.out W (r2.below b))
 generalize inB (dr.length : Int) 1 6 = b1 at *
 generalize (!(dr.any fun v => !inB v 0 1000)) = b2 at *
 generalize inB lat 0 1000000 = b3 at *
 generalize inB lia 0 (min 2 ((dr.length : Int) - 1)) = b4 at *
 generalize inB (tm.length : Int) 1 8 = b5 at *
 generalize (!(tm.any fun v => !inB v 0 3)) = b6 at *
 generalize inB (sv.length : Int) 1 12 = b7 at *
 generalize (!(sv.any fun v => !inB v 0 ((tm.length : Int) - 1))) = b8 at *
 obtain ⟨y0, y0'⟩ := K1 0 (by simp); obtain ⟨y1, y1'⟩ := K1 1 (by simp); obtain ⟨y2, y2'⟩ := K1 2 (by simp); obtain ⟨y3, y3'⟩ := K1 3 (by simp); obtain ⟨y4, y4'⟩ := K1 4 (by simp)
 simp only [List.getElem_cons_zero, List.getElem_cons_succ] at y0 y1 y2 y3 y4
 have HKB := Lib.hid (show ∀ W, Below (w.heap.size + 1) w1 W → W.cell? ⟨w.heap.size, 0, none⟩ = some (.slice a1 dr.length c1) ∧ W.cell? ⟨w.heap.size, 1, none⟩ = some (.int .i64 lat) ∧ W.cell? ⟨w.heap.size, 2, none⟩ = some (.int .i64 lia) ∧ W.cell? ⟨w.heap.size, 3, none⟩ = some (.slice a2 sv.length c2) ∧ W.cell? ⟨w.heap.size, 4, none⟩ = some (.slice a3 tm.length c3) from fun W b => ⟨(K1.up b (by omega) 0 (by simp)).1, (K1.up b (by omega) 1 (by simp)).1, (K1.up b (by omega) 2 (by simp)).1, (K1.up b (by omega) 3 (by simp)).1, (K1.up b (by omega) 4 (by simp)).1⟩)
 have HU := Lib.hid (show Below (w.heap.size + 1) w1 w1 from Below.refl _ _)
 clear hR r1 r2 r3 B1 K1 y0' y1' y2' y3' y4'
 go_enter Tryd.func14, Tryd.ntmps14
 cases b1 with
 | false =>
  go_wp2_with (first | (go_at_call 40; (first | (with_reducible refine (C1.out _).mono ?_) | (with_reducible refine (C3.out _).mono ?_) | (with_reducible refine (C4.out _ _ (by omega)).mono ?_) | (with_reducible refine (C5.out _).mono ?_) | (with_reducible refine (C7.out _).mono ?_)); rintro e z ⟨rfl, rfl⟩) | (go_at_call 41; (first | (with_reducible refine (C2.out _ HZ.out).mono ?_) | (with_reducible refine (C6.out _ HZ.out).mono ?_) | (with_reducible refine (C8.out _ HZ.out).mono ?_)); rintro e z ⟨rfl, hz⟩; replace HZ := Lib.hid (HZ.out.trans (hz.mono HZ.out.size)); replace HU := Lib.hid (HU.out.trans (hz.mono (by have := HU.out.size; omega))); clear hz; try clear y0 y1 y2 y3 y4; obtain ⟨y0, y1, y2, y3, y4⟩ := HKB.out _ HU.out))
  all_goals (go_ret; exact ⟨by rw [HR.out]; simp, HZ.out⟩)
 | true =>
  cases b2 with
  | false =>
   go_wp2_with (first | (go_at_call 40; (first | (with_reducible refine (C1.out _).mono ?_) | (with_reducible refine (C3.out _).mono ?_) | (with_reducible refine (C4.out _ _ (by omega)).mono ?_) | (with_reducible refine (C5.out _).mono ?_) | (with_reducible refine (C7.out _).mono ?_)); rintro e z ⟨rfl, rfl⟩) | (go_at_call 41; (first | (with_reducible refine (C2.out _ HZ.out).mono ?_) | (with_reducible refine (C6.out _ HZ.out).mono ?_) | (with_reducible refine (C8.out _ HZ.out).mono ?_)); rintro e z ⟨rfl, hz⟩; replace HZ := Lib.hid (HZ.out.trans (hz.mono HZ.out.size)); replace HU := Lib.hid (HU.out.trans (hz.mono (by have := HU.out.size; omega))); clear hz; try clear y0 y1 y2 y3 y4; obtain ⟨y0, y1, y2, y3, y4⟩ := HKB.out _ HU.out))
   all_goals (go_ret; exact ⟨by rw [HR.out]; simp, HZ.out⟩)
  | true =>
   cases b3 with
   | false =>
    go_wp2_with (first | (go_at_call 40; (first | (with_reducible refine (C1.out _).mono ?_) | (with_reducible refine (C3.out _).mono ?_) | (with_reducible refine (C4.out _ _ (by omega)).mono ?_) | (with_reducible refine (C5.out _).mono ?_) | (with_reducible refine (C7.out _).mono ?_)); rintro e z ⟨rfl, rfl⟩) | (go_at_call 41; (first | (with_reducible refine (C2.out _ HZ.out).mono ?_) | (with_reducible refine (C6.out _ HZ.out).mono ?_) | (with_reducible refine (C8.out _ HZ.out).mono ?_)); rintro e z ⟨rfl, hz⟩; replace HZ := Lib.hid (HZ.out.trans (hz.mono HZ.out.size)); replace HU := Lib.hid (HU.out.trans (hz.mono (by have := HU.out.size; omega))); clear hz; try clear y0 y1 y2 y3 y4; obtain ⟨y0, y1, y2, y3, y4⟩ := HKB.out _ HU.out))
    all_goals (go_ret; exact ⟨by rw [HR.out]; simp, HZ.out⟩)
   | true =>
    cases b4 with
    | false =>
     go_wp2_with (first | (go_at_call 40; (first | (with_reducible refine (C1.out _).mono ?_) | (with_reducible refine (C3.out _).mono ?_) | (with_reducible refine (C4.out _ _ (by omega)).mono ?_) | (with_reducible refine (C5.out _).mono ?_) | (with_reducible refine (C7.out _).mono ?_)); rintro e z ⟨rfl, rfl⟩) | (go_at_call 41; (first | (with_reducible refine (C2.out _ HZ.out).mono ?_) | (with_reducible refine (C6.out _ HZ.out).mono ?_) | (with_reducible refine (C8.out _ HZ.out).mono ?_)); rintro e z ⟨rfl, hz⟩; replace HZ := Lib.hid (HZ.out.trans (hz.mono HZ.out.size)); replace HU := Lib.hid (HU.out.trans (hz.mono (by have := HU.out.size; omega))); clear hz; try clear y0 y1 y2 y3 y4; obtain ⟨y0, y1, y2, y3, y4⟩ := HKB.out _ HU.out))
     all_goals (go_ret; exact ⟨by rw [HR.out]; simp, HZ.out⟩)
    | true =>
     cases b5 with
     | false =>
      go_wp2_with (first | (go_at_call 40; (first | (with_reducible refine (C1.out _).mono ?_) | (with_reducible refine (C3.out _).mono ?_) | (with_reducible refine (C4.out _ _ (by omega)).mono ?_) | (with_reducible refine (C5.out _).mono ?_) | (with_reducible refine (C7.out _).mono ?_)); rintro e z ⟨rfl, rfl⟩) | (go_at_call 41; (first | (with_reducible refine (C2.out _ HZ.out).mono ?_) | (with_reducible refine (C6.out _ HZ.out).mono ?_) | (with_reducible refine (C8.out _ HZ.out).mono ?_)); rintro e z ⟨rfl, hz⟩; replace HZ := Lib.hid (HZ.out.trans (hz.mono HZ.out.size)); replace HU := Lib.hid (HU.out.trans (hz.mono (by have := HU.out.size; omega))); clear hz; try clear y0 y1 y2 y3 y4; obtain ⟨y0, y1, y2, y3, y4⟩ := HKB.out _ HU.out))
      all_goals (go_ret; exact ⟨by rw [HR.out]; simp, HZ.out⟩)
     | true =>
      cases b6 with
      | false =>
       go_wp2_with (first | (go_at_call 40; (first | (with_reducible refine (C1.out _).mono ?_) | (with_reducible refine (C3.out _).mono ?_) | (with_reducible refine (C4.out _ _ (by omega)).mono ?_) | (with_reducible refine (C5.out _).mono ?_) | (with_reducible refine (C7.out _).mono ?_)); rintro e z ⟨rfl, rfl⟩) | (go_at_call 41; (first | (with_reducible refine (C2.out _ HZ.out).mono ?_) | (with_reducible refine (C6.out _ HZ.out).mono ?_) | (with_reducible refine (C8.out _ HZ.out).mono ?_)); rintro e z ⟨rfl, hz⟩; replace HZ := Lib.hid (HZ.out.trans (hz.mono HZ.out.size)); replace HU := Lib.hid (HU.out.trans (hz.mono (by have := HU.out.size; omega))); clear hz; try clear y0 y1 y2 y3 y4; obtain ⟨y0, y1, y2, y3, y4⟩ := HKB.out _ HU.out))
       all_goals (go_ret; exact ⟨by rw [HR.out]; simp, HZ.out⟩)
      | true =>
       cases b7 with
       | false =>
        go_wp2_with (first | (go_at_call 40; (first | (with_reducible refine (C1.out _).mono ?_) | (with_reducible refine (C3.out _).mono ?_) | (with_reducible refine (C4.out _ _ (by omega)).mono ?_) | (with_reducible refine (C5.out _).mono ?_) | (with_reducible refine (C7.out _).mono ?_)); rintro e z ⟨rfl, rfl⟩) | (go_at_call 41; (first | (with_reducible refine (C2.out _ HZ.out).mono ?_) | (with_reducible refine (C6.out _ HZ.out).mono ?_) | (with_reducible refine (C8.out _ HZ.out).mono ?_)); rintro e z ⟨rfl, hz⟩; replace HZ := Lib.hid (HZ.out.trans (hz.mono HZ.out.size)); replace HU := Lib.hid (HU.out.trans (hz.mono (by have := HU.out.size; omega))); clear hz; try clear y0 y1 y2 y3 y4; obtain ⟨y0, y1, y2, y3, y4⟩ := HKB.out _ HU.out))
        all_goals (go_ret; exact ⟨by rw [HR.out]; simp, HZ.out⟩)
       | true =>
        cases b8 with
        | false =>
         go_wp2_with (first | (go_at_call 40; (first | (with_reducible refine (C1.out _).mono ?_) | (with_reducible refine (C3.out _).mono ?_) | (with_reducible refine (C4.out _ _ (by omega)).mono ?_) | (with_reducible refine (C5.out _).mono ?_) | (with_reducible refine (C7.out _).mono ?_)); rintro e z ⟨rfl, rfl⟩) | (go_at_call 41; (first | (with_reducible refine (C2.out _ HZ.out).mono ?_) | (with_reducible refine (C6.out _ HZ.out).mono ?_) | (with_reducible refine (C8.out _ HZ.out).mono ?_)); rintro e z ⟨rfl, hz⟩; replace HZ := Lib.hid (HZ.out.trans (hz.mono HZ.out.size)); replace HU := Lib.hid (HU.out.trans (hz.mono (by have := HU.out.size; omega))); clear hz; try clear y0 y1 y2 y3 y4; obtain ⟨y0, y1, y2, y3, y4⟩ := HKB.out _ HU.out))
         all_goals (go_ret; exact ⟨by rw [HR.out]; simp, HZ.out⟩)
        | true =>
         go_wp2_with (first | (go_at_call 40; (first | (with_reducible refine (C1.out _).mono ?_) | (with_reducible refine (C3.out _).mono ?_) | (with_reducible refine (C4.out _ _ (by omega)).mono ?_) | (with_reducible refine (C5.out _).mono ?_) | (with_reducible refine (C7.out _).mono ?_)); rintro e z ⟨rfl, rfl⟩) | (go_at_call 41; (first | (with_reducible refine (C2.out _ HZ.out).mono ?_) | (with_reducible refine (C6.out _ HZ.out).mono ?_) | (with_reducible refine (C8.out _ HZ.out).mono ?_)); rintro e z ⟨rfl, hz⟩; replace HZ := Lib.hid (HZ.out.trans (hz.mono HZ.out.size)); replace HU := Lib.hid (HU.out.trans (hz.mono (by have := HU.out.size; omega))); clear hz; try clear y0 y1 y2 y3 y4; obtain ⟨y0, y1, y2, y3, y4⟩ := HKB.out _ HU.out))
         all_goals (go_ret; exact ⟨by rw [HR.out]; rfl, HZ.out⟩)
end Go.Proofs.YtamefmojocegkaaDoor
