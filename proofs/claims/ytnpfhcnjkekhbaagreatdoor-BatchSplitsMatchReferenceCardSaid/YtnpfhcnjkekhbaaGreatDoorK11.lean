/-
  Layer 8: the contract of the reference's Events. Layer 8: what a valid event holds; whether times agree, plain. Layer 8: an element appended in a walk; the constraints of events, plain. Layer 8: a block named, the box of an event, what stays where a row grows. Layer 8, the program: areIn, Valid. Layer 8, the program: linked, its closure, isBegin.
-/
import Derived.Test.YtnpfhcnjkekhbaaGreatDoorProg
import Derived.Test.YtnpfhcnjkekhbaaGreatDoorK05
import Derived.Deep.RegionHeld3
import Derived.Lib.QuietBelow
import Derived.Deep.DeepCutAuto
import Derived.Deep.QuietTactic
import Derived.Laws.Rows
import Derived.Laws.OwnMore
import Derived.OwnWalk
import Derived.WalkKit
import Derived.WalkLawsBesides
import Derived.Outline
import Derived.Lib.Hide
import Derived.Below
import Derived.BigQuiet
set_option maxRecDepth 100000
set_option maxHeartbeats 16000000
namespace Go.Proofs.YtnpfhcnjkekhbaaGreatDoor
open Go Go.Proofs Go.RowKit Go.Lib
def zE : Ev := ⟨0, 0, 0, 0, 0, 0, 0, 0, 0, 0, 0, 0⟩
def evD (l : List Ev) (i : Nat) : Ev := l.getD i zE
theorem evD_of {l : List Ev} {i : Nat} (h : i < l.length) : evD l i = l[i] := by unfold evD; rw [List.getD_eq_getElem?_getD, List.getElem?_eq_getElem h]; rfl
theorem Ev.val_mk (x : Ev) : x.val = .agg #[.int .i64 x.ag, .int .i64 x.sq, .int .i64 x.tm, .int .i64 x.kd, .int .i64 x.tr, .int .i64 x.sp, .int .i64 x.lk, .int .i64 x.gn, .int .i64 x.op, .int .i64 x.vr, .int .i64 x.pe, .int .i64 x.bt] := rfl
end Go.Proofs.YtnpfhcnjkekhbaaGreatDoor

namespace Go.Proofs.YtnpfhcnjkekhbaaGreatDoor
open Go Go.Proofs Go.RowKit Go.Lib
theorem evB_of {e : Ev} (h : evB e = true) : (0 ≤ e.ag ∧ e.ag ≤ 5) ∧ (0 ≤ e.sq ∧ e.sq ≤ 999) ∧ (0 ≤ e.tm ∧ e.tm ≤ 1000000) ∧ (0 ≤ e.tr ∧ e.tr ≤ 999) ∧ (0 ≤ e.sp ∧ e.sp ≤ 9) ∧ (0 ≤ e.bt ∧ e.bt ≤ 1000) ∧ (0 ≤ e.gn ∧ e.gn ≤ 99) := by
 unfold evB at h
 simp only [Bool.and_eq_true] at h
 obtain ⟨⟨⟨⟨⟨⟨h1, h2⟩, h3⟩, h4⟩, h5⟩, h6⟩, h7⟩ := h
 refine ⟨of_inB h1, of_inB h2, of_inB h3, of_inB h4, of_inB h5, of_inB h6, ?_⟩
 split at h7
 · simp only [Bool.and_eq_true, beq_iff_eq] at h7
   omega
 · rw [Bool.and_eq_true] at h7
   have h7 := h7.2
   split at h7
   · simp only [Bool.and_eq_true, beq_iff_eq] at h7; omega
   · split at h7
     · simp only [Bool.and_eq_true, beq_iff_eq] at h7; omega
     · split at h7
       · rw [Bool.and_eq_true] at h7; exact of_inB h7.2
       · split at h7
         · simp only [Bool.and_eq_true, beq_iff_eq] at h7; omega
         · cases h7
end Go.Proofs.YtnpfhcnjkekhbaaGreatDoor

namespace Go.Proofs.YtnpfhcnjkekhbaaGreatDoor
open Go Go.Proofs Go.RowKit Go.Lib
theorem RowK.vs_one1 {T : Type} (K : RowK T) (x : T) : K.vs [x] = K.cs x := by unfold RowK.vs; simp
theorem RowK.push1 {T : Type} (K : RowK T) (w : World) (n : Nat) (ty : TypeId) (v : Value) (l : List T) (x : T) (hown : Own K w n v l) (hn : n ≤ w.heap.size) (g c : Nat)
 (hc : CellsAt w g (K.cs x)) (hl : l.length + 1 ≤ 100000000) :
 ∃ v' w', (Builtin.append_ #[K.st, K.st] ty #[v, .slice (some ⟨g, 0, none⟩) 1 c]).run Tryz.prog w = .ok v' w' ∧ Own K w' n v' (l ++ [x]) ∧ w.grownBy w' v.ownBlock ∧ (v'.ownBlock = v.ownBlock ∨ v'.ownBlock = some w.heap.size) :=
 K.push w n ty v l [x] hown hn ⟨g, 0, none⟩ 1 c rfl (by rw [K.vs_one1]; exact hc.news) hl
theorem walk_push8 {T : Type} (K : RowK T) {ops : Array Oper} {o : Oper} {rest : List Oper} {a : Act} {w w0 : World} {Q : Exit → Act → World → Prop}
 (hgd : o.guard = none) (s x : Operand) (hop : o.op = Op.call { callee := Callee.builtin Builtin.append, args := #[s, x], argTypes := #[K.st, K.st] })
 (n : Nat) (v : Value) (l : List T) (y : T) (hs : a.eval s = v) (hown : Own K w n v l) (hb : Below n w0 w) (hn : n ≤ w.heap.size) (g c : Nat) (hx : a.eval x = .slice (some ⟨g, 0, none⟩) 1 c) (hc : CellsAt w g (K.cs y)) (hl : l.length + 1 ≤ 100000000)
 (hK : ∀ v' w', Own K w' n v' (l ++ [y]) → Below n w0 w' → w.grownBy w' v.ownBlock → (v'.ownBlock = v.ownBlock ∨ v'.ownBlock = some w.heap.size) → wpList Tryz.prog ops Q rest (a.put o.dst v') w') : wpList Tryz.prog ops Q (o :: rest) a w := by
 refine wpList_plain hgd fun KK hK' => ?_
 obtain ⟨v', w', hrun, r1, r2, r3⟩ := K.push1 w n o.type v l y hown hn g c hc hl
 unfold Oper.wp
 simp [execOp, hop, resolve, invoke, builtin, hs, hx, hrun, Result.andThen]
 exact hK' _ _ (hK v' w' r1 (hb.grown r2 hn (fun k hk => (hown.ge k hk).1)) r2 r3)
end Go.Proofs.YtnpfhcnjkekhbaaGreatDoor

namespace Go.Proofs.YtnpfhcnjkekhbaaGreatDoor
open Go Go.Proofs Go.RowKit Go.Lib
theorem CellsAt.grown {W W' : World} {B : Nat} {v : Value} {vs : List Value} {row : Option Nat} (h : CellsAt W B (v :: vs)) (hg : W.grownBy W' row) (hne : some B ≠ row) : CellsAt W' B (v :: vs) := fun i hi => by
 have l := World.block_lt_of_cell? W ⟨B, 0, none⟩ (h 0 (Nat.zero_lt_succ _)).1
 exact ⟨(World.cell?_of_block (a := ⟨B, i, none⟩) (hg.block B l hne)).trans (h i hi).1, (World.frozen?_of_block (a := ⟨B, i, none⟩) (hg.block B l hne)).trans (h i hi).2⟩
theorem CellsAt.up {n : Nat} {W W' : World} {B : Nat} {vs : List Value} (h : CellsAt W B vs) (b : Below n W W') (hB : B < n) : CellsAt W' B vs := fun i hi =>
 ⟨(b.cell (p := ⟨B, i, none⟩) hB).trans (h i hi).1, (b.frozen (p := ⟨B, i, none⟩) hB).trans (h i hi).2⟩
def EvBox (W : World) (B : Nat) (x : Ev) : Prop := W.cell? ⟨B, 0, none⟩ = some (.int .i64 x.ag) ∧ W.cell? ⟨B, 1, none⟩ = some (.int .i64 x.sq) ∧ W.cell? ⟨B, 2, none⟩ = some (.int .i64 x.tm) ∧ W.cell? ⟨B, 3, none⟩ = some (.int .i64 x.kd) ∧ W.cell? ⟨B, 4, none⟩ = some (.int .i64 x.tr) ∧ W.cell? ⟨B, 5, none⟩ = some (.int .i64 x.sp) ∧ W.cell? ⟨B, 6, none⟩ = some (.int .i64 x.lk) ∧ W.cell? ⟨B, 7, none⟩ = some (.int .i64 x.gn) ∧ W.cell? ⟨B, 8, none⟩ = some (.int .i64 x.op) ∧ W.cell? ⟨B, 9, none⟩ = some (.int .i64 x.vr) ∧ W.cell? ⟨B, 10, none⟩ = some (.int .i64 x.pe) ∧ W.cell? ⟨B, 11, none⟩ = some (.int .i64 x.bt)
theorem CellsAt.ev {W : World} {B : Nat} {x : Ev} (h : CellsAt W B x.cells) : EvBox W B x :=
 ⟨(h 0 (by simp [Ev.cells])).1, (h 1 (by simp [Ev.cells])).1, (h 2 (by simp [Ev.cells])).1, (h 3 (by simp [Ev.cells])).1, (h 4 (by simp [Ev.cells])).1, (h 5 (by simp [Ev.cells])).1, (h 6 (by simp [Ev.cells])).1, (h 7 (by simp [Ev.cells])).1, (h 8 (by simp [Ev.cells])).1, (h 9 (by simp [Ev.cells])).1, (h 10 (by simp [Ev.cells])).1, (h 11 (by simp [Ev.cells])).1⟩
theorem lay8 (W : World) (vs : List Value) (t : TypeId) : ∃ W', W.alloc (.cells vs.toArray t) = W' ∧ W'.heap.size = W.heap.size + 1 ∧ CellsAt W' W.heap.size vs ∧ Below W.heap.size W W' :=
 ⟨_, rfl, by simp, cellsAt_new rfl, (Below.refl _ _).alloc (Nat.le_refl _) _⟩
end Go.Proofs.YtnpfhcnjkekhbaaGreatDoor

namespace Go.Proofs.YtnpfhcnjkekhbaaGreatDoor
open Go Go.Proofs Go.RowKit Go.Lib
theorem indexInt_u (p : Int → Bool) (F : Nat) (lb : Array Value) (n : Nat) (ad : Option Addr) (c : Nat) (l : List Int) (hl : l.length ≤ maxLen) (w : World) (hn : n ≤ w.heap.size) (hI : RL KI w ad l)
 (eg : ∀ args W, (callFunc F args).run Tryz.prog W = .ok (.enter F args) W)
 (HF : ∀ x W, Below n w W → Calls Tryz.prog F (#[.int .i64 x] ++ lb) W fun e W' => e = .returned (.bool (p x)) ∧ W' = W) :
 Calls Tryz.prog 99 #[.slice ad l.length c, .func (.func F) #[] lb] w fun e w' => e = .returned (.int .i64 (idxN p l 0)) ∧ Below n w w' := by
 unfold maxLen at hl
 have HC := Lib.hid (fun k hk => hI.int k hk)
 have HST := Lib.hid (fun k h => idxN_step p (l := l) (k := k) h)
 have HN := Lib.hid (show idxN p (l.drop l.length) l.length = -1 by rw [List.drop_length]; rfl)
 have H0 := Lib.hid (show idxN p l 0 = idxN p (l.drop 0) 0 from rfl)
 have HF := Lib.hid HF
 generalize idxN p l 0 = O at *
 clear hI
 go_enter Tryz.func99, Tryz.ntmps99
 go_wp2_with fail
 go_loopw [8] (fun i wr => ∃ k : Nat, k ≤ l.length ∧ i = .int .i64 k ∧ Hid (O = idxN p (l.drop k) k) ∧ Hid (Below n w wr) ∧ wr = w) (fun i _ => l.length - (RowKit.intOf i).toNat)
 case atStart => exact ⟨0, Nat.zero_le _, rfl, H0, Lib.hid (Below.refl _ _), rfl⟩
 case round =>
  obtain ⟨k, hk, rfl, HK, HB, hwr⟩ := hrel
  subst hwr
  by_cases hlt : k < l.length
  · have hki : (k : Int) < (l.length : Int) := by omega
    obtain ⟨b, o, rfl, _, e2⟩ := HC.out k hlt
    have hik := fun W => at_int8 b o l.length c k hlt W
    have c0 := e2 wr (Below.refl _ _)
    have hst := HST.out k hlt
    have HLT := Lib.hid hlt
    generalize l[k]'hlt = x at *
    have CB := Lib.hid (fun W b => HF.out x W b)
    cases hb : p x with
    | true =>
     have HO := Lib.hid (show O = (k : Int) by rw [HK.out, hst, hb]; rfl)
     rw [hb] at CB
     clear hst hb e2 hlt
     go_wp2_with fail
     refine (CB.out _ HB.out).mono ?_
     rintro e z ⟨rfl, rfl⟩
     clear c0
     go_wp2_with fail
     go_ret
     exact ⟨by rw [HO.out]; rfl, HB.out⟩
    | false =>
     have HO := Lib.hid (show O = idxN p (l.drop (k + 1)) (k + 1) by rw [HK.out, hst, hb]; rfl)
     rw [hb] at CB
     clear hst hb e2 hlt
     go_wp2_with fail
     refine (CB.out _ HB.out).mono ?_
     rintro e z ⟨rfl, rfl⟩
     clear c0
     go_wp2_with fail
     go_roundw
     case rel => exact ⟨k + 1, HLT.out, by go_num, HO, HB, by trivial⟩
     case measure => have := HLT.out; simp [RowKit.intOf]; omega
  · have hke : k = l.length := by omega
    have HO := Lib.hid (show O = -1 by rw [HK.out, hke, HN.out])
    have hki : ¬ (k : Int) < (l.length : Int) := by omega
    clear hke hlt
    go_wp2_with fail
    go_ret
    exact ⟨by rw [HO.out]; rfl, HB.out⟩
theorem containsInt_u (p : Int → Bool) (F : Nat) (lb : Array Value) (n : Nat) (ad : Option Addr) (c : Nat) (l : List Int) (hl : l.length ≤ maxLen) (w : World) (hn : n ≤ w.heap.size) (hI : RL KI w ad l)
 (eg : ∀ args W, (callFunc F args).run Tryz.prog W = .ok (.enter F args) W)
 (HF : ∀ x W, Below n w W → Calls Tryz.prog F (#[.int .i64 x] ++ lb) W fun e W' => e = .returned (.bool (p x)) ∧ W' = W) :
 Calls Tryz.prog 81 #[.slice ad l.length c, .func (.func F) #[] lb] w fun e w' => e = .returned (.bool (l.any p)) ∧ Below n w w' := by
 have HC := Lib.hid (indexInt_u p F lb n ad c l hl w hn hI eg HF)
 have HA := Lib.hid (idxN_any p l 0)
 generalize idxN p l 0 = O at *
 generalize l.any p = R at *
 clear hI hl HF
 go_enter Tryz.func81, Tryz.ntmps81
 go_wp2_with fail
 refine (HC.out).mono ?_
 rintro e z ⟨rfl, hz⟩
 have HZ := Lib.hid hz
 clear hz
 go_wp2_with fail
 go_ret
 exact ⟨by rw [← HA.out]; rfl, HZ.out⟩
end Go.Proofs.YtnpfhcnjkekhbaaGreatDoor

namespace Go.Proofs.YtnpfhcnjkekhbaaGreatDoor
open Go Go.Proofs Go.RowKit Go.Lib
theorem linked_u (ml mn : Int) (w : World) : Calls Tryz.prog 88 #[.int .i64 ml, .int .i64 mn] w fun e w' => e = .returned (.func (.func 104) #[] #[.pointer (some ⟨w.heap.size, 0, none⟩), .pointer (some ⟨w.heap.size + 1, 0, none⟩)]) ∧ (w.alloc (.cells #[.int .i64 ml] 3)).alloc (.cells #[.int .i64 mn] 3) = w' := by
 go_enter Tryz.func88, Tryz.ntmps88
 go_wp2
 go_ret
 exact ⟨rfl, rfl⟩
theorem linked1_u (x : Ev) (ml mn : Int) (A B : Nat) (w : World) (hA : w.cell? ⟨A, 0, none⟩ = some (.int .i64 ml)) (hB : w.cell? ⟨B, 0, none⟩ = some (.int .i64 mn)) : Calls Tryz.prog 104 #[x.val, .pointer (some ⟨A, 0, none⟩), .pointer (some ⟨B, 0, none⟩)] w fun e w' => e = .returned (.bool (linkB ml mn x)) ∧ Below w.heap.size w w' := by
 obtain ⟨ag, sq, tm, kd, tr, sp, lk, gn, op, vr, pe, bt⟩ := x
 obtain ⟨R, hR⟩ : ∃ R, linkB ml mn ⟨ag, sq, tm, kd, tr, sp, lk, gn, op, vr, pe, bt⟩ = R := ⟨_, rfl⟩
 rw [hR]
 have HR := Lib.hid hR.symm
 unfold Ev.val
 dsimp only
 obtain ⟨w1, V1, Z1, K1, B1⟩ := lay8 w [.int .i64 ag, .int .i64 sq, .int .i64 tm, .int .i64 kd, .int .i64 tr, .int .i64 sp, .int .i64 lk, .int .i64 gn, .int .i64 op, .int .i64 vr, .int .i64 pe, .int .i64 bt] 23
 have HZ := Lib.hid B1
 have y0 := (K1 0 (by simp)).1
 have y1 := (K1 1 (by simp)).1
 have y2 := (K1 2 (by simp)).1
 have y3 := (K1 3 (by simp)).1
 have y4 := (K1 4 (by simp)).1
 have y5 := (K1 5 (by simp)).1
 have y6 := (K1 6 (by simp)).1
 have y7 := (K1 7 (by simp)).1
 have y8 := (K1 8 (by simp)).1
 have y9 := (K1 9 (by simp)).1
 have y10 := (K1 10 (by simp)).1
 have y11 := (K1 11 (by simp)).1
 simp only [List.getElem_cons_zero, List.getElem_cons_succ] at y0 y1 y2 y3 y4 y5 y6 y7 y8 y9 y10 y11
 have hA1 := (B1.cell (p := ⟨A, 0, none⟩) (World.block_lt_of_cell? w ⟨A, 0, none⟩ hA)).trans hA
 have hB1 := (B1.cell (p := ⟨B, 0, none⟩) (World.block_lt_of_cell? w ⟨B, 0, none⟩ hB)).trans hB
 clear hA hB
 clear hR K1 B1
 have C0 := Lib.hid (fun W => isIn_u lk 0 ml W)
 obtain ⟨b1, hb1⟩ : ∃ q, inB lk 0 ml = q := ⟨_, rfl⟩
 rw [hb1] at C0
 have Hb1 := Lib.hid hb1
 clear hb1
 have C1 := Lib.hid (fun W => isIn_u gn 0 mn W)
 obtain ⟨b2, hb2⟩ : ∃ q, inB gn 0 mn = q := ⟨_, rfl⟩
 rw [hb2] at C1
 have Hb2 := Lib.hid hb2
 clear hb2
 go_enter Tryz.func104, Tryz.ntmps104
 cases b1 with
 | false =>
  go_wp2_with (first | (go_at_call 86; (first | (with_reducible refine (C0.out _).mono ?_) | (with_reducible refine (C1.out _).mono ?_)); rintro e z ⟨rfl, rfl⟩))
  go_ret
  exact ⟨by rw [HR.out]; simp [linkB, Hb1.out], HZ.out⟩
 | true =>
  cases b2 with
  | false =>
   go_wp2_with (first | (go_at_call 86; (first | (with_reducible refine (C0.out _).mono ?_) | (with_reducible refine (C1.out _).mono ?_)); rintro e z ⟨rfl, rfl⟩))
   go_ret
   exact ⟨by rw [HR.out]; simp [linkB, Hb2.out], HZ.out⟩
  | true =>
   by_cases eop : op = 0
   · subst eop
     by_cases evr : vr = 0
     · subst evr
       by_cases epe : pe = 0
       · subst epe
         go_wp2_with (first | (go_at_call 86; (first | (with_reducible refine (C0.out _).mono ?_) | (with_reducible refine (C1.out _).mono ?_)); rintro e z ⟨rfl, rfl⟩))
         go_ret
         exact ⟨by rw [HR.out]; simp [linkB, Hb1.out, Hb2.out], HZ.out⟩
       · have Epe := Lib.hid epe
         have epe2 : (pe == 0) = false := beq_eq_false_iff_ne.2 epe
         go_wp2_with (first | (go_at_call 86; (first | (with_reducible refine (C0.out _).mono ?_) | (with_reducible refine (C1.out _).mono ?_)); rintro e z ⟨rfl, rfl⟩))
         go_ret
         exact ⟨by rw [HR.out]; simp [linkB, Epe.out], HZ.out⟩
     · have Evr := Lib.hid evr
       have evr2 : (vr == 0) = false := beq_eq_false_iff_ne.2 evr
       go_wp2_with (first | (go_at_call 86; (first | (with_reducible refine (C0.out _).mono ?_) | (with_reducible refine (C1.out _).mono ?_)); rintro e z ⟨rfl, rfl⟩))
       go_ret
       exact ⟨by rw [HR.out]; simp [linkB, Evr.out], HZ.out⟩
   · have Eop := Lib.hid eop
     have eop2 : (op == 0) = false := beq_eq_false_iff_ne.2 eop
     go_wp2_with (first | (go_at_call 86; (first | (with_reducible refine (C0.out _).mono ?_) | (with_reducible refine (C1.out _).mono ?_)); rintro e z ⟨rfl, rfl⟩))
     go_ret
     exact ⟨by rw [HR.out]; simp [linkB, Eop.out], HZ.out⟩
theorem isBegin_u (x : Ev) (w : World) : Calls Tryz.prog 87 #[x.val] w fun e w' => e = .returned (.bool (begB x)) ∧ Below w.heap.size w w' := by
 obtain ⟨ag, sq, tm, kd, tr, sp, lk, gn, op, vr, pe, bt⟩ := x
 obtain ⟨R, hR⟩ : ∃ R, begB ⟨ag, sq, tm, kd, tr, sp, lk, gn, op, vr, pe, bt⟩ = R := ⟨_, rfl⟩
 rw [hR]
 have HR := Lib.hid hR.symm
 unfold Ev.val
 dsimp only
 obtain ⟨w1, V1, Z1, K1, B1⟩ := lay8 w [.int .i64 ag, .int .i64 sq, .int .i64 tm, .int .i64 kd, .int .i64 tr, .int .i64 sp, .int .i64 lk, .int .i64 gn, .int .i64 op, .int .i64 vr, .int .i64 pe, .int .i64 bt] 23
 have HZ := Lib.hid B1
 have y0 := (K1 0 (by simp)).1
 have y1 := (K1 1 (by simp)).1
 have y2 := (K1 2 (by simp)).1
 have y3 := (K1 3 (by simp)).1
 have y4 := (K1 4 (by simp)).1
 have y5 := (K1 5 (by simp)).1
 have y6 := (K1 6 (by simp)).1
 have y7 := (K1 7 (by simp)).1
 have y8 := (K1 8 (by simp)).1
 have y9 := (K1 9 (by simp)).1
 have y10 := (K1 10 (by simp)).1
 have y11 := (K1 11 (by simp)).1
 simp only [List.getElem_cons_zero, List.getElem_cons_succ] at y0 y1 y2 y3 y4 y5 y6 y7 y8 y9 y10 y11
 clear hR K1 B1
 have C0 := Lib.hid (fun W => isIn_u lk (-1) 9 W)
 obtain ⟨b1, hb1⟩ : ∃ q, inB lk (-1) 9 = q := ⟨_, rfl⟩
 rw [hb1] at C0
 have Hb1 := Lib.hid hb1
 clear hb1
 have C1 := Lib.hid (fun W => isIn_u op 0 11 W)
 obtain ⟨b2, hb2⟩ : ∃ q, inB op 0 11 = q := ⟨_, rfl⟩
 rw [hb2] at C1
 have Hb2 := Lib.hid hb2
 clear hb2
 have C2 := Lib.hid (fun W => isIn_u vr 0 9 W)
 obtain ⟨b3, hb3⟩ : ∃ q, inB vr 0 9 = q := ⟨_, rfl⟩
 rw [hb3] at C2
 have Hb3 := Lib.hid hb3
 clear hb3
 have C3 := Lib.hid (fun W => isIn_u pe (-1) 19 W)
 obtain ⟨b4, hb4⟩ : ∃ q, inB pe (-1) 19 = q := ⟨_, rfl⟩
 rw [hb4] at C3
 have Hb4 := Lib.hid hb4
 clear hb4
 go_enter Tryz.func87, Tryz.ntmps87
 cases b1 with
 | false =>
  go_wp2_with (first | (go_at_call 86; (first | (with_reducible refine (C0.out _).mono ?_) | (with_reducible refine (C1.out _).mono ?_) | (with_reducible refine (C2.out _).mono ?_) | (with_reducible refine (C3.out _).mono ?_)); rintro e z ⟨rfl, rfl⟩))
  go_ret
  exact ⟨by rw [HR.out]; simp [begB, Hb1.out], HZ.out⟩
 | true =>
  by_cases els : lk = sp
  · subst els
    go_wp2_with (first | (go_at_call 86; (first | (with_reducible refine (C0.out _).mono ?_) | (with_reducible refine (C1.out _).mono ?_) | (with_reducible refine (C2.out _).mono ?_) | (with_reducible refine (C3.out _).mono ?_)); rintro e z ⟨rfl, rfl⟩))
    go_ret
    exact ⟨by rw [HR.out]; simp [begB], HZ.out⟩
  · have els2 : (lk == sp) = false := beq_eq_false_iff_ne.2 els
    by_cases egn : gn = 0
    · subst egn
      cases b2 with
      | false =>
       go_wp2_with (first | (go_at_call 86; (first | (with_reducible refine (C0.out _).mono ?_) | (with_reducible refine (C1.out _).mono ?_) | (with_reducible refine (C2.out _).mono ?_) | (with_reducible refine (C3.out _).mono ?_)); rintro e z ⟨rfl, rfl⟩))
       go_ret
       exact ⟨by rw [HR.out]; simp [begB, Hb2.out], HZ.out⟩
      | true =>
       cases b3 with
       | false =>
        go_wp2_with (first | (go_at_call 86; (first | (with_reducible refine (C0.out _).mono ?_) | (with_reducible refine (C1.out _).mono ?_) | (with_reducible refine (C2.out _).mono ?_) | (with_reducible refine (C3.out _).mono ?_)); rintro e z ⟨rfl, rfl⟩))
        go_ret
        exact ⟨by rw [HR.out]; simp [begB, Hb3.out], HZ.out⟩
       | true =>
        cases b4 with
        | false =>
         go_wp2_with (first | (go_at_call 86; (first | (with_reducible refine (C0.out _).mono ?_) | (with_reducible refine (C1.out _).mono ?_) | (with_reducible refine (C2.out _).mono ?_) | (with_reducible refine (C3.out _).mono ?_)); rintro e z ⟨rfl, rfl⟩))
         go_ret
         exact ⟨by rw [HR.out]; simp [begB, Hb4.out], HZ.out⟩
        | true =>
         go_wp2_with (first | (go_at_call 86; (first | (with_reducible refine (C0.out _).mono ?_) | (with_reducible refine (C1.out _).mono ?_) | (with_reducible refine (C2.out _).mono ?_) | (with_reducible refine (C3.out _).mono ?_)); rintro e z ⟨rfl, rfl⟩))
         go_ret
         exact ⟨by rw [HR.out]; simp [begB, Hb1.out, Hb2.out, Hb3.out, Hb4.out], HZ.out⟩
    · have Egn := Lib.hid egn
      have egn2 : (gn == 0) = false := beq_eq_false_iff_ne.2 egn
      go_wp2_with (first | (go_at_call 86; (first | (with_reducible refine (C0.out _).mono ?_) | (with_reducible refine (C1.out _).mono ?_) | (with_reducible refine (C2.out _).mono ?_) | (with_reducible refine (C3.out _).mono ?_)); rintro e z ⟨rfl, rfl⟩))
      go_ret
      exact ⟨by rw [HR.out]; simp [begB, Egn.out], HZ.out⟩
end Go.Proofs.YtnpfhcnjkekhbaaGreatDoor
