/-
  Layer 8: the contract of the reference's Fleet. Layer 9: parts of rows: a row copied, appended, cut. Layer 8, the program: the map of tests. Layer 8, the program: fieldTests. Layer 8, the program: isEvent, Event. Layer 8, the program: Event, Events.
-/
import Derived.Test.YtnpfhcnjkekhbaaGreatDoorProg
import Derived.Test.YtnpfhcnjkekhbaaGreatDoorK09
import Derived.Test.YtnpfhcnjkekhbaaGreatDoorK11
import Derived.Lib.QuietBelow
import Derived.StillTail
import Derived.WalkKit
import Derived.WalkLawsBesides
import Derived.Outline
import Derived.Lib.Hide
import Derived.Below
import Derived.BigQuiet
import Derived.Deep.QuietTactic
import Derived.Deep.RegionHeld3
import Derived.Deep.DeepCutAuto
import Derived.Laws.Rows
import Derived.Laws.OwnMore
import Derived.OwnWalk
import Derived.Maps.Own
import Derived.Maps.OwnOps
set_option maxRecDepth 100000
set_option maxHeartbeats 16000000
namespace Go.Proofs.YtnpfhcnjkekhbaaGreatDoor
open Go Go.Proofs Go.RowKit Go.Lib
theorem tdiv8 {n : Int} (h0 : -9223372036854775808 ≤ n) (h1 : n ≤ 9223372036854775807) (k : Int) (hk : 2 ≤ k) : -4611686018427387904 ≤ n.tdiv k ∧ n.tdiv k ≤ 4611686018427387904 := by
 have e : k * n.tdiv k + n.tmod k = n := Int.mul_tdiv_add_tmod n k
 rcases Int.le_total 0 n with h | h
 · have a1 := Int.tdiv_nonneg h (show 0 ≤ k by omega)
   have a2 := Int.tmod_nonneg k h
   have a3 : 2 * n.tdiv k ≤ k * n.tdiv k := Int.mul_le_mul_of_nonneg_right hk a1
   omega
 · have e2 : n.tdiv k = -((-n).tdiv k) := by rw [Int.neg_tdiv, Int.neg_neg]
   have a1 := Int.tdiv_nonneg (show 0 ≤ -n by omega) (show 0 ≤ k by omega)
   have a2 := Int.tmod_nonneg k (show 0 ≤ -n by omega)
   have e3 : k * (-n).tdiv k + (-n).tmod k = -n := Int.mul_tdiv_add_tmod (-n) k
   have a3 : 2 * (-n).tdiv k ≤ k * (-n).tdiv k := Int.mul_le_mul_of_nonneg_right hk a1
   omega
theorem wrapq8 {x : Int} (h : -9223372036854775808 ≤ x ∧ x ≤ 9223372036854775807) : IntKind.i64.wrap x = x := IntWalk.i64_in _ (by omega)
theorem CellsAt.rn {W : World} {base g : Nat} {l : List Int} (h : CellsAt W g (KI.vs l)) (hb : base ≤ g) (hg : g < W.heap.size) : RN KI W base (some ⟨g, 0, none⟩) l := by
 refine .inr ⟨g, 0, rfl, hb, hg, fun i hi j hj => ?_⟩
 have hj0 : j = 0 := by have : KI.n = 1 := rfl; omega
 subst hj0
 have hl : (KI.vs l).length = l.length := by rw [KI.vs_length]; show l.length * 1 = _; omega
 have e : 0 + KI.n * i + 0 = i := by show 0 + 1 * i + 0 = i; omega
 rw [e, (h i (by omega)).1]
 have := KI.vs_get l i 0 hi (by decide)
 rw [show KI.n * i + 0 = i by show 1 * i + 0 = i; omega, List.getElem?_eq_getElem (by omega)] at this
 exact this
end Go.Proofs.YtnpfhcnjkekhbaaGreatDoor

namespace Go.Proofs.YtnpfhcnjkekhbaaGreatDoor
open Go Go.Proofs Go.RowKit Go.Lib Go.Sort
theorem RL.take8 {T : Type} {K : RowK T} {W : World} {ad : Option Addr} {l : List T} (h : RL K W ad l) (n : Nat) : RL K W ad (l.take n) := by
 rcases h with h | ⟨b, o, h1, h2, h3⟩
 · subst h; exact .inl (by simp)
 · refine .inr ⟨b, o, h1, h2, fun i hi j hj => ?_⟩
   rw [List.length_take] at hi
   rw [h3 i (by omega) j hj, List.getElem_take]
theorem RL.cells8 {T : Type} {K : RowK T} {W : World} {b o : Nat} {l : List T} (h3 : ∀ i (h : i < l.length) j, j < K.n → W.cell? ⟨b, o + K.n * i + j, none⟩ = (K.cs l[i])[j]?) : ∀ j u, (K.vs l)[j]? = some u → W.cell? ((⟨b, o, none⟩ : Addr).add j) = some u := by
 intro j u hj
 have hlt : j < (K.vs l).length := by
  rcases Nat.lt_or_ge j (K.vs l).length with h | h
  · exact h
  · rw [List.getElem?_eq_none h] at hj; cases hj
 rw [K.vs_length] at hlt
 have hp := K.pos
 have hq : j / K.n < l.length := by rw [Nat.div_lt_iff_lt_mul hp]; exact hlt
 have hm : j % K.n < K.n := Nat.mod_lt _ hp
 have e : K.n * (j / K.n) + j % K.n = j := Nat.div_add_mod j K.n
 have := h3 _ hq _ hm
 rw [← K.vs_get l _ _ hq hm, e, hj] at this
 rw [add_at8, ← this]
 congr 2
 omega
theorem run_append_arg8 {T : Type} (K : RowK T) (w : World) (n : Nat) (ty : TypeId) (l : List T) (hn : n ≤ w.heap.size) (ad : Option Addr) (c : Nat) (hr : RL K w ad l) (hnone : ad = none → c = 0) (hl : l.length ≤ 100000000) (v : Value) (hown : Own K w n v []) :
 ∃ v' w', (Builtin.append_ #[K.st, K.st] ty #[v, .slice ad l.length c]).run Tryz.prog w = .ok v' w' ∧ Own K w' n v' l ∧ w.grownBy w' v.ownBlock := by
 obtain ⟨i0, hi, hz0, hz1, hz2⟩ := info_parts K.info
 rcases hr with hr | ⟨b, o, had, hb, h3⟩
 · subst hr
   cases ad with
   | none =>
    obtain rfl := hnone rfl
    refine ⟨v, w, ?_, hown, World.grownBy.refl _ _⟩
    exact run_append_owned_none (P := Tryz.prog) w n K.st ty K.et i0 K.n K.und hi v 0 _ hown
   | some a =>
    obtain ⟨v', w', h1, h2, h4, _⟩ := K.push w n ty v [] [] hown hn a 0 c rfl (fun j u hj => by simp [RowK.vs] at hj) (by simp)
    exact ⟨v', w', h1, h2, h4⟩
 · subst had
   obtain ⟨v', w', h1, h2, h4, _⟩ := K.push w n ty v [] l hown hn ⟨b, o, none⟩ l.length c rfl (RL.cells8 h3) (by simpa using hl)
   exact ⟨v', w', h1, by simpa using h2, h4⟩
theorem walk_arg8 {T : Type} (K : RowK T) {ops : Array Oper} {o : Oper} {rest : List Oper} {a : Act} {w : World} {Q : Exit → Act → World → Prop}
 (hgd : o.guard = none) (s x : Operand) (hop : o.op = Op.call { callee := Callee.builtin Builtin.append, args := #[s, x], argTypes := #[K.st, K.st] })
 (n : Nat) (v : Value) (l : List T) (hs : a.eval s = v) (hown : Own K w n v []) (hn : n ≤ w.heap.size) (ad : Option Addr) (c : Nat) (hx : a.eval x = .slice ad l.length c) (hr : RL K w ad l) (hnone : ad = none → c = 0) (hl : l.length ≤ 100000000)
 (hK : ∀ v' w', Own K w' n v' l → Below n w w' → wpList Tryz.prog ops Q rest (a.put o.dst v') w') : wpList Tryz.prog ops Q (o :: rest) a w := by
 refine wpList_plain hgd fun KK hK' => ?_
 obtain ⟨v', w', hrun, r1, r2⟩ := run_append_arg8 K w n o.type l hn ad c hr hnone hl v hown
 unfold Oper.wp
 simp [execOp, hop, resolve, invoke, builtin, hs, hx, hrun, Result.andThen]
 exact hK' _ _ (hK v' w' r1 ((Below.refl _ _).grown r2 hn (fun k hk => (hown.ge k hk).1)))
theorem run_append_any8 {T : Type} (K : RowK T) (w : World) (n : Nat) (ty : TypeId) (l p : List T) (hn : n ≤ w.heap.size) (ad : Option Addr) (c : Nat) (hr : RL K w ad p) (hnone : ad = none → c = 0) (hl : l.length + p.length ≤ 100000000) (v : Value) (hown : Own K w n v l) :
 ∃ v' w', (Builtin.append_ #[K.st, K.st] ty #[v, .slice ad p.length c]).run Tryz.prog w = .ok v' w' ∧ Own K w' n v' (l ++ p) ∧ w.grownBy w' v.ownBlock ∧ (v'.ownBlock = v.ownBlock ∨ v'.ownBlock = some w.heap.size) := by
 obtain ⟨i0, hi, hz0, hz1, hz2⟩ := info_parts K.info
 rcases hr with hr | ⟨b, o, had, hb, h3⟩
 · subst hr
   cases ad with
   | none =>
    obtain rfl := hnone rfl
    refine ⟨v, w, ?_, by rw [List.append_nil]; exact hown, World.grownBy.refl _ _, .inl rfl⟩
    exact run_append_owned_none (P := Tryz.prog) w n K.st ty K.et i0 K.n K.und hi v l.length _ hown
   | some a => exact K.push w n ty v l [] hown hn a 0 c rfl (fun j u hj => by simp [RowK.vs] at hj) (by simpa using hl)
 · subst had
   exact K.push w n ty v l p hown hn ⟨b, o, none⟩ p.length c rfl (RL.cells8 h3) hl
theorem oper_append8 {T : Type} (K : RowK T) {o : Oper} {a : Act} {w : World} {KK : Act → World → Prop} {Q : Exit → Act → World → Prop}
 (s x : Operand) (hop : o.op = Op.call { callee := Callee.builtin Builtin.append, args := #[s, x], argTypes := #[K.st, K.st] })
 (n : Nat) (v : Value) (l p : List T) (hs : a.eval s = v) (hown : Own K w n v l) (hn : n ≤ w.heap.size) (ad : Option Addr) (m c : Nat) (hx : a.eval x = .slice ad m c) (hm : m = p.length) (hr : RL K w ad p) (hnone : ad = none → c = 0) (hl : l.length + p.length ≤ 100000000)
 (hK : ∀ v' w', Own K w' n v' (l ++ p) → w.grownBy w' v.ownBlock → (v'.ownBlock = v.ownBlock ∨ v'.ownBlock = some w.heap.size) → KK (a.put o.dst v') w') : o.wp Tryz.prog a w KK Q := by
 subst hm
 obtain ⟨v', w', hrun, r1, r2, r3⟩ := run_append_any8 K w n o.type l p hn ad c hr hnone hl v hown
 unfold Oper.wp
 simp [execOp, hop, resolve, invoke, builtin, hs, hx, hrun, Result.andThen]
 exact hK _ _ r1 r2 r3
theorem rl_own8 {T : Type} {K : RowK T} {W : World} {base n c : Nat} {ad : Option Addr} {l : List T} (h : Own K W base (.slice ad n c) l) : RL K W ad l := by
 obtain ⟨ad2, c2, e1, _, h⟩ := h.rn
 injection e1 with e1 e2 e3
 rw [e1]; exact h.rl
theorem RowK.to8 {T : Type} (K : RowK T) (ad : Option Addr) (n c k : Nat) (hk : k ≤ c) (w : World) : (Instr.slice K.st (.slice ad n c) none (some (.int .i64 (k : Int))) none).run Tryz.prog w = .ok (.slice ad k c) w := by
 have hu := K.und
 rw [← K.elem] at hu
 obtain ⟨i0, hi, hz0, hz1, hz2⟩ := info_parts K.info
 rw [← K.elem] at hi
 have hs : ∀ w, (Go.sizeOf (Tryz.prog.elem K.st)).run Tryz.prog w = .ok K.n w := fun w => by simp [sizeOf, typeInfo, hi, Result.andThen, hz1]
 rw [run_slice_h w _ _ _ _ hu .i64 _ (by omega) (by omega), hs]
 cases ad with
 | none => simp [Result.andThen, sliced]
 | some a =>
  rcases a with ⟨b, o, s⟩
  cases s <;> simp [Result.andThen, sliced, Addr.add]
end Go.Proofs.YtnpfhcnjkekhbaaGreatDoor

namespace Go.Proofs.YtnpfhcnjkekhbaaGreatDoor
open Go Go.Proofs Go.RowKit Go.Lib Go.Maps
def NewC (w w' : World) : Prop := Below w.heap.size w w'
theorem NewC.below {w w' : World} (h : NewC w w') : Below w.heap.size w w' := h
theorem newC0 (w : World) : NewC w { w with drawn := w.drawn + 1 } := Grew.below (grew0 w)
def Rv (v : Value) : Option (DataW Value × List MemPlace) := some (.held v, [])
theorem keyI : Keyed Tryz.prog 3 := int_keyed Tryz.underlying3
theorem wpList_insert_own8 {P : Program} (w : World) {ops : Array Oper} {rest : List Oper} {o : Oper} {a : Act} {Q : Exit → Act → World → Prop}
 (hg : o.guard = none) (m x v : Operand) (t : TypeId) (hop : o.op = Op.insert t m x v)
 (k e : TypeId) (K : Keyed P k) (ht : P.underlying t = some (.map k e)) (b n : Nat) (D : DataW Value)
 (hm : a.eval m = .map (some b)) (hown : w.ownsMap P k Rv b n D) (hn : n < maxLen) (key val : Value) (kl : Lit) (hx : a.eval x = key) (hv : a.eval v = val) (hkey : keyOf P k key = some kl)
 (hK : ∀ w', w'.ownsMap P k Rv b (n + 1) (D.put kl (.held val)) → w.grownBy w' (some b) → wpList P ops Q rest (a.put o.dst undef) w') :
 wpList P ops Q (o :: rest) a w := by
 refine wpList_plain hg fun K' hK' => ?_
 obtain ⟨w', hrun, r1, r2⟩ := hown.update K ht hn hkey (val := val) (d := .held val) (ps := []) rfl
 unfold Oper.wp
 simp [execOp, hop, hm, hx, hv, hrun, Result.andThen]
 exact hK' _ _ (hK w' r1 r2)
theorem ownsMap_below {w w' : World} {P : Program} {k : TypeId} {b n : Nat} {D : DataW Value} (h : w.ownsMap P k Rv b n D) (hb : Below w.heap.size w w') : w'.ownsMap P k Rv b n D :=
 h.kept (row := none) ⟨hb.os, hb.tape, hb.output, hb.size, fun i hi _ => hb.block i hi⟩ (by simp)
def ftD : Nat → (Nat → Value) → DataW Value
 | 0, _ => (DataW.map []).put (.int .i64 1) (.held (.func (.func 87) #[] #[]))
 | k + 1, vs => (ftD k vs).put (.int .i64 (lkT (3 * k))) (.held (vs k))
theorem ftD_congr : ∀ (k : Nat) (vs us : Nat → Value), (∀ j, j < k → vs j = us j) → ftD k vs = ftD k us
 | 0, _, _, _ => rfl
 | k + 1, vs, us, h => by
  unfold ftD
  rw [ftD_congr k vs us (fun j hj => h j (by omega)), h k (by omega)]
def ClosAt (W : World) (v : Value) (ml mn : Int) : Prop := ∃ A B, v = .func (.func 104) #[] #[.pointer (some ⟨A, 0, none⟩), .pointer (some ⟨B, 0, none⟩)] ∧ W.cell? ⟨A, 0, none⟩ = some (.int .i64 ml) ∧ W.cell? ⟨B, 0, none⟩ = some (.int .i64 mn)
theorem ClosAt.below {W W' : World} {v : Value} {ml mn : Int} (h : ClosAt W v ml mn) (b : Below W.heap.size W W') : ClosAt W' v ml mn := by
 obtain ⟨A, B, e, h1, h2⟩ := h
 exact ⟨A, B, e, (b.cell (p := ⟨A, 0, none⟩) (World.block_lt_of_cell? W ⟨A, 0, none⟩ h1)).trans h1, (b.cell (p := ⟨B, 0, none⟩) (World.block_lt_of_cell? W ⟨B, 0, none⟩ h2)).trans h2⟩
theorem ClosAt.map {W W' : World} {v : Value} {ml mn : Int} {b n : Nat} {D : DataW Value} (h : ClosAt W v ml mn) (hm : W.ownsMap Tryz.prog 3 Rv b n D) (g : W.grownBy W' (some b)) : ClosAt W' v ml mn := by
 obtain ⟨A, B, e, h1, h2⟩ := h
 obtain ⟨es, ck, hb, _⟩ := hm
 have ne : ∀ X v, W.cell? ⟨X, 0, none⟩ = some v → X ≠ b := fun X v h e => by subst e; simp [World.cell?, hb] at h
 exact ⟨A, B, e, (World.cell?_of_block (a := ⟨A, 0, none⟩) (g.block A (World.block_lt_of_cell? W ⟨A, 0, none⟩ h1) (fun e => ne A _ h1 (Option.some.inj e)))).trans h1,
  (World.cell?_of_block (a := ⟨B, 0, none⟩) (g.block B (World.block_lt_of_cell? W ⟨B, 0, none⟩ h2) (fun e => ne B _ h2 (Option.some.inj e)))).trans h2⟩
def FtAt (k : Nat) (W : World) (b : Nat) : Prop := ∃ vs : Nat → Value, W.ownsMap Tryz.prog 3 Rv b (k + 1) (ftD k vs) ∧ ∀ j, j < k → ClosAt W (vs j) (lkT (3 * j + 1)) (lkT (3 * j + 2))
theorem FtAt.below {k : Nat} {W W' : World} {b : Nat} (h : FtAt k W b) (hb : Below W.heap.size W W') : FtAt k W' b := by
 obtain ⟨vs, h1, h2⟩ := h
 exact ⟨vs, ownsMap_below h1 hb, fun j hj => (h2 j hj).below hb⟩
theorem FtAt.lt {k : Nat} {W : World} {b : Nat} (h : FtAt k W b) : b < W.heap.size := by
 obtain ⟨vs, h1, _⟩ := h
 exact h1.lt
def FtPost (w : World) (e : Ending) (w' : World) : Prop := ∃ b, e = .returned (.map (some b)) ∧ FtAt 6 w' b ∧ Below w.heap.size w w'
theorem lk_ix (k : Nat) (hk : k < 6) (W : World) : (Instr.index 121 (.agg #[.int .i64 2, .int .i64 0, .int .i64 0, .int .i64 3, .int .i64 99, .int .i64 0, .int .i64 4, .int .i64 99, .int .i64 0, .int .i64 5, .int .i64 99, .int .i64 99, .int .i64 6, .int .i64 99, .int .i64 99, .int .i64 7, .int .i64 9, .int .i64 0]) (.int .i64 (k : Int))).run Tryz.prog W = .ok (.agg #[.int .i64 (lkT (3 * k)), .int .i64 (lkT (3 * k + 1)), .int .i64 (lkT (3 * k + 2))]) W := by
 have h6 : k = 0 ∨ k = 1 ∨ k = 2 ∨ k = 3 ∨ k = 4 ∨ k = 5 := by omega
 rcases h6 with rfl | rfl | rfl | rfl | rfl | rfl <;> rfl
theorem lk_wf (k : Nat) (hk : k < 6) : (Lit.int .i64 (lkT (3 * k))).wf = true := by
 have h6 : k = 0 ∨ k = 1 ∨ k = 2 ∨ k = 3 ∨ k = 4 ∨ k = 5 := by omega
 rcases h6 with rfl | rfl | rfl | rfl | rfl | rfl <;> decide
theorem wpList_val8 {P : Program} {w : World} {ops : Array Oper} {rest : List Oper} {o : Oper} {a : Act} {Q : Exit → Act → World → Prop} (v : Value)
 (hg : o.guard = none) (h : (execOp a.eval o).run P w = .ok (.value v) w) (hK : wpList P ops Q rest (a.put o.dst v) w) : wpList P ops Q (o :: rest) a w := by
 refine wpList_plain hg fun K' hK' => ?_
 unfold Oper.wp
 rw [h]
 exact hK' _ _ hK
theorem lk_load (a : Act) (o : Oper) (ho : o.op = Op.load 121 (Operand.global 0)) (W : World) (h : HasLk W) : (execOp a.eval o).run Tryz.prog W = .ok (.value (.agg #[.int .i64 2, .int .i64 0, .int .i64 0, .int .i64 3, .int .i64 99, .int .i64 0, .int .i64 4, .int .i64 99, .int .i64 0, .int .i64 5, .int .i64 99, .int .i64 99, .int .i64 6, .int .i64 99, .int .i64 99, .int .i64 7, .int .i64 9, .int .i64 0])) W := by
 have y0 := h 0 (by decide)
 have y1 := h 1 (by decide)
 have y2 := h 2 (by decide)
 have y3 := h 3 (by decide)
 have y4 := h 4 (by decide)
 have y5 := h 5 (by decide)
 have y6 := h 6 (by decide)
 have y7 := h 7 (by decide)
 have y8 := h 8 (by decide)
 have y9 := h 9 (by decide)
 have y10 := h 10 (by decide)
 have y11 := h 11 (by decide)
 have y12 := h 12 (by decide)
 have y13 := h 13 (by decide)
 have y14 := h 14 (by decide)
 have y15 := h 15 (by decide)
 have y16 := h 16 (by decide)
 have y17 := h 17 (by decide)
 simp only [lkT, List.getD_cons_succ, List.getD_cons_zero] at y0 y1 y2 y3 y4 y5 y6 y7 y8 y9 y10 y11 y12 y13 y14 y15 y16 y17
 simp [execOp, ho, go_sem, y0, y1, y2, y3, y4, y5, y6, y7, y8, y9, y10, y11, y12, y13, y14, y15, y16, y17]
end Go.Proofs.YtnpfhcnjkekhbaaGreatDoor

namespace Go.Proofs.YtnpfhcnjkekhbaaGreatDoor
open Go Go.Proofs Go.RowKit Go.Lib Go.Maps
theorem fieldTests_u (w : World) (hR : Rdy w) : Calls Tryz.prog 63 #[] w (FtPost w) := by
 have hmm := @run_makeMap Tryz.prog
 have HR := Lib.hid hR
 have HT := Lib.hid (fun W (h : HasLk W) i (hi : i < 18) => h i hi)
 have HIX := Lib.hid (fun k hk W => lk_ix k hk W)
 clear hR
 go_enter Tryz.func63, Tryz.ntmps63
 go_wp2_with (first | (refine wpList_insert_own8 _ rfl _ _ _ 92 rfl 3 59 keyI Tryz.underlying92 w.heap.size 0 (.map []) rfl (World.ownsMap_made _ _ _ _) (by unfold maxLen; omega) _ _ (.int .i64 1) rfl rfl (keyOf_int_mk Tryz.underlying3 (by decide)) ?_; intro w1 hown1 hgrow1; have HB1 := Lib.hid (show Below w.heap.size w w1 from ((Below.refl _ w).alloc (Nat.le_refl _) _).grown hgrow1 (by simp) (fun k e => by cases e; exact Nat.le_refl _)); have HR1 := Lib.hid (HR.out.below HB1.out)) | (refine wpList_val8 _ rfl (lk_load _ _ rfl _ HR1.out.tab) ?_))
 go_loopw [7] (fun i wr => ∃ k : Nat, k ≤ 6 ∧ i = .int .i64 k ∧ Hid (FtAt k wr w.heap.size) ∧ Hid (Below w.heap.size w wr)) (fun i _ => 6 - (RowKit.intOf i).toNat)
 case atStart => exact ⟨0, Nat.zero_le _, rfl, Lib.hid ⟨fun _ => .nilFunc, hown1, fun j hj => absurd hj (Nat.not_lt_zero _)⟩, HB1⟩
 case round =>
  clear hown1 hgrow1 hmm
  obtain ⟨k, hk, rfl, HF, HB⟩ := hrel
  by_cases hlt : k < 6
  · have hki : (k : Int) < 6 := by omega
    have hik := fun W => HIX.out k hlt W
    have hwf := Lib.hid (lk_wf k hlt)
    have HLT := Lib.hid hlt
    obtain ⟨w2, V2, Z2, K2, B2⟩ := lay8 wr [.int .i64 0, .int .i64 0, .int .i64 0] 120
    obtain ⟨vs, hm, hcl⟩ := HF.out
    have HB' := HB.out
    have hsz := HB'.size
    have hmlt := hm.lt
    obtain ⟨n1, hn1⟩ : ∃ n, lkT (3 * k) = n := ⟨_, rfl⟩
    obtain ⟨n2, hn2⟩ : ∃ n, lkT (3 * k + 1) = n := ⟨_, rfl⟩
    obtain ⟨n3, hn3⟩ : ∃ n, lkT (3 * k + 2) = n := ⟨_, rfl⟩
    rw [hn1, hn2, hn3] at hik
    rw [hn1] at hwf
    obtain ⟨w3, V3, K3, B3⟩ : ∃ w3, ((w2.setCell ⟨wr.heap.size, 0, none⟩ (.int .i64 n1)).setCell ⟨wr.heap.size, 1, none⟩ (.int .i64 n2)).setCell ⟨wr.heap.size, 2, none⟩ (.int .i64 n3) = w3 ∧ CellsAt w3 wr.heap.size [.int .i64 n1, .int .i64 n2, .int .i64 n3] ∧ Below wr.heap.size wr w3 :=
     ⟨_, rfl, ((K2.put 0 _).put 1 _).put 2 _, ((B2.setCell (Nat.le_refl _) _).setCell (Nat.le_refl _) _).setCell (Nat.le_refl _) _⟩
    obtain ⟨g0, g0'⟩ := K2 0 (by simp); obtain ⟨g1, g1'⟩ := K2 1 (by simp); obtain ⟨g2, g2'⟩ := K2 2 (by simp)
    simp only [List.getElem_cons_zero, List.getElem_cons_succ] at g0 g1 g2
    have HM3 := Lib.hid (ownsMap_below hm B3)
    have HCL3 := Lib.hid (fun j hj => (hcl j hj).below B3)
    have HB3 := Lib.hid (HB'.trans (B3.mono hsz))
    have HYY := Lib.hid (show ∀ W, Below w3.heap.size w3 W → W.cell? ⟨wr.heap.size, 0, none⟩ = some (.int .i64 n1) ∧ W.cell? ⟨wr.heap.size, 1, none⟩ = some (.int .i64 n2) ∧ W.cell? ⟨wr.heap.size, 2, none⟩ = some (.int .i64 n3) from fun W b => ⟨(K3.below b 0 (by simp)).1, (K3.below b 1 (by simp)).1, (K3.below b 2 (by simp)).1⟩)
    clear hm hcl K2 K3 B2 B3 HB' HF HB
    go_upto_region 5 with fail
    clear V2 V3 g0 g0' g1 g1' g2 g2' 
    refine wp_region_noPanic ?_
    refine wp_region_Kx (C := NewC w3) [8] 8 #[false, false, false, false, false, false, false, false, false] (by kernel_rfl) (by kernel_rfl) (by kernel_rfl) (newC0 _) ?_
    intro wx hwx
    refine wpAnyK_ex (i := 0) rfl (by kernel_rfl) (listed' := #[true, false, false, false, false, false, false, false, false]) rfl (fun _ _ _ _ _ h => h) hwx ?_
    apply Exists.intro
    refine ⟨⟨by rfl, fun wy hw => ?_⟩, ?_⟩
    · (have bw := hw.below; obtain ⟨f0, f1, f2⟩ := HYY.out _ bw; go_simp; try (first | (with_reducible rfl) | (with_reducible exact ⟨rfl, rfl⟩)))
    try simp only [Act.put]
    refine wpAnyK_ex (i := 1) rfl (by kernel_rfl) (listed' := #[true, true, false, false, false, false, false, false, false]) rfl (fun _ _ _ _ _ h => h) hwx ?_
    apply Exists.intro
    refine ⟨⟨by rfl, fun wy hw => ?_⟩, ?_⟩
    · (have bw := hw.below; obtain ⟨f0, f1, f2⟩ := HYY.out _ bw; go_simp; try (first | (with_reducible rfl) | (with_reducible exact ⟨rfl, rfl⟩)))
    try simp only [Act.put]
    refine wpAnyK_ex (i := 2) rfl (by kernel_rfl) (listed' := #[true, true, true, false, false, false, false, false, false]) rfl (fun _ _ _ _ _ h => h) hwx ?_
    apply Exists.intro
    refine ⟨⟨by rfl, fun wy hw => ?_⟩, ?_⟩
    · (have bw := hw.below; obtain ⟨f0, f1, f2⟩ := HYY.out _ bw; go_simp; try (first | (with_reducible rfl) | (with_reducible exact ⟨rfl, rfl⟩)))
    try simp only [Act.put]
    refine wpAnyK_ex (i := 3) rfl (by kernel_rfl) (listed' := #[true, true, true, true, false, false, false, false, false]) rfl (fun _ _ _ _ _ h => h) hwx ?_
    apply Exists.intro
    refine ⟨⟨by rfl, fun wy hw => ?_⟩, ?_⟩
    · (have bw := hw.below; obtain ⟨f0, f1, f2⟩ := HYY.out _ bw; go_simp; try (first | (with_reducible rfl) | (with_reducible exact ⟨rfl, rfl⟩)))
    try simp only [Act.put]
    refine wpAnyK_ex (i := 4) rfl (by kernel_rfl) (listed' := #[true, true, true, true, true, false, false, false, false]) rfl (fun _ _ _ _ _ h => h) hwx ?_
    apply Exists.intro
    refine ⟨⟨by rfl, fun wy hw => ?_⟩, ?_⟩
    · (have bw := hw.below; obtain ⟨f0, f1, f2⟩ := HYY.out _ bw; go_simp; try (first | (with_reducible rfl) | (with_reducible exact ⟨rfl, rfl⟩)))
    try simp only [Act.put]
    refine wpAnyK_ex (i := 5) rfl (by kernel_rfl) (listed' := #[true, true, true, true, true, true, false, false, false]) rfl (fun _ _ _ _ _ h => h) hwx ?_
    apply Exists.intro
    refine ⟨⟨by rfl, fun wy hw => ?_⟩, ?_⟩
    · (have bw := hw.below; obtain ⟨f0, f1, f2⟩ := HYY.out _ bw; go_simp; try (first | (with_reducible rfl) | (with_reducible exact ⟨rfl, rfl⟩)))
    try simp only [Act.put]
    refine wpAnyK_ex (i := 6) rfl (by kernel_rfl) (listed' := #[true, true, true, true, true, true, true, false, false]) rfl (fun _ _ _ _ _ h => h) hwx ?_
    apply Exists.intro
    refine ⟨⟨by rfl, fun wy hw => ?_⟩, ?_⟩
    · (have bw := hw.below; obtain ⟨f0, f1, f2⟩ := HYY.out _ bw; go_simp; try (first | (with_reducible rfl) | (with_reducible exact ⟨rfl, rfl⟩)))
    try simp only [Act.put]
    have HX := Lib.hid hwx.below
    refine wpAnyK_fork1 7 (by kernel_rfl) ?_
    refine wpOpK_step rfl (by kernel_rfl) (listed' := #[true, true, true, true, true, true, true, true, false]) rfl (by rfl) (fun K hK => ?_)
    go_simp
    refine (linked_u _ _ _).mono ?_
    rintro e w9 ⟨rfl, hw9⟩
    have H9 := Lib.hid (show Below w3.heap.size w3 w9 from by rw [← hw9]; exact (HX.out.alloc HX.out.size _).alloc (Nat.le_trans HX.out.size (by simp)) _)
    have HC9 := Lib.hid (show ClosAt w9 (.func (.func 104) #[] #[.pointer (some ⟨wx.heap.size, 0, none⟩), .pointer (some ⟨wx.heap.size + 1, 0, none⟩)]) n2 n3 from by
     obtain ⟨u1, U1, X1, Y1, D1⟩ := lay8 wx [.int .i64 n2] 3
     obtain ⟨u2, U2, X2, Y2, D2⟩ := lay8 u1 [.int .i64 n3] 3
     have e : w9 = u2 := by rw [← hw9, ← U2, ← U1]
     rw [e]
     rw [X1] at Y2 D2
     exact ⟨_, _, rfl, ((Y1.up D2 (by omega)) 0 (by simp)).1, (Y2 0 (by simp)).1⟩)
    refine hK _ _ H9.out ?_
    clear hK K hw9
    try simp only [Act.put]
    refine wpAnyK_end (by kernel_rfl) ?_
    try simp only [pickOps, List.filterMap_cons, List.filterMap_nil, List.getElem?_toArray, List.getElem?_cons_succ, List.getElem?_cons_zero]
    generalize (Value.func (.func 104) #[] #[.pointer (some ⟨wx.heap.size, 0, none⟩), .pointer (some ⟨wx.heap.size + 1, 0, none⟩)]) = cv at *
    have hm9 := ownsMap_below HM3.out H9.out
    refine wpList_mapUpdate_own _ rfl _ _ _ 92 rfl 3 59 keyI Tryz.underlying92 Rv w.heap.size (k + 1) _ rfl hm9 (by unfold maxLen; omega) _ _ (.int .i64 n1) rfl rfl (keyOf_int_mk Tryz.underlying3 hwf.out) (.held cv) [] rfl ?_
    intro w8 hown8 hgrow8
    go_wp2_with fail
    refine NoPanic.normal ?_
    have HF8 := Lib.hid (show FtAt (k + 1) w8 w.heap.size from by
     refine ⟨fun j => if j = k then cv else vs j, ?_, fun j hj => ?_⟩
     · show w8.ownsMap _ _ _ _ _ ((ftD k fun j => if j = k then cv else vs j).put (.int .i64 (lkT (3 * k))) (.held (if k = k then cv else vs k)))
       rw [ftD_congr k _ vs (fun j hj => if_neg (by omega)), if_pos rfl, hn1]
       exact hown8
     · by_cases e : j = k
       · subst e
         dsimp only
         rw [if_pos rfl, hn2, hn3]
         exact HC9.out.map hm9 hgrow8
       · dsimp only
         rw [if_neg e]
         exact ((HCL3.out j (by omega)).below H9.out).map hm9 hgrow8)
    have HB8 := Lib.hid (show Below w.heap.size w w8 from (HB3.out.trans (H9.out.mono HB3.out.size)).grown hgrow8 (Nat.le_trans HB3.out.size H9.out.size) (fun k e => by cases e; exact Nat.le_refl _))
    clear hown8 hgrow8 hm9
    go_wp2_with fail
    go_roundw
    case rel => exact ⟨k + 1, HLT.out, by go_num, HF8, HB8⟩
    case measure => have := HLT.out; simp [RowKit.intOf]; omega
  · obtain rfl : k = 6 := by omega
    go_wp2_with fail
    go_ret
    exact ⟨_, rfl, HF.out, HB.out⟩
end Go.Proofs.YtnpfhcnjkekhbaaGreatDoor

namespace Go.Proofs.YtnpfhcnjkekhbaaGreatDoor
open Go Go.Proofs Go.RowKit Go.Lib Go.Maps
def TestAt (W : World) (x : Ev) (v : Value) : Prop := (v = .nilFunc ∧ tstB x = false) ∨ ∃ F lb, v = .func (.func F) #[] lb ∧ (∀ args W, (callFunc F args).run Tryz.prog W = .ok (.enter F args) W) ∧
 ∀ W', Below W.heap.size W W' → Calls Tryz.prog F (#[x.val] ++ lb) W' fun e w' => e = .returned (.bool (tstB x)) ∧ Below W'.heap.size W' w'
theorem held_inj {v u : Value} {ps : List MemPlace} {z : DataW Value} (h : Rv v = some (z, ps)) (hz : z = .held u) : v = u := by
 unfold Rv at h
 injection h with h
 injection h with h1 h2
 rw [hz] at h1
 injection h1
theorem ft_at (vs : Nat → Value) (kd : Int) : (ftD 6 vs).atKey (.int .i64 kd) (.held .nilFunc) =
 .held (if kd = 1 then .func (.func 87) #[] #[] else if kd = 2 then vs 0 else if kd = 3 then vs 1 else if kd = 4 then vs 2 else if kd = 5 then vs 3 else if kd = 6 then vs 4 else if kd = 7 then vs 5 else .nilFunc) := by
 have hD : ftD 6 vs = .map [(.int .i64 1, .held (.func (.func 87) #[] #[])), (.int .i64 2, .held (vs 0)), (.int .i64 3, .held (vs 1)), (.int .i64 4, .held (vs 2)), (.int .i64 5, .held (vs 3)), (.int .i64 6, .held (vs 4)), (.int .i64 7, .held (vs 5))] := by rfl
 rw [hD]
 by_cases h1 : kd = 1
 · subst h1; rfl
 by_cases h2 : kd = 2
 · subst h2; rfl
 by_cases h3 : kd = 3
 · subst h3; rfl
 by_cases h4 : kd = 4
 · subst h4; rfl
 by_cases h5 : kd = 5
 · subst h5; rfl
 by_cases h6 : kd = 6
 · subst h6; rfl
 by_cases h7 : kd = 7
 · subst h7; rfl
 rw [if_neg h1, if_neg h2, if_neg h3, if_neg h4, if_neg h5, if_neg h6, if_neg h7]
 have n1 := Ne.symm h1; have n2 := Ne.symm h2; have n3 := Ne.symm h3; have n4 := Ne.symm h4; have n5 := Ne.symm h5; have n6 := Ne.symm h6; have n7 := Ne.symm h7
 simp [DataW.atKey, Lit.sameKey, n1, n2, n3, n4, n5, n6, n7]
theorem ft_look {W : World} {b : Nat} (h : FtAt 6 W b) (x : Ev) (hk : (Lit.int .i64 x.kd).wf = true) : ∃ v, (Instr.lookup 92 (.map (some b)) (.int .i64 x.kd) false).run Tryz.prog W = .ok v W ∧ TestAt W x v := by
 obtain ⟨vs, hm, hc⟩ := h
 obtain ⟨v, ps, hrun, hv⟩ := hm.lookup (e := 59) keyI Tryz.underlying92 (z := .nilFunc) (by kernel_rfl) (zd := .held .nilFunc) (zp := []) rfl (keyOf_int_mk Tryz.underlying3 hk)
 have e := held_inj hv (ft_at vs x.kd)
 refine ⟨v, hrun, ?_⟩
 subst e
 have lk : ∀ j, j < 6 → ∀ ml mn, lkT (3 * j + 1) = ml → lkT (3 * j + 2) = mn → tstB x = linkB ml mn x → TestAt W x (vs j) := fun j hj ml mn e1 e2 e3 => by
  obtain ⟨A, B, ev, hA, hB⟩ := hc j hj
  rw [e1] at hA
  rw [e2] at hB
  refine .inr ⟨_, _, ev, by intro args W; rfl, fun W' hb => ?_⟩
  rw [e3]
  exact linked1_u x ml mn A B W' ((hb.cell (p := ⟨A, 0, none⟩) (World.block_lt_of_cell? W ⟨A, 0, none⟩ hA)).trans hA) ((hb.cell (p := ⟨B, 0, none⟩) (World.block_lt_of_cell? W ⟨B, 0, none⟩ hB)).trans hB)
 unfold tstB at lk
 by_cases h1 : x.kd = 1
 · rw [if_pos h1]
   refine .inr ⟨_, _, rfl, by intro args W; rfl, fun W' hb => ?_⟩
   have := isBegin_u x W'
   unfold tstB
   rw [if_pos h1]
   exact this
 rw [if_neg h1]
 by_cases h2 : x.kd = 2
 · rw [if_pos h2]; exact lk 0 (by decide) 0 0 rfl rfl (by rw [if_neg h1, if_pos h2])
 rw [if_neg h2]
 by_cases h3 : x.kd = 3
 · rw [if_pos h3]; exact lk 1 (by decide) 99 0 rfl rfl (by rw [if_neg h1, if_neg h2, if_pos h3])
 rw [if_neg h3]
 by_cases h4 : x.kd = 4
 · rw [if_pos h4]; exact lk 2 (by decide) 99 0 rfl rfl (by rw [if_neg h1, if_neg h2, if_neg h3, if_pos h4])
 rw [if_neg h4]
 by_cases h5 : x.kd = 5
 · rw [if_pos h5]; exact lk 3 (by decide) 99 99 rfl rfl (by rw [if_neg h1, if_neg h2, if_neg h3, if_neg h4, if_pos h5])
 rw [if_neg h5]
 by_cases h6 : x.kd = 6
 · rw [if_pos h6]; exact lk 4 (by decide) 99 99 rfl rfl (by rw [if_neg h1, if_neg h2, if_neg h3, if_neg h4, if_neg h5, if_pos h6])
 rw [if_neg h6]
 by_cases h7 : x.kd = 7
 · rw [if_pos h7]; exact lk 5 (by decide) 9 0 rfl rfl (by rw [if_neg h1, if_neg h2, if_neg h3, if_neg h4, if_neg h5, if_neg h6, if_pos h7])
 rw [if_neg h7]
 refine .inl ⟨rfl, ?_⟩
 unfold tstB
 rw [if_neg h1, if_neg h2, if_neg h3, if_neg h4, if_neg h5, if_neg h6, if_neg h7]
theorem isEvent_u (x : Ev) (hk : (Lit.int .i64 x.kd).wf = true) (b : Nat) (w : World) (hF : FtAt 6 w b) : Calls Tryz.prog 62 #[x.val, .map (some b)] w fun e w' => e = .returned (.bool (evB x)) ∧ Below w.heap.size w w' := by
 obtain ⟨R, hR⟩ : ∃ R, evB x = R := ⟨_, rfl⟩
 rw [hR]
 obtain ⟨w1, V1, Z1, K1, B1⟩ := lay8 w x.cells 23
 obtain ⟨tv, hl, ht⟩ := ft_look (hF.below B1) x hk
 have HT := Lib.hid ht
 have HZ := Lib.hid B1
 have HR := Lib.hid (show R = (tstB x && basB x) by rw [← hR]; exact evB_tst x)
 have HXV := Lib.hid (show ∀ t : Bool, t = tstB x → t = tstB x from fun _ h => h)
 have hXV := Lib.hid (Ev.val_mk x)
 obtain ⟨ag, sq, tm, kd, tr, sp, lk, gn, op, vr, pe, bt⟩ := x
 have V1 := (show w.alloc (.cells #[.int .i64 ag, .int .i64 sq, .int .i64 tm, .int .i64 kd, .int .i64 tr, .int .i64 sp, .int .i64 lk, .int .i64 gn, .int .i64 op, .int .i64 vr, .int .i64 pe, .int .i64 bt] 23) = w1 from V1)
 have K2 := (show CellsAt w1 w.heap.size [.int .i64 ag, .int .i64 sq, .int .i64 tm, .int .i64 kd, .int .i64 tr, .int .i64 sp, .int .i64 lk, .int .i64 gn, .int .i64 op, .int .i64 vr, .int .i64 pe, .int .i64 bt] from K1)
 dsimp only at hl
 unfold basB at HR
 dsimp only at HR
 have y0 := (K2 0 (by simp)).1
 have y1 := (K2 1 (by simp)).1
 have y2 := (K2 2 (by simp)).1
 have y3 := (K2 3 (by simp)).1
 have y4 := (K2 4 (by simp)).1
 have y5 := (K2 5 (by simp)).1
 have y6 := (K2 6 (by simp)).1
 have y7 := (K2 7 (by simp)).1
 have y8 := (K2 8 (by simp)).1
 have y9 := (K2 9 (by simp)).1
 have y10 := (K2 10 (by simp)).1
 have y11 := (K2 11 (by simp)).1
 simp only [List.getElem_cons_zero, List.getElem_cons_succ] at y0 y1 y2 y3 y4 y5 y6 y7 y8 y9 y10 y11
 have HKB := Lib.hid (show ∀ W, Below w1.heap.size w1 W → EvBox W w.heap.size ⟨ag, sq, tm, kd, tr, sp, lk, gn, op, vr, pe, bt⟩ from fun W b => CellsAt.ev (CellsAt.below K1 b))
 have C1 := Lib.hid (fun W => isIn_u ag 0 5 W)
 generalize inB ag 0 5 = b1 at *
 have C2 := Lib.hid (fun W => isIn_u sq 0 999 W)
 generalize inB sq 0 999 = b2 at *
 have C3 := Lib.hid (fun W => isIn_u tm 0 1000000 W)
 generalize inB tm 0 1000000 = b3 at *
 have C4 := Lib.hid (fun W => isIn_u tr 0 999 W)
 generalize inB tr 0 999 = b4 at *
 have C5 := Lib.hid (fun W => isIn_u sp 0 9 W)
 generalize inB sp 0 9 = b5 at *
 have C6 := Lib.hid (fun W => isIn_u bt 0 1000 W)
 generalize inB bt 0 1000 = b6 at *
 clear hR K1 K2 B1 ht hF HXV hk
 obtain ⟨T, hT⟩ : ∃ T, tstB ⟨ag, sq, tm, kd, tr, sp, lk, gn, op, vr, pe, bt⟩ = T := ⟨_, rfl⟩
 unfold TestAt at HT
 rw [hT] at HR HT
 clear hT
 rw [hXV.out] at HT ⊢
 rcases HT.out with ⟨rfl, hf⟩ | ⟨F, lb, rfl, eg, hc⟩
 · clear HT
   have HF := Lib.hid hf
   have hn0 : ∀ W, (binOp BinOp.neq 59 Value.nilFunc Value.nilFunc).run Tryz.prog W = .ok (.bool false) W := fun W => by rfl
   clear hf
   go_enter Tryz.func62, Tryz.ntmps62
   go_wp2_with fail
   go_ret
   exact ⟨by rw [HR.out, HF.out]; rfl, HZ.out⟩
 · clear HT
   have HC := Lib.hid hc
   have hn1 : ∀ W, (binOp BinOp.neq 59 (Value.func (.func F) #[] lb) Value.nilFunc).run Tryz.prog W = .ok (.bool true) W := fun W => by rfl
   clear hc
   cases T with
   | false =>
    go_enter Tryz.func62, Tryz.ntmps62
    go_wp2_with (first | ((with_reducible refine (HC.out _ (Below.refl _ _)).mono ?_); rintro e z ⟨rfl, hz⟩; replace HZ := Lib.hid (HZ.out.trans (hz.mono HZ.out.size)); clear y0 y1 y2 y3 y4 y5 y6 y7 y8 y9 y10 y11; obtain ⟨y0, y1, y2, y3, y4, y5, y6, y7, y8, y9, y10, y11⟩ := HKB.out _ hz; clear hz) | (go_at_call 86; (first | (with_reducible refine (C1.out _).mono ?_) | (with_reducible refine (C2.out _).mono ?_) | (with_reducible refine (C3.out _).mono ?_) | (with_reducible refine (C4.out _).mono ?_) | (with_reducible refine (C5.out _).mono ?_) | (with_reducible refine (C6.out _).mono ?_)); rintro e z ⟨rfl, rfl⟩))
    go_ret
    exact ⟨by rw [HR.out]; simp, HZ.out⟩
   | true =>
    cases b1 with
    | false =>
     go_enter Tryz.func62, Tryz.ntmps62
     go_wp2_with (first | ((with_reducible refine (HC.out _ (Below.refl _ _)).mono ?_); rintro e z ⟨rfl, hz⟩; replace HZ := Lib.hid (HZ.out.trans (hz.mono HZ.out.size)); clear y0 y1 y2 y3 y4 y5 y6 y7 y8 y9 y10 y11; obtain ⟨y0, y1, y2, y3, y4, y5, y6, y7, y8, y9, y10, y11⟩ := HKB.out _ hz; clear hz) | (go_at_call 86; (first | (with_reducible refine (C1.out _).mono ?_) | (with_reducible refine (C2.out _).mono ?_) | (with_reducible refine (C3.out _).mono ?_) | (with_reducible refine (C4.out _).mono ?_) | (with_reducible refine (C5.out _).mono ?_) | (with_reducible refine (C6.out _).mono ?_)); rintro e z ⟨rfl, rfl⟩))
     go_ret
     exact ⟨by rw [HR.out]; simp, HZ.out⟩
    | true =>
     cases b2 with
     | false =>
      go_enter Tryz.func62, Tryz.ntmps62
      go_wp2_with (first | ((with_reducible refine (HC.out _ (Below.refl _ _)).mono ?_); rintro e z ⟨rfl, hz⟩; replace HZ := Lib.hid (HZ.out.trans (hz.mono HZ.out.size)); clear y0 y1 y2 y3 y4 y5 y6 y7 y8 y9 y10 y11; obtain ⟨y0, y1, y2, y3, y4, y5, y6, y7, y8, y9, y10, y11⟩ := HKB.out _ hz; clear hz) | (go_at_call 86; (first | (with_reducible refine (C1.out _).mono ?_) | (with_reducible refine (C2.out _).mono ?_) | (with_reducible refine (C3.out _).mono ?_) | (with_reducible refine (C4.out _).mono ?_) | (with_reducible refine (C5.out _).mono ?_) | (with_reducible refine (C6.out _).mono ?_)); rintro e z ⟨rfl, rfl⟩))
      go_ret
      exact ⟨by rw [HR.out]; simp, HZ.out⟩
     | true =>
      cases b3 with
      | false =>
       go_enter Tryz.func62, Tryz.ntmps62
       go_wp2_with (first | ((with_reducible refine (HC.out _ (Below.refl _ _)).mono ?_); rintro e z ⟨rfl, hz⟩; replace HZ := Lib.hid (HZ.out.trans (hz.mono HZ.out.size)); clear y0 y1 y2 y3 y4 y5 y6 y7 y8 y9 y10 y11; obtain ⟨y0, y1, y2, y3, y4, y5, y6, y7, y8, y9, y10, y11⟩ := HKB.out _ hz; clear hz) | (go_at_call 86; (first | (with_reducible refine (C1.out _).mono ?_) | (with_reducible refine (C2.out _).mono ?_) | (with_reducible refine (C3.out _).mono ?_) | (with_reducible refine (C4.out _).mono ?_) | (with_reducible refine (C5.out _).mono ?_) | (with_reducible refine (C6.out _).mono ?_)); rintro e z ⟨rfl, rfl⟩))
       go_ret
       exact ⟨by rw [HR.out]; simp, HZ.out⟩
      | true =>
       cases b4 with
       | false =>
        go_enter Tryz.func62, Tryz.ntmps62
        go_wp2_with (first | ((with_reducible refine (HC.out _ (Below.refl _ _)).mono ?_); rintro e z ⟨rfl, hz⟩; replace HZ := Lib.hid (HZ.out.trans (hz.mono HZ.out.size)); clear y0 y1 y2 y3 y4 y5 y6 y7 y8 y9 y10 y11; obtain ⟨y0, y1, y2, y3, y4, y5, y6, y7, y8, y9, y10, y11⟩ := HKB.out _ hz; clear hz) | (go_at_call 86; (first | (with_reducible refine (C1.out _).mono ?_) | (with_reducible refine (C2.out _).mono ?_) | (with_reducible refine (C3.out _).mono ?_) | (with_reducible refine (C4.out _).mono ?_) | (with_reducible refine (C5.out _).mono ?_) | (with_reducible refine (C6.out _).mono ?_)); rintro e z ⟨rfl, rfl⟩))
        go_ret
        exact ⟨by rw [HR.out]; simp, HZ.out⟩
       | true =>
        cases b5 with
        | false =>
         go_enter Tryz.func62, Tryz.ntmps62
         go_wp2_with (first | ((with_reducible refine (HC.out _ (Below.refl _ _)).mono ?_); rintro e z ⟨rfl, hz⟩; replace HZ := Lib.hid (HZ.out.trans (hz.mono HZ.out.size)); clear y0 y1 y2 y3 y4 y5 y6 y7 y8 y9 y10 y11; obtain ⟨y0, y1, y2, y3, y4, y5, y6, y7, y8, y9, y10, y11⟩ := HKB.out _ hz; clear hz) | (go_at_call 86; (first | (with_reducible refine (C1.out _).mono ?_) | (with_reducible refine (C2.out _).mono ?_) | (with_reducible refine (C3.out _).mono ?_) | (with_reducible refine (C4.out _).mono ?_) | (with_reducible refine (C5.out _).mono ?_) | (with_reducible refine (C6.out _).mono ?_)); rintro e z ⟨rfl, rfl⟩))
         go_ret
         exact ⟨by rw [HR.out]; simp, HZ.out⟩
        | true =>
         cases b6 with
         | false =>
          go_enter Tryz.func62, Tryz.ntmps62
          go_wp2_with (first | ((with_reducible refine (HC.out _ (Below.refl _ _)).mono ?_); rintro e z ⟨rfl, hz⟩; replace HZ := Lib.hid (HZ.out.trans (hz.mono HZ.out.size)); clear y0 y1 y2 y3 y4 y5 y6 y7 y8 y9 y10 y11; obtain ⟨y0, y1, y2, y3, y4, y5, y6, y7, y8, y9, y10, y11⟩ := HKB.out _ hz; clear hz) | (go_at_call 86; (first | (with_reducible refine (C1.out _).mono ?_) | (with_reducible refine (C2.out _).mono ?_) | (with_reducible refine (C3.out _).mono ?_) | (with_reducible refine (C4.out _).mono ?_) | (with_reducible refine (C5.out _).mono ?_) | (with_reducible refine (C6.out _).mono ?_)); rintro e z ⟨rfl, rfl⟩))
          go_ret
          exact ⟨by rw [HR.out]; simp, HZ.out⟩
         | true =>
          go_enter Tryz.func62, Tryz.ntmps62
          go_wp2_with (first | ((with_reducible refine (HC.out _ (Below.refl _ _)).mono ?_); rintro e z ⟨rfl, hz⟩; replace HZ := Lib.hid (HZ.out.trans (hz.mono HZ.out.size)); clear y0 y1 y2 y3 y4 y5 y6 y7 y8 y9 y10 y11; obtain ⟨y0, y1, y2, y3, y4, y5, y6, y7, y8, y9, y10, y11⟩ := HKB.out _ hz; clear hz) | (go_at_call 86; (first | (with_reducible refine (C1.out _).mono ?_) | (with_reducible refine (C2.out _).mono ?_) | (with_reducible refine (C3.out _).mono ?_) | (with_reducible refine (C4.out _).mono ?_) | (with_reducible refine (C5.out _).mono ?_) | (with_reducible refine (C6.out _).mono ?_)); rintro e z ⟨rfl, rfl⟩))
          go_ret
          exact ⟨by rw [HR.out]; rfl, HZ.out⟩
end Go.Proofs.YtnpfhcnjkekhbaaGreatDoor

namespace Go.Proofs.YtnpfhcnjkekhbaaGreatDoor
open Go Go.Proofs Go.RowKit Go.Lib Go.Maps
def Ev.wf (x : Ev) : Prop := (Lit.int .i64 x.kd).wf = true
def evsW (l : List Ev) : Prop := ∀ x ∈ l, x.wf
theorem event_u (x : Ev) (hk : x.wf) (w : World) (hR : Rdy w) : Calls Tryz.prog 33 #[x.val] w fun e w' => e = .returned (.bool (evB x)) ∧ Below w.heap.size w w' := by
 obtain ⟨w1, V1, Z1, K1, B1⟩ := lay8 w x.cells 23
 have HZ := Lib.hid B1
 have HR1 := Lib.hid (hR.below B1)
 have HKB := Lib.hid (show ∀ W, Below w1.heap.size w1 W → EvBox W w.heap.size x from fun W b => CellsAt.ev (CellsAt.below K1 b))
 have CE := Lib.hid (fun b W h => isEvent_u x hk b W h)
 generalize evB x = R at *
 have hz := B1.size
 clear hR K1 B1 hk
 have hXV := Lib.hid (Ev.val_mk x)
 rw [hXV.out] at CE ⊢
 have V1 := (show w.alloc (.cells #[.int .i64 x.ag, .int .i64 x.sq, .int .i64 x.tm, .int .i64 x.kd, .int .i64 x.tr, .int .i64 x.sp, .int .i64 x.lk, .int .i64 x.gn, .int .i64 x.op, .int .i64 x.vr, .int .i64 x.pe, .int .i64 x.bt] 23) = w1 from V1)
 go_enter Tryz.func33, Tryz.ntmps33
 go_upto_region 1 with fail
 clear V1
 refine wp_region_noPanic ?_
 refine wp_region_Kx (C := NewC w1) [3] 3 #[false, false, false, false] (by kernel_rfl) (by kernel_rfl) (by kernel_rfl) (newC0 _) ?_
 intro wx hwx
 refine wpAnyK_ex (i := 0) rfl (by kernel_rfl) (listed' := #[true, false, false, false]) rfl (fun _ _ _ _ _ h => h) hwx ?_
 apply Exists.intro
 refine ⟨⟨by rfl, fun wy hw => ?_⟩, ?_⟩
 · (have bw := hw.below; obtain ⟨e0, e1, e2, e3, e4, e5, e6, e7, e8, e9, e10, e11⟩ := HKB.out _ bw; go_simp; try (first | (with_reducible rfl) | (with_reducible exact ⟨rfl, rfl⟩)))
 try simp only [Act.put]
 have HX0 := Lib.hid hwx.below
 refine wpAnyK_fork1 1 (by kernel_rfl) ?_
 refine wpOpK_step rfl (by kernel_rfl) (listed' := #[true, true, false, false]) rfl (by rfl) (fun K hK => ?_)
 go_simp
 refine (fieldTests_u _ (HR1.out.below HX0.out)).mono ?_
 rintro e x1 ⟨b, rfl, hF, hb⟩
 have HX1 := Lib.hid (HX0.out.trans (hb.mono HX0.out.size))
 refine hK _ _ HX1.out ?_
 clear hK K
 try simp only [Act.put]
 clear hb
 refine wpAnyK_fork1 2 (by kernel_rfl) ?_
 refine wpOpK_step rfl (by kernel_rfl) (listed' := #[true, true, true, false]) rfl (by rfl) (fun K hK => ?_)
 go_simp
 refine (CE.out b _ hF).mono ?_
 rintro e x2 ⟨rfl, hb⟩
 have HX2 := Lib.hid (HX1.out.trans (hb.mono HX1.out.size))
 refine hK _ _ HX2.out ?_
 clear hK K
 try simp only [Act.put]
 clear hb
 refine wpAnyK_end (by kernel_rfl) ?_
 try simp only [pickOps, List.filterMap_cons, List.filterMap_nil, List.getElem?_toArray, List.getElem?_cons_succ, List.getElem?_cons_zero]
 go_wp2_with fail
 refine NoPanic.normal ?_
 go_wp2_with fail
 go_ret
 exact ⟨rfl, HZ.out.trans (HX2.out.mono hz)⟩
end Go.Proofs.YtnpfhcnjkekhbaaGreatDoor
