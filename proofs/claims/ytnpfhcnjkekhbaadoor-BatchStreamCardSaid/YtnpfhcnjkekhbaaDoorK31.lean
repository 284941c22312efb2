/-
  Layer 9: a part of a stream that Split has returned: its fields, what it is, and what Valid and Follows say of it.
-/
import Derived.Test.YtnpfhcnjkekhbaaDoorProg
import Derived.Test.YtnpfhcnjkekhbaaDoorK25
import Derived.Test.YtnpfhcnjkekhbaaDoorK30
import Derived.Defers
import Derived.Recover
import Derived.Sort.CutIn
import Derived.Shelf.Strings.BuilderK
import Derived.Shelf.Strings.Repeat
import Derived.Maps.Own
import Derived.Maps.OwnOps
import Derived.Laws.Rows
import Derived.Laws.OwnMore
import Derived.OwnWalk
import Derived.WalkKit
import Derived.WalkLawsBesides
import Derived.Outline
import Derived.Lib.Hide
import Derived.Below
import Derived.BigQuiet
import Derived.Deep.QuietTactic
import Derived.Deep.RegionHeld3
import Derived.Lib.QuietBelow
import Derived.Deep.DeepCutAuto
import Derived.StillTail
import Derived.Lib.Varint
import Derived.Lib.SlBytesRow
import Derived.Shelf.Abstract
import Derived.OwnWalkIn
import Derived.TacticsInMore
import Derived.LoopNIn
import Derived.LoopIn
import Derived.RangeFuncNested
import Derived.RangeFuncBound
import Derived.RangeFuncCalls
import Derived.RangeFuncLeaves
import Derived.RangeFuncBox
import Derived.Lib.ConvBytes
import Derived.DefersIn
import Derived.Laws.CopyOwn
import Derived.RegionTactic
import Derived.ChangeAlike
import Derived.Deep.RegionWith
import Derived.Deep.CutRange
import Derived.IntWalk
import Derived.Lib.EndianBits
import Derived.Lib.Strings
import Derived.ControlIn
import Derived.WalkMore
import Derived.Lib.SliceRun
import Derived.RangeFuncRecord
import Derived.Shelf.LaysM
import Derived.Shelf.Strconv.Clone
import Derived.RangeFuncFrom
import Derived.TacticsIn
import Derived.OrdersIn
import Derived.Laws.MakeOwn
import Derived.Laws.StructEq
set_option maxRecDepth 100000
set_option maxHeartbeats 16000000
namespace Go.Proofs.YtnpfhcnjkekhbaaDoor
open Go Go.Proofs Go.RowKit Go.Lib
theorem own_none9 {T : Type} {K : RowK T} {W : World} {base n c : Nat} {l : List T} (h : Own K W base (.slice none n c) l) : c = 0 := by
 rcases h.2 with ⟨hv, _⟩ | ⟨g, cap, cur, hv, _⟩
 · injection hv
 · injection hv with e _ _; cases e
theorem evsW_sub {l m : List Ev} (h : evsW l) (hm : ∀ x ∈ m, x ∈ l) : evsW m := fun x hx => h x (hm x hx)
theorem evP_mem {l : List Ev} {x : List Int} {i : Nat} {e : Ev} (h : e ∈ evP l x i) : e ∈ l := List.mem_of_mem_drop (List.mem_of_mem_take h)
def upK (S : List Ev) (X : List Int) (k : Nat) : List Ev := S.take (endK X k).toNat
def hdK (S : List Ev) (X : List Int) (k : Nat) : ByteArray := chH chainF zz32 (upK S X k)
theorem walk_any8 {T : Type} (K : RowK T) {ops : Array Oper} {o : Oper} {rest : List Oper} {a : Act} {w : World} {Q : Exit → Act → World → Prop}
 (hgd : o.guard = none) (s x : Operand) (hop : o.op = Op.call { callee := Callee.builtin Builtin.append, args := #[s, x], argTypes := #[K.st, K.st] })
 (n : Nat) (v : Value) (l p : List T) (hs : a.eval s = v) (hown : Own K w n v l) (hn : n ≤ w.heap.size) (ad : Option Addr) (c : Nat) (hx : a.eval x = .slice ad p.length c) (hr : RL K w ad p) (hnone : ad = none → c = 0) (hl : l.length + p.length ≤ 100000000)
 (hK : ∀ v' w', Own K w' n v' (l ++ p) → Below n w w' → wpList Tryd.prog ops Q rest (a.put o.dst v') w') : wpList Tryd.prog ops Q (o :: rest) a w := by
 refine wpList_plain hgd fun KK hK' => ?_
 obtain ⟨v', w', hrun, r1, r2, _⟩ := run_append_any8 K w n o.type l p hn ad c hr hnone hl v hown
 unfold Oper.wp
 simp [execOp, hop, resolve, invoke, builtin, hs, hx, hrun, Result.andThen]
 exact hK' _ _ (hK v' w' r1 ((Below.refl _ _).grown r2 hn (fun k hk => (hown.ge k hk).1)))
structure Part9 (w1 : World) (PA : Int) (S : List Ev) (X : List Int) (k : Nat) (hk : k < X.length) (bv : BV) (P : List Ev) : Prop where
 ag : bv.ag = PA
 fs : bv.fs = (((upK S X k).length : Nat) : Int)
 n : bv.n = P.length
 sz : X[k] = ((P.length : Nat) : Int)
 hd : bv.hd = hdK S X (k + 1)
 no : bv.ad = none → bv.c = 0
 rl : ∀ W, Below w1.heap.size w1 W → RL KE W bv.ad P
 pl : P.length ≤ 24
 vd : ∀ W, Below w1.heap.size w1 W → Rdy W → Calls Tryd.prog 12 #[.agg #[.int .i64 bv.ag, .int .i64 bv.fs, .slice bv.ad bv.n bv.c, .int .i64 bv.lw, .string bv.hd]] W fun e w' => e = .returned (.bool true) ∧ Below W.heap.size W w'
 fl : ∀ W, Below w1.heap.size w1 W → Rdy W → Ready W → Calls Tryd.prog 13 #[.string (hdK S X k), .agg #[.int .i64 bv.ag, .int .i64 bv.fs, .slice bv.ad bv.n bv.c, .int .i64 bv.lw, .string bv.hd]] W fun e w' => e = .returned (.bool true) ∧ Below W.heap.size W w'
 tk : upK S X k ++ P = upK S X (k + 1)
 ul : (upK S X k).length ≤ S.length
theorem part9 {n : Nat} {w1 : World} {PA : Int} {S : List Ev} {X Y : List Int} (h : SplOk PA S X Y) (hw : evsW S) (hs : S.length ≤ 1000000) {raws : List PV} (hlr : raws.length = X.length) (ht : Tp9 n S X raws w1) (k : Nat) (hk : k < X.length) :
 Part9 w1 PA S X k hk ((raws[k]'(by rw [hlr]; exact hk)).bv PA X Y) (evP S X k) := by
 obtain ⟨t1, t2, t3⟩ := ht k (by rw [hlr]; exact hk)
 generalize raws[k]'(by rw [hlr]; exact hk) = p at *
 have hl := h.len chainF k hk
 have hl : ((evP S X k).length : Int) = X.getD k 0 := hl
 obtain ⟨e1, e2, e3, e4, e5⟩ := h.ends k hk
 have hn : (X.getD k 0).toNat = (evP S X k).length := by omega
 have hb : btB (partE chainF PA S X Y k) = true := h.bt chainF_size k hk
 have hg : X[k] = X.getD k 0 := by rw [List.getD_eq_getElem?_getD, List.getElem?_eq_getElem hk]; rfl
 have hrl : ∀ W, Below w1.heap.size w1 W → RL KE W p.ad (evP S X k) := fun W b => rl_own8 (t3.below b (Nat.le_refl _))
 have hwp : evsW (evP S X k) := evsW_sub hw fun x hx => evP_mem hx
 have hlm : (evP S X k).length ≤ maxLen := by unfold maxLen; omega
 have hbv : p.bv PA X Y = ⟨PA, endK X k, p.ad, (evP S X k).length, p.c, Y.getD k 0, chH chainF zz32 (S.take (endK X (k + 1)).toNat)⟩ := by
  unfold PV.bv
  rw [t1, t2, hn]
 rw [hbv]
 refine ⟨rfl, ?_, rfl, by rw [hg]; exact hl.symm, rfl, fun hno => ?_, hrl, by omega, fun W b hR => ?_, fun W b hR hD => ?_, h.take chainF k hk, by unfold upK; rw [List.length_take]; omega⟩
 · show endK X k = _
   unfold upK
   rw [List.length_take]
   omega
 · have hno : p.ad = none := hno
   rw [hno] at t3
   exact own_none9 t3
 · have := validB_u (partE chainF PA S X Y k) p.ad p.c hlm hwp W hR (hrl W b)
   rw [hb] at this
   exact this
 · have := follows9_u (chH chainF zz32 (S.take (endK X k).toNat)) (partE chainF PA S X Y k) p.ad p.c hlm hwp W hR hD (hrl W b)
   have hf : folB9 (chH chainF zz32 (S.take (endK X k).toNat)) (partE chainF PA S X Y k) = true := by
    unfold folB9
    rw [hb, decide_eq_true (chH_size chainF_size zz32_size _), decide_eq_true (h.head chainF k hk).symm]
    rfl
   rw [hf] at this
   exact this
theorem spl_parts9 {w w' : World} {PA : Int} {S : List Ev} {X Y : List Int} {e : Ending} (hok : SplOk PA S X Y) (hw : evsW S) (hs : S.length ≤ 1000000) (h : SplPost w PA S X Y e w') :
 ∃ pad pc, e = .returned (.tuple #[.slice pad X.length pc, .int .i64 0]) ∧ Below w.heap.size w w' ∧
  ∀ k (hk : k < X.length), ∃ B o bv, pad = some ⟨B, o, none⟩ ∧ B < w'.heap.size ∧ Part9 w' PA S X k hk bv (evP S X k) ∧ ∀ W, Below w'.heap.size w' W → BtAt W B (o + 5 * k) bv.ag bv.fs bv.ad bv.n bv.c bv.lw bv.hd := by
 obtain ⟨hb, ⟨h1, rfl⟩ | ⟨_, sad, sc, raws, rfl, _, hlr, hrn, ht⟩⟩ := h
 · rw [(splB_iff _ _ _ _).2 hok] at h1; cases h1
 · refine ⟨sad, sc, rfl, hb, fun k hk => ?_⟩
   obtain ⟨B, o, hs2, hB, hc⟩ := hrn.rl.bv9 k (by rw [List.length_map, hlr]; exact hk)
   refine ⟨B, o, (raws[k]'(by rw [hlr]; exact hk)).bv PA X Y, hs2, hB, part9 hok hw hs hlr ht k hk, fun W hW => ?_⟩
   have := hc W hW
   rw [List.getElem_map] at this
   exact this
structure Str9 (PA : Int) (S : List Ev) (X L O : List Int) : Prop where
 sl : S.length ≤ 20
 ew : evsW S
 ev : S.all evB = true
 tr : ∀ e ∈ S, 0 ≤ e.tr ∧ e.tr ≤ 999
 xl : X.length ≤ 13
 xb : ∀ v ∈ X, 0 ≤ v ∧ v ≤ 24
 ll : L.length = X.length
 sp : SplOk PA S X L
 ol : O.length ≤ 13
 so : SplOk PA S O (List.replicate O.length 0)
theorem str9 (ag : Int) (l : List S6) (c shy o : List Int) : Str9 (pick8 ag 6) (strL ag l) (cutL (strN l) c) (lowL (strL ag l) (cutL (strN l) c) shy) (cutL (strN l) o) where
 sl := by rw [strL_len]; exact strN_le l
 ew := fun x hx => evB_wf9 (numB_ev (strL_num ag l) x hx)
 ev := List.all_eq_true.2 (numB_ev (strL_num ag l))
 tr := fun e he => (by
  have := evB_of (numB_ev (strL_num ag l) e he)
  have := this.2.2.2.1
  omega)
 xl := cutL_len _ c
 xb := cutL_bd (by omega) (by have := strN_le l; omega) c
 ll := lowL_len _ _ _
 sp := splOk_low ag l c shy
 ol := cutL_len _ o
 so := splOk_zero ag l o
theorem Str9.x0 {PA : Int} {S : List Ev} {X L O : List Int} (h : Str9 PA S X L O) : upK S X X.length = S := h.sp.all
theorem Str9.x1 {PA : Int} {S : List Ev} {X L O : List Int} (h : Str9 PA S X L O) : hdK S X X.length = chH chainF zz32 S := by unfold hdK; rw [h.x0]
theorem Str9.o0 {PA : Int} {S : List Ev} {X L O : List Int} (h : Str9 PA S X L O) (k : Nat) (hk : k + 1 = O.length) : hdK S O (k + 1) = chH chainF zz32 S := by rw [hk]; unfold hdK; rw [show upK S O O.length = S from h.so.all]
theorem Str9.nil {PA : Int} {S : List Ev} {X L O : List Int} (h : Str9 PA S X L O) (h0 : O.length = 0) : S = [] := by
 have := h.so.xs
 have e : O = [] := List.length_eq_zero_iff.1 h0
 rw [e] at this
 have : S.length = 0 := by simp at this; omega
 exact List.length_eq_zero_iff.1 this
theorem Str9.chain {PA : Int} {S : List Ev} {X L O : List Int} (h : Str9 PA S X L O) : chainV zz32 S = chH chainF zz32 S ∧ chainN zz32 S = 0 := by
 unfold chainV chainN
 have e : zz32.size = 32 ∧ S.all evB = true := ⟨zz32_size, h.ev⟩
 rw [if_pos e, if_pos e]
 exact ⟨rfl, rfl⟩
theorem made_int9 (n : Nat) : madeCells (Value.int .i64 0).cells (n * 1) = (KI.vs (List.replicate n 0)).toArray := by
 apply Array.ext
 · rw [size_madeCells]; simp [KI.vs_length]; exact (Nat.mul_one n).symm
 · intro i h1 h2
   have hi : i < (List.replicate n (0 : Int)).length := by rw [size_madeCells] at h1; simpa using h1
   have := KI.vs_get (List.replicate n (0 : Int)) i 0 hi (by decide)
   rw [show KI.n * i + 0 = i by show 1 * i + 0 = i; omega, List.getElem_replicate] at this
   have h3 : (KI.vs (List.replicate n (0 : Int)))[i]? = some (.int .i64 0) := this
   rw [List.getElem?_eq_some_iff] at h3
   obtain ⟨_, h3⟩ := h3
   simp [madeCells, Value.cells, Nat.mod_one, h3]
theorem make_int9 (n : Nat) (hn : n ≤ 1000000) (W : World) :
 (Instr.makeSlice 23 (.int .i64 (n : Int)) (.int .i64 (n : Int))).run Tryd.prog W = .ok (.slice (some ⟨W.heap.size, 0, none⟩) n n) (W.alloc (.cells (KI.vs (List.replicate n 0)).toArray 3)) := by
 obtain ⟨i0, hi, hz0, hz1, hz2⟩ := info_parts KI.info
 have h := run_make (P := Tryd.prog) W 23 3 i0 (.int .i64 0) KI.und hi hz0 .i64 .i64 (n : Int) (n : Int) (by omega) (by omega) (by rw [hz2]; show ((8 : Nat) : Int) * (n : Int) ≤ 281474976710656; omega) (by omega)
 rw [hz1, Int.toNat_natCast] at h
 rw [show KI.n = 1 from rfl, made_int9] at h
 exact h
end Go.Proofs.YtnpfhcnjkekhbaaDoor
