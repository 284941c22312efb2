/-
  Layer 8, the program: pairs, its iterator; a loop over a function whose rounds make rows of their own. Layer 8, the program: constraints. Layer 8: which agents are believed: a set of agents against the mask of two events, plain. Layer 8, the program: agree, areTimesOf. Layer 8: the program's constraints are the chapter's, and times agree exactly if they break none: plain.
-/
import Derived.Test.YtamefmojocegkaaDoorProg
import Derived.Test.YtamefmojocegkaaDoorK03
import Derived.Test.YtamefmojocegkaaDoorK06
import Derived.RangeFuncNested
import Derived.RangeFuncBound
import Derived.RangeFuncCalls
import Derived.RangeFuncLeaves
import Derived.RangeFuncFrom
import Derived.RangeFuncRecord
import Derived.OwnWalkIn
import Derived.TacticsInMore
import Derived.LoopNIn
import Derived.LoopIn
import Derived.Maps.Own
import Derived.Maps.OwnOps
import Derived.Laws.Rows
import Derived.Laws.OwnMore
import Derived.OwnWalk
import Derived.WalkKit
import Derived.WalkLawsBesides
import Derived.Outline
import Derived.Lib.Hide
import Derived.Below
import Derived.BigQuiet
import Derived.Deep.QuietTactic
import Derived.Deep.RegionHeld3
import Derived.Lib.QuietBelow
import Derived.Deep.DeepCutAuto
import Derived.StillTail
import Derived.TacticsIn
import Derived.OrdersIn
import Derived.Laws.Bits128
import Derived.Laws.StructEq
set_option maxRecDepth 100000
set_option maxHeartbeats 16000000
namespace Go.Proofs.YtamefmojocegkaaDoor
open Go Go.Proofs Go.RowKit Go.Lib
attribute [local go_sem] Oper.semAt_some
theorem rangeFunc_over8 {P : Program} {n : Nat} {g : Operand} {ps : Array Tmp} {assign body : Code} {Q : Exit → Act → World → Prop} {a : Act} {w : World}
 {gf : Nat} {lb : Array Value} (hg : a.eval g = .func (.func gf) #[] lb) (eg : ∀ args w, (callFunc gf args).run P w = .ok (.enter gf args) w)
 {α : Type} (encs : α → Array Value) (hps : ∀ x, (encs x).size = ps.size) (xs : List α)
 (Mine : Nat → Prop) (hMine : ∀ k, Mine k → k < w.heap.size)
 (hseq : ∀ (l : Nat) (J : List α → World → Prop) (W : World),
  (∀ s A b v, Mine b → J s A → J s (A.setCell ⟨b, 0, none⟩ v)) →
  (∀ pre x A, J pre A → (pre ++ [x]) <+: xs → YieldAt Fence.wide (n - 1 - 1) P l (encs x) A fun e A' =>
   e = .returned (.bool true) ∧ J (pre ++ [x]) A' ∧ ∀ k, Mine k → A'.heap[k]? = A.heap[k]?) →
  J [] W → (∀ k, k < w.heap.size → W.heap[k]? = w.heap[k]?) →
  CallsIn Fence.wide (n - 1) P gf (#[.func (.yield l) #[] #[]] ++ lb) W fun e W' => (∃ v, e = .returned v) ∧ J xs W')
 (I : List α → World → Prop)
 (hIset : ∀ s A b v, Mine b → I s A → I s (A.setCell ⟨b, 0, none⟩ v))
 (hIput : ∀ s A o, w.heap.size + 1 < A.heap.size → I s A → I s (A.putObj (w.heap.size + 1) o))
 (hI0 : ∀ o o', I [] ((w.alloc o).alloc o'))
 (a₁ : α → Act)
 (hassign : ∀ (l : Nat) (x : α) (W : World) (K : Act → World → Prop), K (a₁ x) W →
  assign.wpIn (Fence.wide.inRound l) (n - 1 - 1) P (Exit.then K (fun _ _ _ => False)) { tmps := (ps.zip (encs x)).foldl (fun t (p, v) => t.setIfInBounds p v) a.tmps, defers := [] } W)
 (hbody : ∀ (l : Nat) (pre : List α) (x : α) (W : World), I pre W → (pre ++ [x]) <+: xs →
  body.wpIn (Fence.wide.inRound l) (n - 1 - 1) P (Exit.then (fun _ W' => (∀ k, (Mine k ∨ k = w.heap.size ∨ k = w.heap.size + 1) → W'.heap[k]? = W.heap[k]?) ∧ I (pre ++ [x]) W') (fun _ _ _ => False)) (a₁ x) W)
 (hdone : ∀ W, I xs W → W.heap[w.heap.size]? = some (.deferred (some [])) →
  Q .normal { a with defers := { target := .collected w.heap.size, args := #[] } :: a.defers } W) :
 (Code.rangeFunc g ps assign body).wpIn Fence.wide n P Q a w := by
 refine wpIn_rangeFunc ?_
 intro fn hfn
 obtain ⟨rec, hrec⟩ : ∃ rec : LoopState → Option Code → Loop, rec = fun st pe => { state := st, pending := pe, fn, tmps := a.tmps, params := ps, assign, body, defers := w.heap.size } := ⟨_, rfl⟩
 obtain ⟨W1, hW1⟩ : ∃ W1, (w.alloc (.deferred (some []))).alloc (.loop (rec .ready none)) = W1 := ⟨_, rfl⟩
 have hL1 : W1.heap[w.heap.size + 1]? = some (.loop (rec .ready none)) := by
  rw [← hW1]; have := World.alloc_heap_new (w.alloc (.deferred (some []))) (.loop (rec .ready none)); rwa [World.size_alloc] at this
 have hK1 : W1.heap[w.heap.size]? = some (.deferred (some [])) := by
  rw [← hW1]; exact (Below.heap_alloc _ _ _ (by simp)).trans (World.alloc_heap_new w _)
 have hI1 : I [] W1 := by rw [← hW1]; exact hI0 _ _
 have hold : ∀ k, k < w.heap.size → W1.heap[k]? = w.heap[k]? := by
  intro k hk
  rw [← hW1]
  exact (Below.heap_alloc _ _ _ (by simp; omega)).trans (Below.heap_alloc _ _ _ hk)
 refine ⟨w.heap.size + 1, [{ target := .collected w.heap.size, args := #[] }], W1, { target := .fn (.func gf) lb, args := #[.func (.yield (w.heap.size + 1)) #[] #[]] }, W1, gf,
  #[.func (.yield (w.heap.size + 1)) #[] #[]] ++ lb, W1, ?_, ?_, ?_, ?_, (fun h => by cases h), ?_⟩
 · rw [← hW1, hrec]; exact run_enterLoop_outer _ _ _ _ _
 · simp only [resolve, hg]
   simp [go_sem]
 · intro f' _; trivial
 · simp [invoke, go_sem, eg]
 · refine (hseq (w.heap.size + 1)
    (fun pre W => I pre W ∧ W.heap[w.heap.size + 1]? = some (.loop (rec .ready none)) ∧ W.heap[w.heap.size]? = some (.deferred (some [])))
    W1 ?_ ?_ ⟨hI1, hL1, hK1⟩ hold).mono ?_
   · rintro s A b v hb ⟨hi, hl, hk⟩
     have hlt := hMine b hb
     exact ⟨hIset s A b v hb hi, (Below.heap_setCell A ⟨b, 0, none⟩ v _ (by show _ ≠ b; omega)).trans hl, (Below.heap_setCell A ⟨b, 0, none⟩ v _ (by show _ ≠ b; omega)).trans hk⟩
   · rintro pre x W ⟨hi, hl, hk⟩ hpre
     have hlt : w.heap.size + 1 < W.heap.size := (Array.getElem?_eq_some_iff.1 hl).1
     have hy := run_yield (P := P) (args := encs x) hl (by rw [hrec]; exact hps x)
     rw [hrec] at hy
     refine ⟨fn, _, assign, body, hy, roundIn_of_wpIn hfn (hassign _ x W _ ⟨_, run_beginRound hl (by rw [hrec]), ?_⟩)⟩
     have hl2 : (W.putObj (w.heap.size + 1) (.loop { rec .ready none with state := .busy })).heap[w.heap.size + 1]? = some (.loop { rec .ready none with state := .busy }) := World.putObj_heap_same hlt
     have hk2 : (W.putObj (w.heap.size + 1) (.loop { rec .ready none with state := .busy })).heap[w.heap.size]? = some (.deferred (some [])) := (World.putObj_heap_other (by omega)).trans hk
     refine wpIn_mono (hbody _ pre x _ (hIput _ _ _ hlt hi) hpre) ?_
     rintro e a3 W3 hp
     cases e with
     | normal =>
      obtain ⟨hkeep, hi3⟩ := hp
      have hl3 := (hkeep _ (.inr (.inr rfl))).trans hl2
      have hk3 := (hkeep _ (.inr (.inl rfl))).trans hk2
      have hr := run_endRound (P := P) none hl3
      have hlt3 : w.heap.size + 1 < W3.heap.size := (Array.getElem?_eq_some_iff.1 hl3).1
      refine ⟨_, _, hr, rfl, ⟨hIput _ _ _ hlt3 hi3, ?_, (World.putObj_heap_other (by omega)).trans hk3⟩, ?_⟩
      · rw [World.putObj_heap_same hlt3, hrec]; rfl
      · intro k hm
        have hkl := hMine k hm
        rw [World.putObj_heap_other (by omega), hkeep k (.inl hm), World.putObj_heap_other (by omega)]
     | ret => exact hp.elim
     | exit id => exact hp.elim
     | goto t => exact hp.elim
     | panic ch => exact hp.elim
     | outgrown => exact hp.elim
   · rintro e W2 ⟨⟨v, rfl⟩, hi, hl, hk⟩
     exact ⟨none, _, by have := run_endLoop (P := P) hl (by rw [hrec]; simp); rw [hrec] at this; exact this, hdone _ (hIput _ _ _ (Array.getElem?_eq_some_iff.1 hl).1 hi) ((World.putObj_heap_other (by omega)).trans hk)⟩
def rowP (i j : Nat) : List (Nat × Nat) := (List.range j).flatMap fun b => if i = b then [] else [(i, b)]
def pairK (n i : Nat) : List (Nat × Nat) := (List.range i).flatMap fun a => rowP a n
theorem rowP_step (i j : Nat) : rowP i (j + 1) = rowP i j ++ if i = j then [] else [(i, j)] := by unfold rowP; rw [List.range_succ, List.flatMap_append]; simp
theorem pairK_step (n i : Nat) : pairK n (i + 1) = pairK n i ++ rowP i n := by unfold pairK; rw [List.range_succ, List.flatMap_append]; simp
theorem rowP_pre (i : Nat) : ∀ (n j : Nat), j ≤ n → rowP i j <+: rowP i n
  | 0, j, h => by obtain rfl : j = 0 := by omega
                  exact List.prefix_refl _
  | n + 1, j, h => by
    by_cases e : j = n + 1
    · subst e; exact List.prefix_refl _
    · exact (rowP_pre i n j (by omega)).trans (by rw [rowP_step]; exact List.prefix_append _ _)
theorem pairK_pre (n : Nat) : ∀ (m i : Nat), i ≤ m → pairK n i <+: pairK n m
  | 0, i, h => by obtain rfl : i = 0 := by omega
                  exact List.prefix_refl _
  | m + 1, i, h => by
    by_cases e : i = m + 1
    · subst e; exact List.prefix_refl _
    · exact (pairK_pre n m i (by omega)).trans (by rw [pairK_step]; exact List.prefix_append _ _)
theorem pair_pre {n i j : Nat} (hi : i < n) (hj : j < n) (hij : i ≠ j) : (pairK n i ++ rowP i j ++ [(i, j)]) <+: pairK n n := by
 refine List.IsPrefix.trans ?_ (pairK_pre n n (i + 1) hi)
 rw [pairK_step, List.append_assoc]
 refine (List.prefix_append_right_inj _).2 ?_
 have := rowP_pre i n (j + 1) hj
 rwa [rowP_step, if_neg hij] at this
theorem pairs_u (n : Int) (w : World) : Calls Tryd.prog 65 #[.int .i64 n] w fun e w' => e = .returned (.func (.func 79) #[] #[.pointer (some ⟨w.heap.size, 0, none⟩)]) ∧ w.alloc (.cells #[.int .i64 n] 3) = w' := by
 go_enter Tryd.func65, Tryd.ntmps65
 go_wp2
 go_ret
 exact ⟨rfl, rfl⟩
theorem pairs_seq (m l Bn n : Nat) (hn : n ≤ 1000) (J : List (Nat × Nat) → World → Prop) (W : World) (cn : W.cell? ⟨Bn, 0, none⟩ = some (.int .i64 (n : Int)))
 (hY : ∀ pre x A, J pre A → (pre ++ [x]) <+: pairK n n → YieldAt Fence.wide (m - 1) Tryd.prog l #[.int .i64 (x.1 : Int), .int .i64 (x.2 : Int)] A fun e A' => e = .returned (.bool true) ∧ J (pre ++ [x]) A' ∧ A'.heap[Bn]? = A.heap[Bn]?) (h0 : J [] W) :
 CallsIn Fence.wide m Tryd.prog 79 #[.func (.yield l) #[] #[], .pointer (some ⟨Bn, 0, none⟩)] W fun e W' => (∃ v, e = .returned v) ∧ J (pairK n n) W' := by
 have HY := Lib.hid hY
 have H0 := Lib.hid (show J (pairK n 0) W from h0)
 have HPS := Lib.hid (fun i => pairK_step n i); have HRS := Lib.hid (fun i j => rowP_step i j)
 have HPP := Lib.hid (fun i j (hi : i < n) (hj : j < n) h => pair_pre (n := n) hi hj h)
 have HR0 := Lib.hid (show ∀ i, rowP i 0 = [] from fun _ => rfl)
 clear hY h0
 refine callsIn_of_wp Tryd.func79 rfl trivial ?_ rfl
 simp only [Tryd.ntmps79, List.size_toArray, List.length_cons, List.length_nil, Nat.reduceAdd, Nat.reduceSub, Array.replicate_succ, Array.replicate_zero, List.push_toArray, List.append_toArray, List.nil_append, List.cons_append]
 gi_wp2
 gi_loopw [6] (fun i wr => ∃ k : Nat, k ≤ n ∧ i = .int .i64 k ∧ Hid (J (pairK n k) wr) ∧ wr.cell? ⟨Bn, 0, none⟩ = some (.int .i64 (n : Int))) (fun i _ => n - (RowKit.intOf i).toNat)
 case atStart => exact ⟨0, Nat.zero_le _, rfl, H0, cn⟩
 case round =>
  clear cn H0
  obtain ⟨i, hi, rfl, HJ, hcn⟩ := hrel
  by_cases hlt : i < n
  · have hki : (i : Int) < (n : Int) := by omega
    have HLT := Lib.hid hlt
    clear hlt
    gi_wp2
    gi_loopw [10] (fun j wj => ∃ k : Nat, k ≤ n ∧ j = .int .i64 k ∧ Hid (J (pairK n i ++ rowP i k) wj) ∧ wj.cell? ⟨Bn, 0, none⟩ = some (.int .i64 (n : Int))) (fun j _ => n - (RowKit.intOf j).toNat)
    case atStart => exact ⟨0, Nat.zero_le _, rfl, Lib.hid (by rw [HR0.out, List.append_nil]; exact HJ.out), hcn⟩
    case round =>
     clear hcn HJ
     obtain ⟨j, hj, rfl, HJ, hcn⟩ := hrel
     by_cases hlt2 : j < n
     · have hkj : (j : Int) < (n : Int) := by omega
       have HL2 := Lib.hid hlt2
       clear hlt2
       by_cases hij : i = j
       · subst hij
         have H3 := Lib.hid (show J (pairK n i ++ rowP i (i + 1)) wr from by rw [HRS.out, if_pos rfl, List.append_nil]; exact HJ.out)
         gi_wp2
         refine ⟨fun _ h => (by cases h), ?_⟩
         gi_wp2
         go_roundw
         case rel => exact ⟨i + 1, HL2.out, by go_num, H3, hcn⟩
         case measure => have := HL2.out; simp [RowKit.intOf]; omega
       · have hne : ((i : Int) == (j : Int)) = false := by rw [beq_eq_false_iff_ne]; omega
         have hne2 : ¬ (i : Int) = (j : Int) := by omega
         have hne3 : ((j : Int) == (i : Int)) = false := by rw [beq_eq_false_iff_ne]; omega
         have HE := Lib.hid (show rowP i (j + 1) = rowP i j ++ [(i, j)] from by rw [HRS.out, if_neg hij])
         obtain ⟨fn, tmps, assign, body, hy, hR⟩ := HY.out _ (i, j) wr HJ.out (HPP.out i j HLT.out HL2.out hij)
         have HRR := Lib.hid hR
         dsimp only at hy
         clear hR
         gi_wp2
         refine ⟨(fun h => by cases h), HRR.out.mono ?_⟩
         rintro e W3 ⟨rfl, hJ3, hk3⟩
         have H3 := Lib.hid (show J (pairK n i ++ rowP i (j + 1)) W3 from by rw [HE.out, ← List.append_assoc]; exact hJ3)
         have hcn3 : W3.cell? ⟨Bn, 0, none⟩ = some (.int .i64 (n : Int)) := (World.cell?_of_block (a := ⟨Bn, 0, none⟩) hk3).trans hcn
         clear hk3 hJ3 hy hcn
         gi_wp2
         go_roundw
         case rel => exact ⟨j + 1, HL2.out, by go_num, H3, hcn3⟩
         case measure => have := HL2.out; simp [RowKit.intOf]; omega
     · obtain rfl : j = n := by omega
       have H3 := Lib.hid (show J (pairK j (i + 1)) wr from by rw [HPS.out]; exact HJ.out)
       gi_wp2
       go_roundw
       case rel => exact ⟨i + 1, HLT.out, by go_num, H3, hcn⟩
       case measure => have := HLT.out; simp [RowKit.intOf]; omega
  · obtain rfl : i = n := by omega
    gi_wp2
    go_end0
    exact ⟨⟨_, rfl⟩, HJ.out⟩
end Go.Proofs.YtamefmojocegkaaDoor

namespace Go.Proofs.YtamefmojocegkaaDoor
open Go Go.Proofs Go.RowKit Go.Lib
attribute [local go_sem] Oper.semAt_some
def rowC (s : RSem) (l : List Ev) (i j : Nat) : List C4 :=
 if s.ap (evD l i) (evD l j) = true then ⟨j, i, -(s.lo (evD l i) (evD l j)), mask8 (evD l i) (evD l j)⟩ :: (if s.hi (evD l i) (evD l j) = nB then [] else [⟨i, j, s.hi (evD l i) (evD l j), mask8 (evD l i) (evD l j)⟩]) else []
def conS (ss : List RSem) (l : List Ev) (i j : Nat) : List C4 := ss.flatMap fun s => rowC s l i j
def conU (ss : List RSem) (l : List Ev) (ps : List (Nat × Nat)) : List C4 := ps.flatMap fun p => conS ss l p.1 p.2
def conW (ss : List RSem) (l : List Ev) : List C4 := conU ss l (pairK l.length l.length)
theorem rowC_le (s : RSem) (l : List Ev) (i j : Nat) : (rowC s l i j).length ≤ 2 := by
 unfold rowC
 split
 · split <;> simp
 · simp
theorem conS_le (l : List Ev) (i j : Nat) : ∀ ss : List RSem, (conS ss l i j).length ≤ 2 * ss.length
 | [] => by simp [conS]
 | s :: ss => by
  have h1 := rowC_le s l i j
  have h2 := conS_le l i j ss
  unfold conS at *
  rw [List.flatMap_cons, List.length_append, List.length_cons]
  omega
theorem conU_le (ss : List RSem) (l : List Ev) (hs : ss.length ≤ 8) : ∀ ps : List (Nat × Nat), (conU ss l ps).length ≤ 16 * ps.length
 | [] => by simp [conU]
 | p :: ps => by
  have h1 := conS_le l p.1 p.2 ss
  have h2 := conU_le ss l hs ps
  unfold conU at *
  rw [List.flatMap_cons, List.length_append, List.length_cons]
  omega
theorem conU_snoc (ss : List RSem) (l : List Ev) (ps : List (Nat × Nat)) (p : Nat × Nat) : conU ss l (ps ++ [p]) = conU ss l ps ++ conS ss l p.1 p.2 := by unfold conU; rw [List.flatMap_append]; simp
theorem conS_take (ss : List RSem) (l : List Ev) (i j k : Nat) (hk : k < ss.length) : conS (ss.take (k + 1)) l i j = conS (ss.take k) l i j ++ rowC ss[k] l i j := by
 unfold conS
 rw [List.take_succ_eq_append_getElem hk, List.flatMap_append]
 simp
theorem rowP_le (i : Nat) : ∀ j, (rowP i j).length ≤ j
 | 0 => by simp [rowP]
 | j + 1 => by
  have := rowP_le i j
  rw [rowP_step, List.length_append]
  split <;> simp <;> omega
theorem pairK_le (n : Nat) : ∀ i, (pairK n i).length ≤ n * i
 | 0 => by simp [pairK]
 | i + 1 => by
  have h1 := pairK_le n i
  have h2 := rowP_le i n
  rw [pairK_step, List.length_append, Nat.mul_add, Nat.mul_one]
  omega
theorem mem_pairK {n : Nat} {p : Nat × Nat} (h : p ∈ pairK n n) : p.1 < n ∧ p.2 < n := by
 unfold pairK rowP at h
 simp only [List.mem_flatMap, List.mem_range] at h
 obtain ⟨a, ha, b, hb, h⟩ := h
 split at h
 · cases h
 · obtain rfl : p = (a, b) := by simpa using h
   exact ⟨ha, hb⟩
theorem or_mask {x y : Int} (x0 : 0 ≤ x) (x1 : x ≤ 5) (y0 : 0 ≤ y) (y1 : y ≤ 5) : bits .or .i64 ((2 : Int) ^ x.toNat) ((2 : Int) ^ y.toNat) = if x = y then (2 : Int) ^ x.toNat else (2 : Int) ^ x.toNat + (2 : Int) ^ y.toNat := by
 have hx : x = 0 ∨ x = 1 ∨ x = 2 ∨ x = 3 ∨ x = 4 ∨ x = 5 := by omega
 have hy : y = 0 ∨ y = 1 ∨ y = 2 ∨ y = 3 ∨ y = 4 ∨ y = 5 := by omega
 rcases hx with rfl | rfl | rfl | rfl | rfl | rfl <;> rcases hy with rfl | rfl | rfl | rfl | rfl | rfl <;> decide
structure CsI (w : World) (B : Nat) (vl vr : Value) (L : List C4) (W : World) : Prop where
 bl : Below w.heap.size w W
 b0 : W.cell? ⟨B, 0, none⟩ = some vl
 b1 : W.cell? ⟨B + 1, 0, none⟩ = some vr
 row : ∃ v, W.cell? ⟨B + 2, 0, none⟩ = some v ∧ W.frozen? ⟨B + 2, 0, none⟩ = false ∧ Own KC W (B + 6) v L
 size : B + 6 ≤ W.heap.size
theorem ownBlock_ge {W : World} {n : Nat} {v : Value} {L : List C4} (h : Own KC W n v L) {k : Nat} (hk : k < n) : v.ownBlock = none ∨ v.ownBlock ≠ some k := by
 by_cases e : v.ownBlock = some k
 · have := (h.ge k e).1; omega
 · exact .inr e
theorem CsI.keep {w W W' : World} {B : Nat} {vl vr : Value} {L : List C4} {k : Nat} (h : CsI w B vl vr L W) (hB : B = w.heap.size) (hk : k = B + 3 ∨ k = B + 5) (g : W.grownBy W' (some k)) : CsI w B vl vr L W' := by
 have hs := h.size
 obtain ⟨v, r1, r2, r3⟩ := h.row
 have ne : ∀ i, i < B + 3 → some i ≠ some k := fun i hi e => by injection e with e; omega
 refine ⟨h.bl.grown g (Nat.le_trans (by omega) hs) (fun j e => by injection e with e; omega), (World.cell?_of_block (a := ⟨B, 0, none⟩) (g.block B (by omega) (ne _ (by omega)))).trans h.b0, (World.cell?_of_block (a := ⟨B + 1, 0, none⟩) (g.block (B + 1) (by omega) (ne _ (by omega)))).trans h.b1,
  ⟨v, (World.cell?_of_block (a := ⟨B + 2, 0, none⟩) (g.block (B + 2) (by omega) (ne _ (by omega)))).trans r1, (World.frozen?_of_block (a := ⟨B + 2, 0, none⟩) (g.block (B + 2) (by omega) (ne _ (by omega)))).trans r2, r3.kept g (ownBlock_ge r3 (by omega))⟩, Nat.le_trans hs g.size⟩
theorem CsI.upto {w W W' : World} {B : Nat} {vl vr : Value} {L : List C4} (h : CsI w B vl vr L W) (b : Below W.heap.size W W') : CsI w B vl vr L W' := by
 have hs := h.size
 obtain ⟨v, r1, r2, r3⟩ := h.row
 refine ⟨h.bl.trans (b.mono h.bl.size), (b.cell (p := ⟨B, 0, none⟩) (by show B < _; omega)).trans h.b0, (b.cell (p := ⟨B + 1, 0, none⟩) (by show B + 1 < _; omega)).trans h.b1,
  ⟨v, (b.cell (p := ⟨B + 2, 0, none⟩) (by show B + 2 < _; omega)).trans r1, (b.frozen (p := ⟨B + 2, 0, none⟩) (by show B + 2 < _; omega)).trans r2, r3.kept (row := none) ⟨b.os, b.tape, b.output, b.size, fun i hi _ => b.block i hi⟩ (by cases h : v.ownBlock <;> simp)⟩, Nat.le_trans hs b.size⟩
theorem run_store_func8 {P : Program} {w : World} {a : Addr} {m : Mode} (f : Fn) (r b : Array Value) : (store a (.func f r b) m).run P w = stored P w a (.func f r b) m := run_store P w a _ m rfl
theorem at_rl8 (g o n c k : Nat) (hk : k < n) (w : World) : (Instr.indexAt 82 (.slice (some ⟨g, o, none⟩) n c) (.int .i64 (k : Int))).run Tryd.prog w = .ok (.pointer (some ⟨g, o + 2 * k, none⟩)) w := KR.at_ g o n c k hk w
theorem RN.grown {T : Type} {K : RowK T} {W W' : World} {base k : Nat} {ad : Option Addr} {l : List T} (h : RN K W base ad l) (g : W.grownBy W' (some k)) (hk : k < base) : RN K W' base ad l := by
 rcases h with h | ⟨b, o, h1, h2, h3, h4⟩
 · exact .inl h
 · exact .inr ⟨b, o, h1, h2, Nat.lt_of_lt_of_le h3 g.size, fun i hi j hj => (World.cell?_of_block (a := ⟨b, o + K.n * i + j, none⟩) (g.block b h3 (fun e => by injection e with e; omega))).trans (h4 i hi j hj)⟩
theorem CsI.push {w wd we W' : World} {B : Nat} {vl vr v' : Value} {L : List C4} {y : C4} (h : CsI w B vl vr L wd) (hB : B = w.heap.size) (hw : Below wd.heap.size wd we) (ho : Own KC W' (B + 6) v' (L ++ [y])) (hb : Below (B + 6) we W') : CsI w B vl vr (L ++ [y]) (W'.setCell ⟨B + 2, 0, none⟩ v') := by
 have h2 := h.upto hw
 have hs := h2.size
 obtain ⟨v, r1, r2, _⟩ := h2.row
 have c2 := (hb.cell (p := ⟨B + 2, 0, none⟩) (by show B + 2 < _; omega)).trans r1
 refine ⟨(h2.bl.trans (hb.mono (by omega))).setCell (p := ⟨B + 2, 0, none⟩) (by show _ ≤ B + 2; omega) _, ?_, ?_, ⟨v', World.cell?_setCell_same _ _ _ c2, ?_, ho.far (fun e => by have := (ho.ge _ e).1; omega)⟩, ?_⟩
 · rw [World.cell?_setCell_other _ _ _ _ (by intro e; injection e with e1; omega)]
   exact (hb.cell (p := ⟨B, 0, none⟩) (by show B < _; omega)).trans h2.b0
 · rw [World.cell?_setCell_other _ _ _ _ (by intro e; injection e with e1; omega)]
   exact (hb.cell (p := ⟨B + 1, 0, none⟩) (by show B + 1 < _; omega)).trans h2.b1
 · have := (hb.frozen (p := ⟨B + 2, 0, none⟩) (by show B + 2 < _; omega)).trans r2
   simp [this]
 · have := hb.size
   simp
   omega
def KpB (B : Nat) (W W' : World) : Prop := ∀ q, B + 3 ≤ q → q < B + 6 → W'.heap[q]? = W.heap[q]?
theorem KpB.upto {B : Nat} {W A A' : World} (h : KpB B W A) (hs : B + 6 ≤ A.heap.size) (b : Below A.heap.size A A') : KpB B W A' := fun q h1 h2 => (b.block q (by omega)).trans (h q h1 h2)
theorem KpB.push {B : Nat} {W A A' A'' : World} {v : Value} (h : KpB B W A) (hs : B + 6 ≤ A.heap.size) (b : Below A.heap.size A A') (b2 : Below (B + 6) A' A'') : KpB B W (A''.setCell ⟨B + 2, 0, none⟩ v) := fun q h1 h2 =>
 (Below.heap_setCell A'' ⟨B + 2, 0, none⟩ v q (by show q ≠ B + 2; omega)).trans ((b2.block q h2).trans ((b.block q (by omega)).trans (h q h1 h2)))
end Go.Proofs.YtamefmojocegkaaDoor

namespace Go.Proofs.YtamefmojocegkaaDoor
open Go Go.Proofs Go.RowKit Go.Lib
def bitM (m : Int) (p : Nat) : Bool := decide (m / 2 ^ p % 2 = 1)
theorem six_nat {p : Nat} (h : p ≤ 5) : p = 0 ∨ p = 1 ∨ p = 2 ∨ p = 3 ∨ p = 4 ∨ p = 5 := by omega
theorem lsb_bit (m : Int) {p : Nat} (hp : p ≤ 5) : (BitVec.ofInt 64 m).getLsbD p = bitM m p := by
 unfold BitVec.getLsbD bitM
 rw [BitVec.toNat_ofInt, Nat.testBit_eq_decide_div_mod_eq]
 rcases six_nat hp with rfl | rfl | rfl | rfl | rfl | rfl <;> (apply decide_eq_decide.2; omega)
theorem i64_and1 (n : Int) : bits .and .i64 n 1 = n % 2 := by
 have h1 : (BitVec.ofInt 64 1).toNat = 2 ^ 1 - 1 := by decide
 have key : (BitVec.ofInt 64 n &&& BitVec.ofInt 64 1).toNat = (n % ((2 ^ 64 : Nat) : Int)).toNat % 2 ^ 1 := by
  rw [BitVec.toNat_and, BitVec.toNat_ofInt, h1, Nat.and_two_pow_sub_one_eq_mod]
 show IntKind.i64.wrap ((BitVec.ofInt 64 n &&& BitVec.ofInt 64 1).toNat : Nat) = n % 2
 rw [key, IntKind.wrap_i64]
 omega
theorem bel_bit (m : Int) (p : Nat) : belB m (p : Int) = bitM m p := by
 unfold belB bitM
 rw [i64_and1, Int.toNat_natCast]
 have : m / 2 ^ p % 2 = 0 ∨ m / 2 ^ p % 2 = 1 := by omega
 rcases this with h | h <;> simp [h]
def maskN (p q : Nat) : Int := if p = q then (2 : Int) ^ p else (2 : Int) ^ p + (2 : Int) ^ q
theorem mask_lsb {p q : Nat} (hp : p ≤ 5) (hq : q ≤ 5) : ∀ i : Fin 64, (BitVec.ofInt 64 (maskN p q)).getLsbD i = (i.val == p || i.val == q) := by
 rcases six_nat hp with rfl | rfl | rfl | rfl | rfl | rfl <;> rcases six_nat hq with rfl | rfl | rfl | rfl | rfl | rfl <;> decide +kernel
theorem wrap_zero (t : Nat) (h : t < 2 ^ 64) : (IntKind.i64.wrap (t : Int) == 0) = (t == 0) := by
 rw [IntKind.wrap_i64, Bool.eq_iff_iff]
 simp only [beq_iff_eq]
 omega
theorem andNot_mask (m : Int) {p q : Nat} (hp : p ≤ 5) (hq : q ≤ 5) : (bits .andNot .i64 (maskN p q) m == 0) = (bitM m p && bitM m q) := by
 show (IntKind.i64.wrap ((BitVec.ofInt 64 (maskN p q) &&& ~~~BitVec.ofInt 64 m).toNat : Nat) == 0) = _
 rw [wrap_zero _ (BitVec.isLt _), ← lsb_bit m hp, ← lsb_bit m hq, Bool.eq_iff_iff, beq_iff_eq]
 have hK := mask_lsb hp hq
 generalize BitVec.ofInt 64 (maskN p q) = K at *
 generalize BitVec.ofInt 64 m = M at *
 constructor
 · intro h
   have h0 : K &&& ~~~M = 0#64 := by rw [← BitVec.toNat_inj]; exact h
   have at_ : ∀ i : Nat, i ≤ 5 → K.getLsbD i = true → M.getLsbD i = true := fun i hi hk => by
    have := congrArg (fun v => BitVec.getLsbD v i) h0
    simp [hk] at this
    exact this (by omega)
   rw [Bool.and_eq_true]
   exact ⟨at_ p hp (by rw [hK ⟨p, by omega⟩]; simp), at_ q hq (by rw [hK ⟨q, by omega⟩]; simp)⟩
 · intro h
   rw [Bool.and_eq_true] at h
   have h0 : K &&& ~~~M = 0#64 := by
    apply BitVec.eq_of_getLsbD_eq
    intro i hi
    simp only [BitVec.getLsbD_and, BitVec.getLsbD_not, BitVec.getLsbD_zero]
    rw [hK ⟨i, hi⟩]
    by_cases e1 : i = p
    · subst e1; simp [h.1]
    · by_cases e2 : i = q
      · subst e2; simp [h.2]
      · simp [e1, e2]
   rw [h0]
   rfl
theorem bel_mask (m : Int) {a b : Ev} (a0 : 0 ≤ a.ag) (a1 : a.ag ≤ 5) (b0 : 0 ≤ b.ag) (b1 : b.ag ≤ 5) : (bits .andNot .i64 (mask8 a b) m == 0) = (belB m a.ag && belB m b.ag) := by
 obtain ⟨p, hp⟩ := Int.eq_ofNat_of_zero_le a0
 obtain ⟨q, hq⟩ := Int.eq_ofNat_of_zero_le b0
 have e : mask8 a b = maskN p q := by
  unfold mask8 maskN
  rw [hp, hq, Int.toNat_natCast, Int.toNat_natCast]
  by_cases h : p = q
  · subst h; simp
  · rw [if_neg (by omega), if_neg h]
 rw [e, andNot_mask m (by omega) (by omega), hp, hq, bel_bit, bel_bit]
end Go.Proofs.YtamefmojocegkaaDoor

namespace Go.Proofs.YtamefmojocegkaaDoor
open Go Go.Proofs Go.RowKit Go.Lib
def brkB (m : Int) (x : List Int) (c : C4) : Bool := (bits .andNot .i64 c.a m == 0) && decide (c.w < xD x c.t.toNat - xD x c.f.toNat)
def C4.okx (c : C4) (n : Nat) : Prop := 0 ≤ c.f ∧ c.f < (n : Int) ∧ 0 ≤ c.t ∧ c.t < (n : Int)
def timB (x : List Int) : Prop := ∀ i, -17592186044416 ≤ xD x i ∧ xD x i ≤ 17592186044416
theorem agree1_u (c : C4) (m : Int) (x : List Int) (adx : Option Addr) (cx : Nat) (A B : Nat) (w : World) (hc : c.okx x.length) (hx : timB x) (hA : w.cell? ⟨A, 0, none⟩ = some (.int .i64 m)) (hB : w.cell? ⟨B, 0, none⟩ = some (.slice adx x.length cx)) (hI : RL KI w adx x) :
 Calls Tryd.prog 76 #[.agg #[.int .i64 c.f, .int .i64 c.t, .int .i64 c.w, .int .i64 c.a], .pointer (some ⟨A, 0, none⟩), .pointer (some ⟨B, 0, none⟩)] w fun e w' => e = .returned (.bool (brkB m x c)) ∧ Below w.heap.size w w' := by
 obtain ⟨f0, f1, t0, t1⟩ := hc
 obtain ⟨q, hq⟩ := Int.eq_ofNat_of_zero_le f0
 obtain ⟨p, hp⟩ := Int.eq_ofNat_of_zero_le t0
 have hql : q < x.length := by omega
 have hpl : p < x.length := by omega
 obtain ⟨eb, eo, rfl, heb, hcc⟩ := hI.ints8 (by omega)
 have hiq := fun W => at_int8 eb eo x.length cx q hql W
 have hip := fun W => at_int8 eb eo x.length cx p hpl W
 obtain ⟨q0, q1⟩ := hx q; obtain ⟨p0, p1⟩ := hx p
 obtain ⟨R, hR⟩ : ∃ R, brkB m x c = R := ⟨_, rfl⟩
 rw [hR]
 have HR := Lib.hid (show R = ((bits .andNot .i64 c.a m == 0) && decide (c.w < xD x p - xD x q)) by rw [← hR]; unfold brkB; rw [hp, hq]; rfl)
 obtain ⟨cf, ct, cw, ca⟩ := c
 dsimp only at *
 subst hq hp
 have cq := hcc q hql; have cp := hcc p hpl
 generalize xD x q = xq at *
 generalize xD x p = xp at *
 have hws : IntKind.i64.wrap (xp - xq) = xp - xq := IntWalk.i64_in _ (by omega)
 obtain ⟨w1, V1, Z1, K1, B1⟩ := lay8 w [.int .i64 (q : Int), .int .i64 (p : Int), .int .i64 cw, .int .i64 ca] 64
 have HZ := Lib.hid B1
 have SX := Lib.hid (show ∀ W, Below w1.heap.size w1 W → W.cell? ⟨w.heap.size, 0, none⟩ = some (.int .i64 (q : Int)) ∧ W.cell? ⟨w.heap.size, 1, none⟩ = some (.int .i64 (p : Int)) ∧ W.cell? ⟨w.heap.size, 2, none⟩ = some (.int .i64 cw) ∧ W.cell? ⟨w.heap.size, 3, none⟩ = some (.int .i64 ca) ∧ W.cell? ⟨A, 0, none⟩ = some (.int .i64 m) ∧ W.cell? ⟨B, 0, none⟩ = some (.slice (some ⟨eb, eo, none⟩) x.length cx) ∧ W.cell? ⟨eb, eo + q, none⟩ = some (.int .i64 xq) ∧ W.cell? ⟨eb, eo + p, none⟩ = some (.int .i64 xp) from fun W b =>
  have bw := B1.trans (b.mono B1.size)
  ⟨(K1.below b 0 (by simp)).1, (K1.below b 1 (by simp)).1, (K1.below b 2 (by simp)).1, (K1.below b 3 (by simp)).1, (bw.cell (p := ⟨A, 0, none⟩) (World.block_lt_of_cell? w ⟨A, 0, none⟩ hA)).trans hA, (bw.cell (p := ⟨B, 0, none⟩) (World.block_lt_of_cell? w ⟨B, 0, none⟩ hB)).trans hB, cq W bw, cp W bw⟩)
 have hz := B1.size
 clear hR hI hcc cq cp K1 B1 hA hB heb hx
 go_enter Tryd.func76, Tryd.ntmps76
 go_upto_region 1 with fail
 clear V1
 cases hb1 : (bits .andNot .i64 ca m == 0) with
 | false =>
  have HF := Lib.hid (show R = false by rw [HR.out, hb1]; rfl)
  clear HR
  go_cut [4] from 4 to 25 (fun xv wx => xv = .bool false ∧ Hid (Below w1.heap.size w1 wx))
  case first =>
   have d0 := fun d os => (SX.out _ (below_regrown w1 d os)).1
   have d1 := fun d os => (SX.out _ (below_regrown w1 d os)).2.1
   have d2 := fun d os => (SX.out _ (below_regrown w1 d os)).2.2.1
   have d3 := fun d os => (SX.out _ (below_regrown w1 d os)).2.2.2.1
   have d4 := fun d os => (SX.out _ (below_regrown w1 d os)).2.2.2.2.1
   have d5 := fun d os => (SX.out _ (below_regrown w1 d os)).2.2.2.2.2.1
   have d6 := fun d os => (SX.out _ (below_regrown w1 d os)).2.2.2.2.2.2.1
   have d7 := fun d os => (SX.out _ (below_regrown w1 d os)).2.2.2.2.2.2.2
   refine wp_region_quiet_below (by kernel_rfl) (by kernel_rfl) ?_
   repeat (first | go_big_quiet_step (fail) | quiet_step (fail))
   refine wpQuiet_nil ?_
   intro _ hw'
   obtain ⟨⟨dq, osq⟩, hw''⟩ := hw'
   subst hw''
   go_wp2_with fail
   go_meet
   exact ⟨rfl, Lib.hid (below_regrown _ _ _)⟩
  case rest =>
   obtain ⟨rfl, HB5⟩ := hcut
   generalize wc = w5 at *
   go_wp2_with fail
   go_ret
   exact ⟨by rw [HF.out]; rfl, HZ.out.trans (HB5.out.mono hz)⟩
 | true =>
  by_cases hlt : cw < xp - xq
  · have HF := Lib.hid (show R = true by rw [HR.out, hb1, decide_eq_true hlt]; rfl)
    have hd : decide (cw < xp - xq) = true := decide_eq_true hlt
    clear HR hlt
    go_cut [4] from 4 to 25 (fun xv wx => xv = .bool true ∧ Hid (Below w1.heap.size w1 wx))
    case first =>
     have d0 := fun d os => (SX.out _ (below_regrown w1 d os)).1
     have d1 := fun d os => (SX.out _ (below_regrown w1 d os)).2.1
     have d2 := fun d os => (SX.out _ (below_regrown w1 d os)).2.2.1
     have d3 := fun d os => (SX.out _ (below_regrown w1 d os)).2.2.2.1
     have d4 := fun d os => (SX.out _ (below_regrown w1 d os)).2.2.2.2.1
     have d5 := fun d os => (SX.out _ (below_regrown w1 d os)).2.2.2.2.2.1
     have d6 := fun d os => (SX.out _ (below_regrown w1 d os)).2.2.2.2.2.2.1
     have d7 := fun d os => (SX.out _ (below_regrown w1 d os)).2.2.2.2.2.2.2
     refine wp_region_quiet_below (by kernel_rfl) (by kernel_rfl) ?_
     repeat (first | go_big_quiet_step (fail) | quiet_step (fail))
     refine wpQuiet_nil ?_
     intro _ hw'
     obtain ⟨⟨dq, osq⟩, hw''⟩ := hw'
     subst hw''
     go_wp2_with fail
     go_meet
     exact ⟨rfl, Lib.hid (below_regrown _ _ _)⟩
    case rest =>
     obtain ⟨rfl, HB5⟩ := hcut
     generalize wc = w5 at *
     go_wp2_with fail
     go_ret
     exact ⟨by rw [HF.out]; rfl, HZ.out.trans (HB5.out.mono hz)⟩
  · have HF := Lib.hid (show R = false by rw [HR.out, hb1, decide_eq_false hlt]; rfl)
    have hd : decide (cw < xp - xq) = false := decide_eq_false hlt
    clear HR hlt
    go_cut [4] from 4 to 25 (fun xv wx => xv = .bool false ∧ Hid (Below w1.heap.size w1 wx))
    case first =>
     have d0 := fun d os => (SX.out _ (below_regrown w1 d os)).1
     have d1 := fun d os => (SX.out _ (below_regrown w1 d os)).2.1
     have d2 := fun d os => (SX.out _ (below_regrown w1 d os)).2.2.1
     have d3 := fun d os => (SX.out _ (below_regrown w1 d os)).2.2.2.1
     have d4 := fun d os => (SX.out _ (below_regrown w1 d os)).2.2.2.2.1
     have d5 := fun d os => (SX.out _ (below_regrown w1 d os)).2.2.2.2.2.1
     have d6 := fun d os => (SX.out _ (below_regrown w1 d os)).2.2.2.2.2.2.1
     have d7 := fun d os => (SX.out _ (below_regrown w1 d os)).2.2.2.2.2.2.2
     refine wp_region_quiet_below (by kernel_rfl) (by kernel_rfl) ?_
     repeat (first | go_big_quiet_step (fail) | quiet_step (fail))
     refine wpQuiet_nil ?_
     intro _ hw'
     obtain ⟨⟨dq, osq⟩, hw''⟩ := hw'
     subst hw''
     go_wp2_with fail
     go_meet
     exact ⟨rfl, Lib.hid (below_regrown _ _ _)⟩
    case rest =>
     obtain ⟨rfl, HB5⟩ := hcut
     generalize wc = w5 at *
     go_wp2_with fail
     go_ret
     exact ⟨by rw [HF.out]; rfl, HZ.out.trans (HB5.out.mono hz)⟩
theorem indexCon_u (p : C4 → Bool) (F : Nat) (lb : Array Value) (ad : Option Addr) (c : Nat) (l : List C4) (hl : l.length ≤ maxLen) (w : World) (hI : RL KC w ad l)
 (eg : ∀ args W, (callFunc F args).run Tryd.prog W = .ok (.enter F args) W)
 (HF : ∀ x ∈ l, ∀ W, Below w.heap.size w W → Calls Tryd.prog F (#[.agg #[.int .i64 x.f, .int .i64 x.t, .int .i64 x.w, .int .i64 x.a]] ++ lb) W fun e W' => e = .returned (.bool (p x)) ∧ Below W.heap.size W W') :
 Calls Tryd.prog 82 #[.slice ad l.length c, .func (.func F) #[] lb] w fun e w' => e = .returned (.int .i64 (idxN p l 0)) ∧ Below w.heap.size w w' := by
 unfold maxLen at hl
 have HC := Lib.hid (fun k hk => hI.c4 k hk)
 have HST := Lib.hid (fun k h => idxN_step p (l := l) (k := k) h)
 have HN := Lib.hid (show idxN p (l.drop l.length) l.length = -1 by rw [List.drop_length]; rfl)
 have H0 := Lib.hid (show idxN p l 0 = idxN p (l.drop 0) 0 from rfl)
 have HF := Lib.hid (fun k (hk : k < l.length) => HF (l[k]'hk) (List.getElem_mem hk))
 generalize idxN p l 0 = O at *
 clear hI
 go_enter Tryd.func82, Tryd.ntmps82
 go_wp2_with fail
 go_loopw [8] (fun i wr => ∃ k : Nat, k ≤ l.length ∧ i = .int .i64 k ∧ Hid (O = idxN p (l.drop k) k) ∧ Hid (Below w.heap.size w wr)) (fun i _ => l.length - (RowKit.intOf i).toNat)
 case atStart => exact ⟨0, Nat.zero_le _, rfl, H0, Lib.hid (Below.refl _ _)⟩
 case round =>
  obtain ⟨k, hk, rfl, HK, HB⟩ := hrel
  by_cases hlt : k < l.length
  · have hki : (k : Int) < (l.length : Int) := by omega
    obtain ⟨b, o, rfl, _, e2⟩ := HC.out k hlt
    have hik := fun W => at_c4 b o l.length c k hlt W
    obtain ⟨c0, c1, c2, c3⟩ := e2 wr HB.out
    have hst := HST.out k hlt
    have CB := Lib.hid (HF.out k hlt)
    have HLT := Lib.hid hlt
    generalize l[k]'hlt = x at *
    cases hb : p x with
    | true =>
     have HO := Lib.hid (show O = (k : Int) by rw [HK.out, hst, hb]; rfl)
     rw [hb] at CB
     clear hst hb e2 hlt
     go_wp2_with fail
     refine (CB.out _ HB.out).mono ?_
     rintro e z ⟨rfl, hz⟩
     have HZ := Lib.hid (below_up8 HB.out hz)
     clear hz c0 c1 c2 c3
     go_wp2_with fail
     go_ret
     exact ⟨by rw [HO.out]; rfl, HZ.out⟩
    | false =>
     have HO := Lib.hid (show O = idxN p (l.drop (k + 1)) (k + 1) by rw [HK.out, hst, hb]; rfl)
     rw [hb] at CB
     clear hst hb e2 hlt
     go_wp2_with fail
     refine (CB.out _ HB.out).mono ?_
     rintro e z ⟨rfl, hz⟩
     have HZ := Lib.hid (below_up8 HB.out hz)
     clear hz c0 c1 c2 c3
     go_wp2_with fail
     go_roundw
     case rel => exact ⟨k + 1, HLT.out, by go_num, HO, HZ⟩
     case measure => have := HLT.out; simp [RowKit.intOf]; omega
  · have hke : k = l.length := by omega
    have HO := Lib.hid (show O = -1 by rw [HK.out, hke, HN.out])
    have hki : ¬ (k : Int) < (l.length : Int) := by omega
    clear hke hlt
    go_wp2_with fail
    go_ret
    exact ⟨by rw [HO.out]; rfl, HB.out⟩
theorem agree_u (L : List C4) (ad : Option Addr) (c : Nat) (x : List Int) (adx : Option Addr) (cx : Nat) (m : Int) (w : World) (hl : L.length ≤ maxLen) (hL : RL KC w ad L) (hX : RL KI w adx x) (hc : ∀ y ∈ L, y.okx x.length) (hx : timB x) :
 Calls Tryd.prog 51 #[.slice ad L.length c, .slice adx x.length cx, .int .i64 m] w fun e w' => e = .returned (.bool (!(L.any (brkB m x)))) ∧ Below w.heap.size w w' := by
 obtain ⟨w1, V1, Z1, K1, B1⟩ := lay8 w [.slice adx x.length cx] 22
 obtain ⟨w2, V2, Z2, K2, B2⟩ := lay8 w1 [.int .i64 m] 3
 rw [Z1] at Z2 K2 B2
 have KA := Lib.hid (K1.up B2 (by omega)); have KB := Lib.hid K2
 have HB := Lib.hid (show Below w.heap.size w w2 from B1.trans (B2.mono (by omega)))
 have HC := Lib.hid (indexCon_u (brkB m x) 76 #[.pointer (some ⟨w.heap.size + 1, 0, none⟩), .pointer (some ⟨w.heap.size, 0, none⟩)] ad c L hl w2 (hL.below HB.out) (by intro args W; rfl)
  (fun y hy W b => agree1_u y m x adx cx (w.heap.size + 1) w.heap.size W (hc y hy) hx ((b.cell (p := ⟨w.heap.size + 1, 0, none⟩) (by show w.heap.size + 1 < _; omega)).trans (KB.out 0 (by simp)).1) ((b.cell (p := ⟨w.heap.size, 0, none⟩) (by show w.heap.size < _; omega)).trans (KA.out 0 (by simp)).1) (hX.below (HB.out.trans (b.mono HB.out.size)))))
 have HAN := Lib.hid (idxN_any (brkB m x) L 0)
 generalize idxN (brkB m x) L 0 = O at *
 generalize L.any (brkB m x) = R at *
 have hz := HB.out.size
 clear hL hl hc hx K1 K2 B1 B2 hX
 go_enter Tryd.func51, Tryd.ntmps51
 go_wp2_with fail
 refine Calls.mono (R := fun e w' => e = .returned (.bool R) ∧ Below w2.heap.size w2 w') ?_ ?_
 · clear V1 V2
   go_enter Tryd.func75, Tryd.ntmps75
   go_wp2_with fail
   refine (HC.out).mono ?_
   rintro e z ⟨rfl, hz⟩
   have HZ := Lib.hid hz
   clear hz
   go_wp2_with fail
   go_ret
   exact ⟨by rw [← HAN.out]; rfl, HZ.out⟩
 · rintro e z ⟨rfl, hz2⟩
   have HZ := Lib.hid (HB.out.trans (hz2.mono hz))
   clear hz2
   go_wp2_with fail
   go_ret
   exact ⟨by cases R <;> rfl, HZ.out⟩
theorem areTimes_u (ad : Option Addr) (n c : Nat) (x : List Int) (adx : Option Addr) (cx : Nat) (w : World) (hl : x.length ≤ maxLen) (hX : RL KI w adx x) :
 Calls Tryd.prog 50 #[.slice ad n c, .slice adx x.length cx] w fun e w' => e = .returned (.bool (timesB n x)) ∧ Below w.heap.size w w' := by
 have HC := Lib.hid (areIn_u adx cx x (-17592186044416) 17592186044416 hl w hX)
 have HE := Lib.hid (show timesB n x = (decide (x.length = n) && !(x.any fun v => !inB v (-17592186044416) 17592186044416)) by
  unfold timesB
  rw [Bool.and_comm, List.not_any_eq_all_not]
  congr 2
  funext v
  simp)
 generalize (x.any fun v => !inB v (-17592186044416) 17592186044416) = b1 at *
 generalize timesB n x = R at *
 clear hX hl
 by_cases hn : x.length = n
 · have HN := Lib.hid hn
   have e1 : ((x.length : Int) == (n : Int)) = true := by rw [beq_iff_eq]; omega
   have e2 : (x.length == n) = true := by rw [beq_iff_eq]; omega
   have e3 : (x.length : Int) = (n : Int) := by omega
   have HF := Lib.hid (show R = !b1 by rw [HE.out, decide_eq_true HN.out]; simp)
   clear hn HE
   go_enter Tryd.func50, Tryd.ntmps50
   go_wp2_with (first | (go_at_call 41; refine (HC.out).mono ?_; rintro e z ⟨rfl, hz⟩))
   go_ret
   exact ⟨by rw [HF.out]; rfl, hz⟩
 · have HN := Lib.hid hn
   have e1 : ((x.length : Int) == (n : Int)) = false := by rw [beq_eq_false_iff_ne]; omega
   have e2 : (x.length == n) = false := by rw [beq_eq_false_iff_ne]; omega
   have e3 : ¬ (x.length : Int) = (n : Int) := by omega
   have HF := Lib.hid (show R = false by rw [HE.out, decide_eq_false HN.out]; rfl)
   clear hn HE
   go_enter Tryd.func50, Tryd.ntmps50
   go_wp2_with fail
   go_ret
   exact ⟨by rw [HF.out]; rfl, Below.refl _ _⟩
end Go.Proofs.YtamefmojocegkaaDoor

namespace Go.Proofs.YtamefmojocegkaaDoor
open Go Go.Proofs Go.RowKit Go.Lib
theorem flatMap_congr8 {α β : Type} : ∀ (l : List α) (f g : α → List β), (∀ x ∈ l, f x = g x) → l.flatMap f = l.flatMap g
 | [], _, _, _ => rfl
 | x :: l, f, g, h => by
  rw [List.flatMap_cons, List.flatMap_cons, h x List.mem_cons_self, flatMap_congr8 l f g (fun y hy => h y (List.mem_cons_of_mem _ hy))]
theorem flatMap_two8 {α β γ : Type} (f : α → List β) (g : β → List γ) : ∀ l : List α, (l.flatMap f).flatMap g = l.flatMap fun x => (f x).flatMap g
 | [] => rfl
 | x :: l => by rw [List.flatMap_cons, List.flatMap_append, List.flatMap_cons, flatMap_two8 f g l]
theorem evs_sorted {f : Fl} {l : List Ev} (h : EvsOk f l) : ∀ j, j < l.length → ∀ i, i < j → (evD l i).ag < (evD l j).ag ∨ ((evD l i).ag = (evD l j).ag ∧ (evD l i).sq < (evD l j).sq)
 | 0, _, _, hi => absurd hi (Nat.not_lt_zero _)
 | j + 1, hj, i, hi => by
  have hs := (h.2.2 (j + 1) hj).2.2.2.2 (Nat.succ_pos _)
  rw [Nat.add_sub_cancel] at hs
  obtain ⟨h1, h2⟩ := hs
  have step : (evD l j).ag < (evD l (j + 1)).ag ∨ ((evD l j).ag = (evD l (j + 1)).ag ∧ (evD l j).sq < (evD l (j + 1)).sq) := by
   by_cases e : (evD l (j + 1)).ag = (evD l j).ag
   · exact .inr ⟨e.symm, by have := fun h => h2 ⟨e, h⟩; omega⟩
   · exact .inl (by omega)
  by_cases e : i = j
  · subst e; exact step
  · have := evs_sorted h j (by omega) i (by omega)
    omega
theorem late_eq {f : Fl} {l : List Ev} (h : EvsOk f l) {i j : Nat} (hi : i < l.length) (hj : j < l.length) (hij : i ≠ j) : lateB (evD l i) (evD l j) = true ↔ (evD l i).ag = (evD l j).ag ∧ i < j := by
 unfold lateB
 rw [Bool.and_eq_true, beq_iff_eq, decide_eq_true_eq]
 rcases Nat.lt_or_ge i j with h1 | h1
 · have := evs_sorted h j hj i h1
   omega
 · have := evs_sorted h i hi j (by omega)
   omega
theorem fol_eq (a b : Ev) : folB a b = (msgB a b || grtB a b || chdB a b) := by
 unfold folB msgB grtB chdB
 rw [Bool.eq_iff_iff]
 simp only [Bool.or_eq_true, Bool.and_eq_true, beq_iff_eq]
 omega
theorem folN_eq (lat : Int) (a b : Ev) : folN lat a b = if msgB a b = true then lat else 0 := rfl
theorem msg_alone {a b : Ev} (h : msgB a b = true) : grtB a b = false ∧ chdB a b = false := by
 unfold msgB at h
 simp only [Bool.and_eq_true, beq_iff_eq] at h
 obtain ⟨⟨h1, h2⟩, _⟩ := h
 unfold grtB chdB
 rw [h1, h2]
 constructor <;> simp
theorem grt_alone {a b : Ev} (h : grtB a b = true) : chdB a b = false := by
 unfold grtB at h
 simp only [Bool.and_eq_true, Bool.or_eq_true, beq_iff_eq] at h
 unfold chdB
 have : a.kd ≠ 1 := by omega
 simp [this]
theorem hiV_ne {d dr : Int} (d0 : -1000000 ≤ d) (d1 : d ≤ 1000000) (r0 : 0 ≤ dr) (r1 : dr ≤ 1000) : hiV dr d ≠ nB := by
 obtain ⟨_, p1⟩ := prod_bd8 (a := d + 1) (b := 1000000 + dr) (by omega) (by omega) (by omega) (by omega)
 unfold hiV nB
 omega
theorem ev_good {f : Fl} {l : List Ev} (h : EvsOk f l) {i : Nat} (hi : i < l.length) : Good f (evD l i) := ⟨(h.2.2 i hi).1, (h.2.2 i hi).2.1⟩
theorem good_ag {f : Fl} {e : Ev} (h : Good f e) : 0 ≤ e.ag ∧ e.ag ≤ 5 := (evB_of h.1).1
theorem conS_eq {f : Fl} {l : List Ev} (h : EvsOk f l) {i j : Nat} (hi : i < l.length) (hj : j < l.length) (hij : i ≠ j) : conS (rlS f) l i j = conA f l i j ++ conB f l i j := by
 have ga := ev_good h hi
 have gb := ev_good h hj
 obtain ⟨⟨a0, a1⟩, _, ⟨t0, t1⟩, _⟩ := evB_of ga.1
 obtain ⟨_, _, ⟨s0, s1⟩, _⟩ := evB_of gb.1
 obtain ⟨r0, r1⟩ := drOf_bd h.1 a0 ga.2
 have e0 : rowC (s0S f) l i j = conA f l i j := by
  unfold rowC conA s0S
  dsimp only
  by_cases hl : lateB (evD l i) (evD l j) = true
  · rw [if_pos hl, if_pos ((late_eq h hi hj hij).1 hl), if_neg (hiV_ne (by omega) (by omega) r0 r1)]
    rfl
  · rw [if_neg hl, if_neg (fun h2 => hl ((late_eq h hi hj hij).2 h2))]
 have e1 : rowC (s1S f) l i j ++ (rowC s2S l i j ++ (rowC s3S l i j ++ [])) = conB f l i j := by
  unfold rowC conB s1S s2S s3S
  dsimp only
  rw [fol_eq, folN_eq, if_pos rfl]
  by_cases hm : msgB (evD l i) (evD l j) = true
  · obtain ⟨h2, h3⟩ := msg_alone hm
    simp [hm, h2, h3]
  · by_cases hg : grtB (evD l i) (evD l j) = true
    · simp [hm, hg, grt_alone hg]
    · by_cases hc : chdB (evD l i) (evD l j) = true
      · simp [hm, hg, hc]
      · simp [hm, hg, hc]
 unfold conS rlS
 rw [List.flatMap_cons, List.flatMap_cons, List.flatMap_cons, List.flatMap_cons, List.flatMap_nil, e0, e1]
theorem conW_eq {f : Fl} {l : List Ev} (h : evsB f l = true) : conW (rlS f) l = conN f l l.length := by
 have h := of_evsB h
 unfold conW conU pairK conN conR
 rw [flatMap_two8]
 refine flatMap_congr8 _ _ _ fun i hi => ?_
 unfold rowP
 rw [flatMap_two8]
 refine flatMap_congr8 _ _ _ fun j hj => ?_
 unfold conP
 by_cases e : i = j
 · rw [if_pos e, if_pos e]; rfl
 · rw [if_neg e, if_neg e]
   simp only [List.flatMap_cons, List.flatMap_nil, List.append_nil]
   exact conS_eq h (List.mem_range.1 hi) (List.mem_range.1 hj) e
theorem mem_conW {f : Fl} {l : List Ev} (h : evsB f l = true) {c : C4} : c ∈ conW (rlS f) l ↔ ∃ i j, i < l.length ∧ j < l.length ∧ i ≠ j ∧ c ∈ conA f l i j ++ conB f l i j := by
 rw [conW_eq h]
 unfold conN conR
 simp only [List.mem_flatMap, List.mem_range]
 constructor
 · rintro ⟨i, hi, j, hj, hc⟩
   unfold conP at hc
   split at hc
   · cases hc
   · rename_i e; exact ⟨i, j, hi, hj, e, hc⟩
 · rintro ⟨i, j, hi, hj, e, hc⟩
   refine ⟨i, hi, j, hj, ?_⟩
   unfold conP
   rw [if_neg e]
   exact hc
theorem con_okx {f : Fl} {l : List Ev} (h : evsB f l = true) : ∀ c ∈ conW (rlS f) l, c.okx l.length := by
 intro c hc
 obtain ⟨i, j, hi, hj, _, hc⟩ := (mem_conW h).1 hc
 unfold conA conB at hc
 rw [List.mem_append] at hc
 rcases hc with hc | hc
 · split at hc
   · simp only [List.mem_cons, List.not_mem_nil, or_false] at hc
     rcases hc with rfl | rfl <;> (unfold C4.okx; dsimp only; omega)
   · cases hc
 · split at hc
   · simp only [List.mem_cons, List.not_mem_nil, or_false] at hc
     subst hc
     unfold C4.okx; dsimp only; omega
   · cases hc
theorem sh_eq {dr d s t : Int} (r1 : dr ≤ 1000) : shB dr d s t = true ↔ low8 dr d ≤ t - s ∧ t - s ≤ (d + 1) * (1000000 + dr) - 1 := by
 unfold shB low8
 simp only [Bool.and_eq_true, Bool.not_eq_true', decide_eq_false_iff_not, decide_eq_true_eq, Bool.and_eq_false_imp]
 have hP : 1 ≤ d → 0 ≤ (d - 1) * (1000000 - dr) := fun h => Int.mul_nonneg (by omega) (by omega)
 by_cases hd : 1 ≤ d
 · have := hP hd
   rw [if_pos hd]
   constructor
   · rintro ⟨⟨_, h2⟩, h3⟩
     have := h2 hd
     omega
   · rintro ⟨h1, h2⟩
     exact ⟨⟨by omega, fun _ => by omega⟩, by omega⟩
 · rw [if_neg hd]
   constructor
   · rintro ⟨⟨h1, _⟩, h3⟩
     omega
   · rintro ⟨h1, h2⟩
     exact ⟨⟨by omega, fun h => absurd h hd⟩, by omega⟩
theorem pair_brk {f : Fl} {l : List Ev} (h : EvsOk f l) (x : List Int) (m : Int) {i j : Nat} (hi : i < l.length) (hj : j < l.length) (hij : i ≠ j) : PairOk f l x m i j ↔ ∀ c ∈ conA f l i j ++ conB f l i j, brkB m x c = false := by
 have ga := ev_good h hi
 have gb := ev_good h hj
 obtain ⟨a0, a1⟩ := good_ag ga
 obtain ⟨b0, b1⟩ := good_ag gb
 have hm := bel_mask m a0 a1 b0 b1
 obtain ⟨r0, r1⟩ := drOf_bd h.1 a0 ga.2
 have key : ∀ (w : Int) (f' t' : Nat), brkB m x ⟨f', t', w, mask8 (evD l i) (evD l j)⟩ = ((belB m (evD l i).ag && belB m (evD l j).ag) && decide (w < xD x t' - xD x f')) := fun w f' t' => by
  unfold brkB
  dsimp only
  rw [hm]
  rfl
 unfold PairOk
 cases hp : belB m (evD l i).ag with
 | false =>
  refine ⟨fun _ c hc => ?_, fun _ => .inr (.inl rfl)⟩
  simp only [hp, Bool.false_and] at key
  unfold conA conB at hc
  rw [List.mem_append] at hc
  rcases hc with hc | hc <;> split at hc
  · simp only [List.mem_cons, List.not_mem_nil, or_false] at hc
    rcases hc with rfl | rfl <;> rw [key]
  · cases hc
  · simp only [List.mem_cons, List.not_mem_nil, or_false] at hc
    subst hc
    rw [key]
  · cases hc
 | true =>
  cases hq : belB m (evD l j).ag with
  | false =>
   refine ⟨fun _ c hc => ?_, fun _ => .inr (.inr (.inl rfl))⟩
   simp only [hq, Bool.and_false, Bool.false_and] at key
   unfold conA conB at hc
   rw [List.mem_append] at hc
   rcases hc with hc | hc <;> split at hc
   · simp only [List.mem_cons, List.not_mem_nil, or_false] at hc
     rcases hc with rfl | rfl <;> rw [key]
   · cases hc
   · simp only [List.mem_cons, List.not_mem_nil, or_false] at hc
     subst hc
     rw [key]
   · cases hc
  | true =>
   simp only [hp, hq, Bool.true_and] at key
   constructor
   · rintro (e | e | e | ⟨e1, e2⟩) c hc
     · exact absurd e hij
     · cases e
     · cases e
     · unfold conA conB at hc
       rw [List.mem_append] at hc
       rcases hc with hc | hc <;> split at hc
       · rename_i hl
         have hs := (sh_eq r1).1 (e1 hl.1 hl.2)
         simp only [List.mem_cons, List.not_mem_nil, or_false] at hc
         rcases hc with rfl | rfl <;> (rw [key]; exact decide_eq_false (by omega))
       · cases hc
       · rename_i hl
         have hs := e2 hl
         simp only [List.mem_cons, List.not_mem_nil, or_false] at hc
         subst hc
         rw [key]
         exact decide_eq_false (by omega)
       · cases hc
   · intro hc
     refine .inr (.inr (.inr ⟨fun h1 h2 => ?_, fun h1 => ?_⟩))
     · have c1 := hc ⟨j, i, -(low8 (f.drOf (evD l i).ag) ((evD l j).tm - (evD l i).tm)), mask8 (evD l i) (evD l j)⟩ (by unfold conA; rw [if_pos ⟨h1, h2⟩]; simp)
       have c2 := hc ⟨i, j, ((evD l j).tm - (evD l i).tm + 1) * (1000000 + f.drOf (evD l i).ag) - 1, mask8 (evD l i) (evD l j)⟩ (by unfold conA; rw [if_pos ⟨h1, h2⟩]; simp)
       rw [key] at c1 c2
       have c1 := of_decide_eq_false c1
       have c2 := of_decide_eq_false c2
       exact (sh_eq r1).2 ⟨by omega, by omega⟩
     · have c1 := hc ⟨j, i, -(folN f.lat (evD l i) (evD l j)), mask8 (evD l i) (evD l j)⟩ (by unfold conB; rw [if_pos h1]; simp)
       rw [key] at c1
       have c1 := of_decide_eq_false c1
       omega
theorem agB_eq {f : Fl} {l : List Ev} (h : evsB f l = true) (x : List Int) (m : Int) : agB f l x m = (timesB l.length x && !((conW (rlS f) l).any (brkB m x))) := by
 have he := of_evsB h
 rw [Bool.eq_iff_iff, Bool.and_eq_true, Bool.not_eq_true', List.any_eq_false]
 constructor
 · intro h1
   obtain ⟨_, h2, h3⟩ := of_agB h1
   refine ⟨h2, fun c hc => ?_⟩
   obtain ⟨i, j, hi, hj, e, hc⟩ := (mem_conW h).1 hc
   rw [(pair_brk he x m hi hj e).1 (h3 i j hi hj) c hc]
   decide
 · rintro ⟨h1, h2⟩
   refine agB_yes ⟨h, h1, fun i j hi hj => ?_⟩
   by_cases e : i = j
   · exact .inl e
   · exact (pair_brk he x m hi hj e).2 fun c hc => by
      have := h2 c ((mem_conW h).2 ⟨i, j, hi, hj, e, hc⟩)
      simpa using this
end Go.Proofs.YtamefmojocegkaaDoor
