/-
  Layer 8, the program: pairs, its iterator; a loop over a function whose rounds make rows of their own.
-/
import Derived.Test.YtifdcfjllonmgaaDoorNj
import Derived.Test.YtifdcfjllonmgaaDoorNr
import Derived.RangeFuncNested
import Derived.RangeFuncBound
import Derived.RangeFuncCalls
import Derived.RangeFuncLeaves
import Derived.RangeFuncFrom
import Derived.RangeFuncRecord
import Derived.OwnWalkIn
import Derived.TacticsInMore
import Derived.LoopNIn
import Derived.LoopIn
namespace Go.Proofs.YtifdcfjllonmgaaDoor
open Go Go.Proofs Go.RowKit Go.Lib

attribute [local go_sem] Oper.semAt_some

theorem rangeFunc_over8 {P : Program} {n : Nat} {g : Operand} {ps : Array Tmp} {assign body : Code} {Q : Exit → Act → World → Prop} {a : Act} {w : World}
    {gf : Nat} {lb : Array Value} (hg : a.eval g = .func (.func gf) #[] lb) (eg : ∀ args w, (callFunc gf args).run P w = .ok (.enter gf args) w)
    {α : Type} (encs : α → Array Value) (hps : ∀ x, (encs x).size = ps.size) (xs : List α)
    (Mine : Nat → Prop) (hMine : ∀ k, Mine k → k < w.heap.size)
    (hseq : ∀ (l : Nat) (J : List α → World → Prop) (W : World),
      (∀ s A b v, Mine b → J s A → J s (A.setCell ⟨b, 0, none⟩ v)) →
      (∀ pre x A, J pre A → (pre ++ [x]) <+: xs → YieldAt Fence.wide (n - 1 - 1) P l (encs x) A fun e A' =>
        e = .returned (.bool true) ∧ J (pre ++ [x]) A' ∧ ∀ k, Mine k → A'.heap[k]? = A.heap[k]?) →
      J [] W → (∀ k, k < w.heap.size → W.heap[k]? = w.heap[k]?) →
      CallsIn Fence.wide (n - 1) P gf (#[.func (.yield l) #[] #[]] ++ lb) W fun e W' => (∃ v, e = .returned v) ∧ J xs W')
    (I : List α → World → Prop)
    (hIset : ∀ s A b v, Mine b → I s A → I s (A.setCell ⟨b, 0, none⟩ v))
    (hIput : ∀ s A o, w.heap.size + 1 < A.heap.size → I s A → I s (A.putObj (w.heap.size + 1) o))
    (hI0 : ∀ o o', I [] ((w.alloc o).alloc o'))
    (a₁ : α → Act)
    (hassign : ∀ (l : Nat) (x : α) (W : World) (K : Act → World → Prop), K (a₁ x) W →
      assign.wpIn (Fence.wide.inRound l) (n - 1 - 1) P (Exit.then K (fun _ _ _ => False)) { tmps := (ps.zip (encs x)).foldl (fun t (p, v) => t.setIfInBounds p v) a.tmps, defers := [] } W)
    (hbody : ∀ (l : Nat) (pre : List α) (x : α) (W : World), I pre W → (pre ++ [x]) <+: xs →
      body.wpIn (Fence.wide.inRound l) (n - 1 - 1) P (Exit.then (fun _ W' => (∀ k, (Mine k ∨ k = w.heap.size ∨ k = w.heap.size + 1) → W'.heap[k]? = W.heap[k]?) ∧ I (pre ++ [x]) W') (fun _ _ _ => False)) (a₁ x) W)
    (hdone : ∀ W, I xs W → W.heap[w.heap.size]? = some (.deferred (some [])) →
      Q .normal { a with defers := { target := .collected w.heap.size, args := #[] } :: a.defers } W) :
    (Code.rangeFunc g ps assign body).wpIn Fence.wide n P Q a w := by
  refine wpIn_rangeFunc ?_
  intro fn hfn
  obtain ⟨rec, hrec⟩ : ∃ rec : LoopState → Option Code → Loop, rec = fun st pe => { state := st, pending := pe, fn, tmps := a.tmps, params := ps, assign, body, defers := w.heap.size } := ⟨_, rfl⟩
  obtain ⟨W1, hW1⟩ : ∃ W1, (w.alloc (.deferred (some []))).alloc (.loop (rec .ready none)) = W1 := ⟨_, rfl⟩
  have hL1 : W1.heap[w.heap.size + 1]? = some (.loop (rec .ready none)) := by
    rw [← hW1]; have := World.alloc_heap_new (w.alloc (.deferred (some []))) (.loop (rec .ready none)); rwa [World.size_alloc] at this
  have hK1 : W1.heap[w.heap.size]? = some (.deferred (some [])) := by
    rw [← hW1]; exact (Below.heap_alloc _ _ _ (by simp)).trans (World.alloc_heap_new w _)
  have hI1 : I [] W1 := by rw [← hW1]; exact hI0 _ _
  have hold : ∀ k, k < w.heap.size → W1.heap[k]? = w.heap[k]? := by
    intro k hk
    rw [← hW1]
    exact (Below.heap_alloc _ _ _ (by simp; omega)).trans (Below.heap_alloc _ _ _ hk)
  refine ⟨w.heap.size + 1, [{ target := .collected w.heap.size, args := #[] }], W1, { target := .fn (.func gf) lb, args := #[.func (.yield (w.heap.size + 1)) #[] #[]] }, W1, gf,
    #[.func (.yield (w.heap.size + 1)) #[] #[]] ++ lb, W1, ?_, ?_, ?_, ?_, (fun h => by cases h), ?_⟩
  · rw [← hW1, hrec]; exact run_enterLoop_outer _ _ _ _ _
  · simp only [resolve, hg]
    simp [go_sem]
  · intro f' _; trivial
  · simp [invoke, go_sem, eg]
  · refine (hseq (w.heap.size + 1)
      (fun pre W => I pre W ∧ W.heap[w.heap.size + 1]? = some (.loop (rec .ready none)) ∧ W.heap[w.heap.size]? = some (.deferred (some [])))
      W1 ?_ ?_ ⟨hI1, hL1, hK1⟩ hold).mono ?_
    · rintro s A b v hb ⟨hi, hl, hk⟩
      have hlt := hMine b hb
      exact ⟨hIset s A b v hb hi, (Below.heap_setCell A ⟨b, 0, none⟩ v _ (by show _ ≠ b; omega)).trans hl, (Below.heap_setCell A ⟨b, 0, none⟩ v _ (by show _ ≠ b; omega)).trans hk⟩
    · rintro pre x W ⟨hi, hl, hk⟩ hpre
      have hlt : w.heap.size + 1 < W.heap.size := (Array.getElem?_eq_some_iff.1 hl).1
      have hy := run_yield (P := P) (args := encs x) hl (by rw [hrec]; exact hps x)
      rw [hrec] at hy
      refine ⟨fn, _, assign, body, hy, roundIn_of_wpIn hfn (hassign _ x W _ ⟨_, run_beginRound hl (by rw [hrec]), ?_⟩)⟩
      have hl2 : (W.putObj (w.heap.size + 1) (.loop { rec .ready none with state := .busy })).heap[w.heap.size + 1]? = some (.loop { rec .ready none with state := .busy }) := World.putObj_heap_same hlt
      have hk2 : (W.putObj (w.heap.size + 1) (.loop { rec .ready none with state := .busy })).heap[w.heap.size]? = some (.deferred (some [])) := (World.putObj_heap_other (by omega)).trans hk
      refine wpIn_mono (hbody _ pre x _ (hIput _ _ _ hlt hi) hpre) ?_
      rintro e a3 W3 hp
      cases e with
      | normal =>
        obtain ⟨hkeep, hi3⟩ := hp
        have hl3 := (hkeep _ (.inr (.inr rfl))).trans hl2
        have hk3 := (hkeep _ (.inr (.inl rfl))).trans hk2
        have hr := run_endRound (P := P) none hl3
        have hlt3 : w.heap.size + 1 < W3.heap.size := (Array.getElem?_eq_some_iff.1 hl3).1
        refine ⟨_, _, hr, rfl, ⟨hIput _ _ _ hlt3 hi3, ?_, (World.putObj_heap_other (by omega)).trans hk3⟩, ?_⟩
        · rw [World.putObj_heap_same hlt3, hrec]; rfl
        · intro k hm
          have hkl := hMine k hm
          rw [World.putObj_heap_other (by omega), hkeep k (.inl hm), World.putObj_heap_other (by omega)]
      | ret => exact hp.elim
      | exit id => exact hp.elim
      | goto t => exact hp.elim
      | panic ch => exact hp.elim
      | outgrown => exact hp.elim
    · rintro e W2 ⟨⟨v, rfl⟩, hi, hl, hk⟩
      exact ⟨none, _, by have := run_endLoop (P := P) hl (by rw [hrec]; simp); rw [hrec] at this; exact this, hdone _ (hIput _ _ _ (Array.getElem?_eq_some_iff.1 hl).1 hi) ((World.putObj_heap_other (by omega)).trans hk)⟩

/-- The pairs of an index with those before j that differ from it. -/
def rowP (i j : Nat) : List (Nat × Nat) := (List.range j).flatMap fun b => if i = b then [] else [(i, b)]
def pairK (n i : Nat) : List (Nat × Nat) := (List.range i).flatMap fun a => rowP a n
theorem rowP_step (i j : Nat) : rowP i (j + 1) = rowP i j ++ if i = j then [] else [(i, j)] := by unfold rowP; rw [List.range_succ, List.flatMap_append]; simp
theorem pairK_step (n i : Nat) : pairK n (i + 1) = pairK n i ++ rowP i n := by unfold pairK; rw [List.range_succ, List.flatMap_append]; simp
theorem rowP_pre (i : Nat) : ∀ (n j : Nat), j ≤ n → rowP i j <+: rowP i n
  | 0, j, h => by obtain rfl : j = 0 := by omega
                  exact List.prefix_refl _
  | n + 1, j, h => by
    by_cases e : j = n + 1
    · subst e; exact List.prefix_refl _
    · exact (rowP_pre i n j (by omega)).trans (by rw [rowP_step]; exact List.prefix_append _ _)
theorem pairK_pre (n : Nat) : ∀ (m i : Nat), i ≤ m → pairK n i <+: pairK n m
  | 0, i, h => by obtain rfl : i = 0 := by omega
                  exact List.prefix_refl _
  | m + 1, i, h => by
    by_cases e : i = m + 1
    · subst e; exact List.prefix_refl _
    · exact (pairK_pre n m i (by omega)).trans (by rw [pairK_step]; exact List.prefix_append _ _)
theorem pair_pre {n i j : Nat} (hi : i < n) (hj : j < n) (hij : i ≠ j) : (pairK n i ++ rowP i j ++ [(i, j)]) <+: pairK n n := by
  refine List.IsPrefix.trans ?_ (pairK_pre n n (i + 1) hi)
  rw [pairK_step, List.append_assoc]
  refine (List.prefix_append_right_inj _).2 ?_
  have := rowP_pre i n (j + 1) hj
  rwa [rowP_step, if_neg hij] at this
theorem pairs_u (n : Int) (w : World) : Calls Tryd.prog 65 #[.int .i64 n] w fun e w' => e = .returned (.func (.func 79) #[] #[.pointer (some ⟨w.heap.size, 0, none⟩)]) ∧ w.alloc (.cells #[.int .i64 n] 3) = w' := by
  go_enter Tryd.func65, Tryd.ntmps65
  go_wp2
  go_ret
  exact ⟨rfl, rfl⟩
set_option maxRecDepth 100000 in
set_option maxHeartbeats 8000000 in
theorem pairs_seq (m l Bn n : Nat) (hn : n ≤ 1000) (J : List (Nat × Nat) → World → Prop) (W : World) (cn : W.cell? ⟨Bn, 0, none⟩ = some (.int .i64 (n : Int)))
    (hY : ∀ pre x A, J pre A → (pre ++ [x]) <+: pairK n n → YieldAt Fence.wide (m - 1) Tryd.prog l #[.int .i64 (x.1 : Int), .int .i64 (x.2 : Int)] A fun e A' => e = .returned (.bool true) ∧ J (pre ++ [x]) A' ∧ A'.heap[Bn]? = A.heap[Bn]?) (h0 : J [] W) :
    CallsIn Fence.wide m Tryd.prog 79 #[.func (.yield l) #[] #[], .pointer (some ⟨Bn, 0, none⟩)] W fun e W' => (∃ v, e = .returned v) ∧ J (pairK n n) W' := by
  have HY := Lib.hid hY
  have H0 := Lib.hid (show J (pairK n 0) W from h0)
  have HPS := Lib.hid (fun i => pairK_step n i); have HRS := Lib.hid (fun i j => rowP_step i j)
  have HPP := Lib.hid (fun i j (hi : i < n) (hj : j < n) h => pair_pre (n := n) hi hj h)
  have HR0 := Lib.hid (show ∀ i, rowP i 0 = [] from fun _ => rfl)
  clear hY h0
  refine callsIn_of_wp Tryd.func79 rfl trivial ?_ rfl
  simp only [Tryd.ntmps79, List.size_toArray, List.length_cons, List.length_nil, Nat.reduceAdd, Nat.reduceSub, Array.replicate_succ, Array.replicate_zero, List.push_toArray, List.append_toArray, List.nil_append, List.cons_append]
  gi_wp2
  gi_loopw [6] (fun i wr => ∃ k : Nat, k ≤ n ∧ i = .int .i64 k ∧ Hid (J (pairK n k) wr) ∧ wr.cell? ⟨Bn, 0, none⟩ = some (.int .i64 (n : Int))) (fun i _ => n - (RowKit.intOf i).toNat)
  case atStart => exact ⟨0, Nat.zero_le _, rfl, H0, cn⟩
  case round =>
    clear cn H0
    obtain ⟨i, hi, rfl, HJ, hcn⟩ := hrel
    by_cases hlt : i < n
    · have hki : (i : Int) < (n : Int) := by omega
      have HLT := Lib.hid hlt
      clear hlt
      gi_wp2
      gi_loopw [10] (fun j wj => ∃ k : Nat, k ≤ n ∧ j = .int .i64 k ∧ Hid (J (pairK n i ++ rowP i k) wj) ∧ wj.cell? ⟨Bn, 0, none⟩ = some (.int .i64 (n : Int))) (fun j _ => n - (RowKit.intOf j).toNat)
      case atStart => exact ⟨0, Nat.zero_le _, rfl, Lib.hid (by rw [HR0.out, List.append_nil]; exact HJ.out), hcn⟩
      case round =>
        clear hcn HJ
        obtain ⟨j, hj, rfl, HJ, hcn⟩ := hrel
        by_cases hlt2 : j < n
        · have hkj : (j : Int) < (n : Int) := by omega
          have HL2 := Lib.hid hlt2
          clear hlt2
          by_cases hij : i = j
          · subst hij
            have H3 := Lib.hid (show J (pairK n i ++ rowP i (i + 1)) wr from by rw [HRS.out, if_pos rfl, List.append_nil]; exact HJ.out)
            gi_wp2
            refine ⟨fun _ h => (by cases h), ?_⟩
            gi_wp2
            go_roundw
            case rel => exact ⟨i + 1, HL2.out, by go_num, H3, hcn⟩
            case measure => have := HL2.out; simp [RowKit.intOf]; omega
          · have hne : ((i : Int) == (j : Int)) = false := by rw [beq_eq_false_iff_ne]; omega
            have hne2 : ¬ (i : Int) = (j : Int) := by omega
            have hne3 : ((j : Int) == (i : Int)) = false := by rw [beq_eq_false_iff_ne]; omega
            have HE := Lib.hid (show rowP i (j + 1) = rowP i j ++ [(i, j)] from by rw [HRS.out, if_neg hij])
            obtain ⟨fn, tmps, assign, body, hy, hR⟩ := HY.out _ (i, j) wr HJ.out (HPP.out i j HLT.out HL2.out hij)
            have HRR := Lib.hid hR
            dsimp only at hy
            clear hR
            gi_wp2
            refine ⟨(fun h => by cases h), HRR.out.mono ?_⟩
            rintro e W3 ⟨rfl, hJ3, hk3⟩
            have H3 := Lib.hid (show J (pairK n i ++ rowP i (j + 1)) W3 from by rw [HE.out, ← List.append_assoc]; exact hJ3)
            have hcn3 : W3.cell? ⟨Bn, 0, none⟩ = some (.int .i64 (n : Int)) := (World.cell?_of_block (a := ⟨Bn, 0, none⟩) hk3).trans hcn
            clear hk3 hJ3 hy hcn
            gi_wp2
            go_roundw
            case rel => exact ⟨j + 1, HL2.out, by go_num, H3, hcn3⟩
            case measure => have := HL2.out; simp [RowKit.intOf]; omega
        · obtain rfl : j = n := by omega
          have H3 := Lib.hid (show J (pairK j (i + 1)) wr from by rw [HPS.out]; exact HJ.out)
          gi_wp2
          go_roundw
          case rel => exact ⟨i + 1, HLT.out, by go_num, H3, hcn⟩
          case measure => have := HLT.out; simp [RowKit.intOf]; omega
    · obtain rfl : i = n := by omega
      gi_wp2
      go_end0
      exact ⟨⟨_, rfl⟩, HJ.out⟩
end Go.Proofs.YtifdcfjllonmgaaDoor
