/-
  A loop over a function value ('for x := range seq'), where the iterator makes blocks of its own and the loop's variable is a block, too:   the law of the whole statement, over any program, at the wide fence. A loop over a function value ('for x := range seq'), where the iterator stores into blocks of its own between two rounds:   the law of the whole statement, over any program, at the wide fence.
-/
import Derived.RangeFuncNested
import Derived.RangeFuncBound
import Derived.RangeFuncCalls
import Derived.RangeFuncLeaves
import Derived.RangeFuncRecord
import Derived.Below
import Derived.OwnWalk
set_option maxRecDepth 100000
set_option maxHeartbeats 16000000
namespace Go.Proofs.YtnpfhcnjkekhbaaGreatDoor
open Go Go.RowKit
theorem rangeFunc_fresh {P : Program} {n : Nat} {g : Operand} {ps : Array Tmp} {assign body : Code} {Q : Exit → Act → World → Prop} {a : Act} {w : World}
 {gf : Nat} {lb : Array Value} (hg : a.eval g = .func (.func gf) #[] lb) (eg : ∀ args w, (callFunc gf args).run P w = .ok (.enter gf args) w)
 {α : Type} (encs : α → Array Value) (hps : ∀ x, (encs x).size = ps.size) (xs : List α)
 (Mine : Nat → Prop) (hMine : ∀ k, Mine k → k < w.heap.size)
 (hseq : ∀ (l : Nat) (J : List α → World → Prop) (W : World),
  (∀ s A A', J s A → Below W.heap.size A A' → J s A') →
  (∀ pre x A, J pre A → W.heap.size ≤ A.heap.size → (pre ++ [x]) <+: xs → YieldAt Fence.wide (n - 1 - 1) P l (encs x) A fun e A' =>
   e = .returned (.bool true) ∧ J (pre ++ [x]) A' ∧ A.heap.size ≤ A'.heap.size ∧ ∀ k, (Mine k ∨ (W.heap.size ≤ k ∧ k < A.heap.size)) → A'.heap[k]? = A.heap[k]?) →
  J [] W → (∀ k, k < w.heap.size → W.heap[k]? = w.heap[k]?) → w.heap.size ≤ W.heap.size →
  CallsIn Fence.wide (n - 1) P gf (#[.func (.yield l) #[] #[]] ++ lb) W fun e W' => (∃ v, e = .returned v) ∧ J xs W')
 (I : List α → World → Prop)
 (hIset : ∀ s A A', I s A → Below (w.heap.size + 2) A A' → I s A')
 (hIput : ∀ s A r o, w.heap.size ≤ r → r < A.heap.size → I s A → I s (A.putObj r o))
 (hI0 : ∀ o o', I [] ((w.alloc o).alloc o'))
 (a₁ : α → World → Act) (w₁ : α → World → World) (hw₁ : ∀ x W, Below W.heap.size W (w₁ x W))
 (hassign : ∀ (l : Nat) (x : α) (W : World) (K : Act → World → Prop), x ∈ xs → K (a₁ x W) (w₁ x W) →
  assign.wpIn (Fence.wide.inRound l) (n - 1 - 1) P (Exit.then K (fun _ _ _ => False)) { tmps := (ps.zip (encs x)).foldl (fun t (p, v) => t.setIfInBounds p v) a.tmps, defers := [] } W)
 (hbody : ∀ (l : Nat) (pre : List α) (x : α) (W W' : World), I pre W' → w.heap.size + 2 ≤ W.heap.size → W'.heap.size = (w₁ x W).heap.size → (∀ k, W.heap.size ≤ k → W'.heap[k]? = (w₁ x W).heap[k]?) → (pre ++ [x]) <+: xs →
  body.wpIn (Fence.wide.inRound l) (n - 1 - 1) P (Exit.then (fun _ W'' => (∀ k, (Mine k ∨ k = w.heap.size ∨ k = w.heap.size + 1 ∨ (w.heap.size + 2 ≤ k ∧ k < W.heap.size)) → W''.heap[k]? = W'.heap[k]?) ∧ W'.heap.size ≤ W''.heap.size ∧ I (pre ++ [x]) W'') (fun _ _ _ => False)) (a₁ x W) W')
 (hdone : ∀ W, I xs W → W.heap[w.heap.size]? = some (.deferred (some [])) →
  Q .normal { a with defers := { target := .collected w.heap.size, args := #[] } :: a.defers } W) :
 (Code.rangeFunc g ps assign body).wpIn Fence.wide n P Q a w := by
 refine wpIn_rangeFunc ?_
 intro fn hfn
 obtain ⟨rec, hrec⟩ : ∃ rec : LoopState → Option Code → Loop, rec = fun st pe => { state := st, pending := pe, fn, tmps := a.tmps, params := ps, assign, body, defers := w.heap.size } := ⟨_, rfl⟩
 obtain ⟨W1, hW1⟩ : ∃ W1, (w.alloc (.deferred (some []))).alloc (.loop (rec .ready none)) = W1 := ⟨_, rfl⟩
 have hL1 : W1.heap[w.heap.size + 1]? = some (.loop (rec .ready none)) := by
  rw [← hW1]; have := World.alloc_heap_new (w.alloc (.deferred (some []))) (.loop (rec .ready none)); rwa [World.size_alloc] at this
 have hK1 : W1.heap[w.heap.size]? = some (.deferred (some [])) := by
  rw [← hW1]; exact (Below.heap_alloc _ _ _ (by simp)).trans (World.alloc_heap_new w _)
 have hI1 : I [] W1 := by rw [← hW1]; exact hI0 _ _
 have hsz1 : W1.heap.size = w.heap.size + 2 := by rw [← hW1]; simp
 have hold : ∀ k, k < w.heap.size → W1.heap[k]? = w.heap[k]? := by
  intro k hk
  rw [← hW1]
  exact (Below.heap_alloc _ _ _ (by simp; omega)).trans (Below.heap_alloc _ _ _ hk)
 refine ⟨w.heap.size + 1, [{ target := .collected w.heap.size, args := #[] }], W1, { target := .fn (.func gf) lb, args := #[.func (.yield (w.heap.size + 1)) #[] #[]] }, W1, gf,
  #[.func (.yield (w.heap.size + 1)) #[] #[]] ++ lb, W1, ?_, ?_, ?_, ?_, (fun h => by cases h), ?_⟩
 · rw [← hW1, hrec]; exact run_enterLoop_outer _ _ _ _ _
 · simp only [resolve, hg]
   simp [go_sem]
 · intro f' _; trivial
 · simp [invoke, go_sem, eg]
 · refine (hseq (w.heap.size + 1)
    (fun pre W => I pre W ∧ W.heap[w.heap.size + 1]? = some (.loop (rec .ready none)) ∧ W.heap[w.heap.size]? = some (.deferred (some [])))
    W1 ?_ ?_ ⟨hI1, hL1, hK1⟩ hold (by omega)).mono ?_
   · rintro s A A' ⟨hi, hl, hk⟩ hb
     rw [hsz1] at hb
     exact ⟨hIset s A A' hi hb, (hb.block _ (by omega)).trans hl, (hb.block _ (by omega)).trans hk⟩
   · rintro pre x W ⟨hi, hl, hk⟩ hsz hpre
     rw [hsz1] at hsz
     have hlt : w.heap.size + 1 < W.heap.size := (Array.getElem?_eq_some_iff.1 hl).1
     have hy := run_yield (P := P) (args := encs x) hl (by rw [hrec]; exact hps x)
     rw [hrec] at hy
     have hbw := hw₁ x W
     obtain ⟨V, hV⟩ : ∃ V, w₁ x W = V := ⟨_, rfl⟩
     rw [hV] at hbw
     have hlV : V.heap[w.heap.size + 1]? = some (.loop (rec .ready none)) := (hbw.block _ hlt).trans hl
     have hkV : V.heap[w.heap.size]? = some (.deferred (some [])) := (hbw.block _ (by omega)).trans hk
     have hiV : I pre V := hIset _ _ _ hi (hbw.mono hsz)
     have hltV : w.heap.size + 1 < V.heap.size := Nat.lt_of_lt_of_le hlt hbw.size
     refine ⟨fn, _, assign, body, hy, roundIn_of_wpIn hfn (hassign _ x W _ (hpre.subset (by simp)) ⟨_, run_beginRound (by rw [hV]; exact hlV) (by rw [hrec]), ?_⟩)⟩
     rw [hV]
     have hl2 : (V.putObj (w.heap.size + 1) (.loop { rec .ready none with state := .busy })).heap[w.heap.size + 1]? = some (.loop { rec .ready none with state := .busy }) := World.putObj_heap_same hltV
     have hk2 : (V.putObj (w.heap.size + 1) (.loop { rec .ready none with state := .busy })).heap[w.heap.size]? = some (.deferred (some [])) := (World.putObj_heap_other (by omega)).trans hkV
     refine wpIn_mono (hbody _ pre x W _ (hIput _ _ _ _ (by omega) hltV hiV) hsz (by rw [hV]; simp [World.putObj]) (fun k hk' => by rw [hV]; exact World.putObj_heap_other (by omega)) hpre) ?_
     rintro e a3 W3 hp
     cases e with
     | normal =>
      obtain ⟨hkeep, hsz3, hi3⟩ := hp
      have hl3 := (hkeep _ (.inr (.inr (.inl rfl)))).trans hl2
      have hk3 := (hkeep _ (.inr (.inl rfl))).trans hk2
      have hr := run_endRound (P := P) none hl3
      have hlt3 : w.heap.size + 1 < W3.heap.size := (Array.getElem?_eq_some_iff.1 hl3).1
      refine ⟨_, _, hr, rfl, ⟨hIput _ _ _ _ (by omega) hlt3 hi3, ?_, (World.putObj_heap_other (by omega)).trans hk3⟩, ?_, ?_⟩
      · rw [World.putObj_heap_same hlt3, hrec]; rfl
      · have h1 : V.heap.size ≤ W3.heap.size := by simpa [World.putObj] using hsz3
        have h2 := hbw.size
        simp [World.putObj]; omega
      · intro k hm
        have hkl : k < W.heap.size ∧ k ≠ w.heap.size + 1 := by
         rcases hm with hm | hm
         · have := hMine k hm; omega
         · omega
        have hkp : Mine k ∨ k = w.heap.size ∨ k = w.heap.size + 1 ∨ (w.heap.size + 2 ≤ k ∧ k < W.heap.size) := by
         rcases hm with hm | hm
         · exact .inl hm
         · exact .inr (.inr (.inr ⟨by omega, hm.2⟩))
        rw [World.putObj_heap_other (by omega), hkeep k hkp, World.putObj_heap_other (by omega), hbw.block k hkl.1]
     | ret => exact hp.elim
     | exit id => exact hp.elim
     | goto t => exact hp.elim
     | panic ch => exact hp.elim
     | outgrown => exact hp.elim
   · rintro e W2 ⟨⟨v, rfl⟩, hi, hl, hk⟩
     exact ⟨none, _, by have := run_endLoop (P := P) hl (by rw [hrec]; simp); rw [hrec] at this; exact this, hdone _ (hIput _ _ _ _ (by omega) (Array.getElem?_eq_some_iff.1 hl).1 hi) ((World.putObj_heap_other (by omega)).trans hk)⟩
end Go.Proofs.YtnpfhcnjkekhbaaGreatDoor

namespace Go.Proofs.YtnpfhcnjkekhbaaGreatDoor.W1
open Go Go.RowKit
theorem rangeFunc_over {P : Program} {n : Nat} {g : Operand} {ps : Array Tmp} {assign body : Code} {Q : Exit → Act → World → Prop} {a : Act} {w : World}
 {gf : Nat} {lb : Array Value} (hg : a.eval g = .func (.func gf) #[] lb) (eg : ∀ args w, (callFunc gf args).run P w = .ok (.enter gf args) w)
 {α : Type} (encs : α → Array Value) (hps : ∀ x, (encs x).size = ps.size) (xs : List α)
 (Mine : Nat → Prop) (hMine : ∀ k, Mine k → k < w.heap.size)
 (hseq : ∀ (l : Nat) (J : List α → World → Prop) (W : World),
  (∀ s A b v, Mine b → J s A → J s (A.setCell ⟨b, 0, none⟩ v)) →
  (∀ pre x A, J pre A → (pre ++ [x]) <+: xs → YieldAt Fence.wide (n - 1 - 1) P l (encs x) A fun e A' =>
   e = .returned (.bool true) ∧ J (pre ++ [x]) A' ∧ ∀ k, Mine k → A'.heap[k]? = A.heap[k]?) →
  J [] W → (∀ k, k < w.heap.size → W.heap[k]? = w.heap[k]?) →
  CallsIn Fence.wide (n - 1) P gf (#[.func (.yield l) #[] #[]] ++ lb) W fun e W' => (∃ v, e = .returned v) ∧ J xs W')
 (I : List α → World → Prop)
 (hIset : ∀ s A b v, Mine b → I s A → I s (A.setCell ⟨b, 0, none⟩ v))
 (hIput : ∀ s A r o, w.heap.size ≤ r → r < A.heap.size → I s A → I s (A.putObj r o))
 (hI0 : ∀ o o', I [] ((w.alloc o).alloc o'))
 (a₁ : α → Act)
 (hassign : ∀ (l : Nat) (x : α) (W : World) (K : Act → World → Prop), K (a₁ x) W →
  assign.wpIn (Fence.wide.inRound l) (n - 1 - 1) P (Exit.then K (fun _ _ _ => False)) { tmps := (ps.zip (encs x)).foldl (fun t (p, v) => t.setIfInBounds p v) a.tmps, defers := [] } W)
 (hbody : ∀ (l : Nat) (pre : List α) (x : α) (W : World), I pre W → (pre ++ [x]) <+: xs →
  body.wpIn (Fence.wide.inRound l) (n - 1 - 1) P (Exit.then (fun _ W' => (∀ k, (Mine k ∨ k = w.heap.size ∨ k = w.heap.size + 1) → W'.heap[k]? = W.heap[k]?) ∧ I (pre ++ [x]) W') (fun _ _ _ => False)) (a₁ x) W)
 (hdone : ∀ W, I xs W → W.heap[w.heap.size]? = some (.deferred (some [])) →
  Q .normal { a with defers := { target := .collected w.heap.size, args := #[] } :: a.defers } W) :
 (Code.rangeFunc g ps assign body).wpIn Fence.wide n P Q a w := by
 refine wpIn_rangeFunc ?_
 intro fn hfn
 obtain ⟨rec, hrec⟩ : ∃ rec : LoopState → Option Code → Loop, rec = fun st pe => { state := st, pending := pe, fn, tmps := a.tmps, params := ps, assign, body, defers := w.heap.size } := ⟨_, rfl⟩
 obtain ⟨W1, hW1⟩ : ∃ W1, (w.alloc (.deferred (some []))).alloc (.loop (rec .ready none)) = W1 := ⟨_, rfl⟩
 have hL1 : W1.heap[w.heap.size + 1]? = some (.loop (rec .ready none)) := by
  rw [← hW1]; have := World.alloc_heap_new (w.alloc (.deferred (some []))) (.loop (rec .ready none)); rwa [World.size_alloc] at this
 have hK1 : W1.heap[w.heap.size]? = some (.deferred (some [])) := by
  rw [← hW1]; exact (Below.heap_alloc _ _ _ (by simp)).trans (World.alloc_heap_new w _)
 have hI1 : I [] W1 := by rw [← hW1]; exact hI0 _ _
 have hold : ∀ k, k < w.heap.size → W1.heap[k]? = w.heap[k]? := by
  intro k hk
  rw [← hW1]
  exact (Below.heap_alloc _ _ _ (by simp; omega)).trans (Below.heap_alloc _ _ _ hk)
 refine ⟨w.heap.size + 1, [{ target := .collected w.heap.size, args := #[] }], W1, { target := .fn (.func gf) lb, args := #[.func (.yield (w.heap.size + 1)) #[] #[]] }, W1, gf,
  #[.func (.yield (w.heap.size + 1)) #[] #[]] ++ lb, W1, ?_, ?_, ?_, ?_, (fun h => by cases h), ?_⟩
 · rw [← hW1, hrec]; exact run_enterLoop_outer _ _ _ _ _
 · simp only [resolve, hg]
   simp [go_sem]
 · intro f' _; trivial
 · simp [invoke, go_sem, eg]
 · refine (hseq (w.heap.size + 1)
    (fun pre W => I pre W ∧ W.heap[w.heap.size + 1]? = some (.loop (rec .ready none)) ∧ W.heap[w.heap.size]? = some (.deferred (some [])))
    W1 ?_ ?_ ⟨hI1, hL1, hK1⟩ hold).mono ?_
   · rintro s A b v hb ⟨hi, hl, hk⟩
     have hlt := hMine b hb
     exact ⟨hIset s A b v hb hi, (Below.heap_setCell A ⟨b, 0, none⟩ v _ (by show _ ≠ b; omega)).trans hl, (Below.heap_setCell A ⟨b, 0, none⟩ v _ (by show _ ≠ b; omega)).trans hk⟩
   · rintro pre x W ⟨hi, hl, hk⟩ hpre
     have hlt : w.heap.size + 1 < W.heap.size := (Array.getElem?_eq_some_iff.1 hl).1
     have hy := run_yield (P := P) (args := encs x) hl (by rw [hrec]; exact hps x)
     rw [hrec] at hy
     refine ⟨fn, _, assign, body, hy, roundIn_of_wpIn hfn (hassign _ x W _ ⟨_, run_beginRound hl (by rw [hrec]), ?_⟩)⟩
     have hl2 : (W.putObj (w.heap.size + 1) (.loop { rec .ready none with state := .busy })).heap[w.heap.size + 1]? = some (.loop { rec .ready none with state := .busy }) := World.putObj_heap_same hlt
     have hk2 : (W.putObj (w.heap.size + 1) (.loop { rec .ready none with state := .busy })).heap[w.heap.size]? = some (.deferred (some [])) := (World.putObj_heap_other (by omega)).trans hk
     refine wpIn_mono (hbody _ pre x _ (hIput _ _ _ _ (by omega) hlt hi) hpre) ?_
     rintro e a3 W3 hp
     cases e with
     | normal =>
      obtain ⟨hkeep, hi3⟩ := hp
      have hl3 := (hkeep _ (.inr (.inr rfl))).trans hl2
      have hk3 := (hkeep _ (.inr (.inl rfl))).trans hk2
      have hr := run_endRound (P := P) none hl3
      have hlt3 : w.heap.size + 1 < W3.heap.size := (Array.getElem?_eq_some_iff.1 hl3).1
      refine ⟨_, _, hr, rfl, ⟨hIput _ _ _ _ (by omega) hlt3 hi3, ?_, (World.putObj_heap_other (by omega)).trans hk3⟩, ?_⟩
      · rw [World.putObj_heap_same hlt3, hrec]; rfl
      · intro k hm
        have hkl := hMine k hm
        rw [World.putObj_heap_other (by omega), hkeep k (.inl hm), World.putObj_heap_other (by omega)]
     | ret => exact hp.elim
     | exit id => exact hp.elim
     | goto t => exact hp.elim
     | panic ch => exact hp.elim
     | outgrown => exact hp.elim
   · rintro e W2 ⟨⟨v, rfl⟩, hi, hl, hk⟩
     exact ⟨none, _, by have := run_endLoop (P := P) hl (by rw [hrec]; simp); rw [hrec] at this; exact this, hdone _ (hIput _ _ _ _ (by omega) (Array.getElem?_eq_some_iff.1 hl).1 hi) ((World.putObj_heap_other (by omega)).trans hk)⟩
end Go.Proofs.YtnpfhcnjkekhbaaGreatDoor.W1
