/-
  Layer 9: a region that yields; a loop over a function whose iterator makes rows of its own.
-/
import Derived.Test.YtnpfhcnjkekhbaaGreatDoorProg
import Derived.Test.YtnpfhcnjkekhbaaGreatDoorK16
import Derived.RangeFuncNested
import Derived.RangeFuncBound
import Derived.RangeFuncCalls
import Derived.RangeFuncLeaves
import Derived.RangeFuncFrom
import Derived.RangeFuncRecord
import Derived.OwnWalkIn
import Derived.TacticsInMore
import Derived.LoopNIn
import Derived.LoopIn
import Derived.TacticsIn
import Derived.OrdersIn
import Derived.Lib.QuietBelow
import Derived.StillTail
import Derived.WalkKit
import Derived.WalkLawsBesides
import Derived.Outline
import Derived.Lib.Hide
import Derived.Below
import Derived.BigQuiet
import Derived.Deep.QuietTactic
set_option maxRecDepth 100000
set_option maxHeartbeats 16000000
namespace Go.Proofs.YtnpfhcnjkekhbaaGreatDoor
open Go Go.Proofs Go.RowKit Go.Lib Go.Sort
theorem oper_wide9 {n : Nat} {P : Program} {o : Oper} {a : Act} {w : World} {K : Act → World → Prop} {Q : Exit → Act → World → Prop} (h : o.wp P a w K (Only Q)) : o.wpIn Fence.wide n P a w K Q := by
 unfold Oper.wp at h
 unfold Oper.wpIn
 refine ⟨fun _ _ => trivial, ?_⟩
 rw [show Fence.wide.round = none from rfl, Oper.semAt_none]
 generalize (execOp a.eval o).run P w = r at *
 cases r with
 | ok x w' =>
  cases x <;> simp only [Oper.upon] at h <;> simp only [Oper.uponIn]
  case value => exact h
  case skip => exact h
  case defer => exact h
  case enter f args =>
   refine ⟨(fun h => by cases h), callsIn_wide.2 (h.mono fun e w'' he => ?_)⟩
   cases e with
   | returned v => exact he
   | panicked c => exact he.elim
   | outgrown => exact absurd he (not_letsOut Q)
  case row row args =>
   refine ⟨(fun h => by cases h), fun c cs _ => ?_⟩
   obtain ⟨v, w'', r, s⟩ := h c cs
   exact ⟨v, w'', r, stepsIn_wide.2 s⟩
 | halt x w' => cases x <;> simp only [Oper.upon] at h <;> exact h.elim
theorem wpOp_wide9 {n : Nat} {P : Program} {ops : Array Oper} {i : Nat} {a : Act} {w : World} {K K' : Act → World → Prop} {Q : Exit → Act → World → Prop} (hk : ∀ a w, K a w → K' a w) (h : wpOp P ops (Only Q) i K a w) : wpOpIn Fence.wide n P ops Q i K' a w := by
 unfold wpOp at h
 unfold wpOpIn
 split
 · rename_i ho; simp only [ho] at h; exact hk _ _ h
 · rename_i o ho
   simp only [ho] at h
   split
   · rename_i hw
     simp only [hw, if_true] at h
     rcases h with h | ⟨_, h⟩
     · exact Oper.wpIn_mono hk (oper_wide9 h)
     · exact absurd h (not_letsOut Q)
   · rename_i hw
     simp only [hw] at h
     exact ⟨fun _ _ => trivial, hk _ _ h⟩
theorem wpAnyIn_seq9 {n : Nat} {P : Program} {ops : Array Oper} {md : Region.Mode} {Q : Exit → Act → World → Prop} : ∀ (tl : List Nat) (listed : Array Bool) (a : Act) (w : World),
 seqQ md ops tl listed = true → wpListIn Fence.wide n P ops Q (pickOps ops tl) a w → wpAnyIn Fence.wide n P md ops Q tl.length listed a w
 | [], _, _, _, hB, h => ⟨by simpa [seqQ] using hB, h⟩
 | k :: tl, listed, a, w, hB, h => by
  simp only [seqQ, Bool.and_eq_true, decide_eq_true_eq] at hB
  have hr : k ∈ Region.ready md ops listed := by rw [hB.1]; simp
  obtain ⟨_, o, h0, _⟩ := mem_ready.1 hr
  have hp : pickOps ops (k :: tl) = o :: pickOps ops tl := by unfold pickOps; rw [List.filterMap_cons, h0]
  rw [hp] at h
  refine ⟨fun h1 => (by rw [hB.1] at h1; cases h1), fun i hi => ?_⟩
  rw [hB.1] at hi
  have hik : i = k := by simpa using hi
  subst hik
  have hw : wpOpIn Fence.wide n P ops Q i (wpListIn Fence.wide n P ops Q (pickOps ops tl)) a w := by unfold wpOpIn; simp only [h0]; exact h
  exact wpOpIn_mono (fun a' w' h' => wpAnyIn_seq9 tl _ a' w' hB.2 h') hw
theorem wpAnyIn_head9 {n : Nat} {P : Program} {ops : Array Oper} {md : Region.Mode} {C : World → Prop} {Q : Exit → Act → World → Prop} {tl : List Nat} {g : Nat} {L : Array Bool → Act → World → Prop} (hL : ∀ listed a w, C w → L listed a w → wpAnyIn Fence.wide n P md ops Q g listed a w) :
 ∀ (f : Nat) (listed : Array Bool) (a : Act) (w : World), C w → wpAnyK P md ops (Only Q) C tl L f listed a w → wpAnyIn Fence.wide n P md ops Q (f + g) listed a w
 | 0, listed, a, w, hw, h => by rw [Nat.zero_add]; exact hL _ _ _ hw h
 | f + 1, listed, a, w, hw, h => by
  rw [show f + 1 + g = (f + g) + 1 by omega]
  exact ⟨fun h0 => absurd h0 h.1, fun i hi => wpOp_wide9 (fun a' w' h' => wpAnyIn_head9 hL f _ a' w' h'.1 h'.2) (h.2 i hi).2⟩
theorem wpIn_region_K9 {P : Program} {C : World → Prop} {Q : Exit → Act → World → Prop} {n id : Nat} {a : Act} {w : World} {l : List Oper} (tl : List Nat) (f : Nat) (l0 : Array Bool) (hm : P.follows .mixedOrders = true) (hf : f + tl.length = l.toArray.size) (hl0 : Array.replicate l.toArray.size false = l0) (hC : C { w with drawn := w.drawn + 1 })
 (h : ∀ wx, C wx → wpAnyK P .any l.toArray (Only Q) C tl (LastQ .any l.toArray tl (fun a2 w2 => wpListIn Fence.wide n P l.toArray Q (pickOps l.toArray tl) a2 w2)) f l0 a wx) : (Code.region id l.toArray true).wpIn Fence.wide n P Q a w := by
 refine wpIn_region_any hm ?_
 rw [hl0]
 have := wpAnyIn_head9 (n := n) (C := C) (g := tl.length) (fun listed a2 w2 _ hL => wpAnyIn_seq9 tl listed a2 w2 hL.1 hL.2) f _ a _ hC (h _ hC)
 rwa [hf] at this
def Post9 {α : Type} (D : Nat) (Kp : World → World → Prop) (I Ix : List α → World → Prop) (xs : List α) (W : World) : Exit → Act → World → Prop
 | .normal, _, W' => (W'.heap[D]? = W.heap[D]? ∧ W'.heap[D + 1]? = W.heap[D + 1]?) ∧ Kp W W' ∧ I xs W'
 | .ret, _, W' => (W'.heap[D]? = W.heap[D]? ∧ W'.heap[D + 1]? = W.heap[D + 1]?) ∧ Ix xs W'
 | _, _, _ => False
theorem rangeFunc_over9 {P : Program} {n : Nat} {g : Operand} {ps : Array Tmp} {assign body : Code} {Q : Exit → Act → World → Prop} {a : Act} {w : World}
 {gf : Nat} {lb : Array Value} (hg : a.eval g = .func (.func gf) #[] lb) (eg : ∀ args w, (callFunc gf args).run P w = .ok (.enter gf args) w)
 {α : Type} (encs : α → Array Value) (hps : ∀ x, (encs x).size = ps.size)
 (G : List α → α → Prop) (S : List α → World → Prop) (Kp : World → World → Prop)
 (hKt : ∀ A B C : World, Kp A B → Kp B C → Kp A C) (hKg : ∀ A B : World, Below A.heap.size A B → Kp A B)
 (hKl : ∀ (W : World) r o, W.heap[w.heap.size + 1]? = some (.loop r) → Kp W (W.putObj (w.heap.size + 1) o))
 (hSl : ∀ xs (W : World) r o, W.heap[w.heap.size + 1]? = some (.loop r) → S xs W → S xs (W.putObj (w.heap.size + 1) o))
 (hseq : ∀ (l : Nat) (J Jx : List α → World → Prop) (W : World), Below w.heap.size w W →
  (∀ s A B, J s A → Below A.heap.size A B → J s B) → (∀ s A B, Jx s A → Below A.heap.size A B → Jx s B) →
  (∀ pre x A, J pre A → G pre x → YieldAt Fence.wide (n - 1 - 1) P l (encs x) A fun e A' => (e = .returned (.bool true) ∧ J (pre ++ [x]) A' ∧ Kp A A') ∨ (e = .returned (.bool false) ∧ Jx (pre ++ [x]) A')) →
  J [] W → CallsIn Fence.wide (n - 1) P gf (#[.func (.yield l) #[] #[]] ++ lb) W fun e W' => (∃ v, e = .returned v) ∧ ((∃ xs, S xs W' ∧ J xs W') ∨ ∃ pre, Jx pre W'))
 (I Ix : List α → World → Prop) (hIg : ∀ s A B, I s A → Below A.heap.size A B → I s B) (hIxg : ∀ s A B, Ix s A → Below A.heap.size A B → Ix s B)
 (hIl : ∀ s (W : World) r o, W.heap[w.heap.size + 1]? = some (.loop r) → I s W → I s (W.putObj (w.heap.size + 1) o))
 (hIxl : ∀ s (W : World) r o, W.heap[w.heap.size + 1]? = some (.loop r) → Ix s W → Ix s (W.putObj (w.heap.size + 1) o))
 (h0 : I [] w) (asgW : α → World → World) (hasg : ∀ x W, Below W.heap.size W (asgW x W)) (a₁ : α → World → Act)
 (hassign : ∀ (l : Nat) (pre : List α) (x : α) (W : World) (K : Act → World → Prop), G pre x → K (a₁ x W) (asgW x W) →
  assign.wpIn (Fence.wide.inRound l) (n - 1 - 1) P (Exit.then K (fun _ _ _ => False)) { tmps := (ps.zip (encs x)).foldl (fun t (p, v) => t.setIfInBounds p v) a.tmps, defers := [] } W)
 (hbody : ∀ (l : Nat) (pre : List α) (x : α) (W W2 : World), I pre W2 → G pre x → w.heap.size + 1 < W.heap.size → (∀ k, W.heap.size ≤ k → W2.heap[k]? = (asgW x W).heap[k]?) →
  body.wpIn (Fence.wide.inRound l) (n - 1 - 1) P (Post9 w.heap.size Kp I Ix (pre ++ [x]) W2) (a₁ x W) W2)
 (hdone : ∀ xs W, S xs W → I xs W → W.heap[w.heap.size]? = some (.deferred (some [])) → Q .normal { a with defers := { target := .collected w.heap.size, args := #[] } :: a.defers } W)
 (hstop : ∀ pre W, Ix pre W → W.heap[w.heap.size]? = some (.deferred (some [])) → Code.ret.wpIn Fence.wide n P Q { a with defers := { target := .collected w.heap.size, args := #[] } :: a.defers } W) :
 (Code.rangeFunc g ps assign body).wpIn Fence.wide n P Q a w := by
 refine wpIn_rangeFunc ?_
 intro fn hfn
 obtain ⟨rec, hrec⟩ : ∃ rec : LoopState → Option Code → Loop, rec = fun st pe => { state := st, pending := pe, fn, tmps := a.tmps, params := ps, assign, body, defers := w.heap.size } := ⟨_, rfl⟩
 obtain ⟨W1, hW1⟩ : ∃ W1, (w.alloc (.deferred (some []))).alloc (.loop (rec .ready none)) = W1 := ⟨_, rfl⟩
 have hL1 : W1.heap[w.heap.size + 1]? = some (.loop (rec .ready none)) := by
  rw [← hW1]; have := World.alloc_heap_new (w.alloc (.deferred (some []))) (.loop (rec .ready none)); rwa [World.size_alloc] at this
 have hK1 : W1.heap[w.heap.size]? = some (.deferred (some [])) := by
  rw [← hW1]; exact (Below.heap_alloc _ _ _ (by simp)).trans (World.alloc_heap_new w _)
 have hB1 : Below w.heap.size w W1 := by
  rw [← hW1]; exact ((Below.refl _ _).alloc (Nat.le_refl _) _).alloc (by simp) _
 have hI1 : I [] W1 := hIg _ _ _ h0 hB1
 have keep : ∀ {A B : World} {k : Nat} {o : Obj}, A.heap[k]? = some o → Below A.heap.size A B → B.heap[k]? = some o := fun h hb => (hb.block _ (Array.getElem?_eq_some_iff.1 h).1).trans h
 refine ⟨w.heap.size + 1, [{ target := .collected w.heap.size, args := #[] }], W1, { target := .fn (.func gf) lb, args := #[.func (.yield (w.heap.size + 1)) #[] #[]] }, W1, gf,
  #[.func (.yield (w.heap.size + 1)) #[] #[]] ++ lb, W1, ?_, ?_, ?_, ?_, (fun h => by cases h), ?_⟩
 · rw [← hW1, hrec]; exact run_enterLoop_outer _ _ _ _ _
 · simp only [resolve, hg]
   simp [go_sem]
 · intro f' _; trivial
 · simp [invoke, go_sem, eg]
 · refine (hseq (w.heap.size + 1)
    (fun pre W => I pre W ∧ W.heap[w.heap.size + 1]? = some (.loop (rec .ready none)) ∧ W.heap[w.heap.size]? = some (.deferred (some [])))
    (fun pre W => Ix pre W ∧ W.heap[w.heap.size + 1]? = some (.loop (rec .done (some .ret))) ∧ W.heap[w.heap.size]? = some (.deferred (some [])))
    W1 hB1 (fun s A B h hb => ⟨hIg _ _ _ h.1 hb, keep h.2.1 hb, keep h.2.2 hb⟩) (fun s A B h hb => ⟨hIxg _ _ _ h.1 hb, keep h.2.1 hb, keep h.2.2 hb⟩) ?_ ⟨hI1, hL1, hK1⟩).mono ?_
   · rintro pre x W ⟨hi, hl, hk⟩ hG
     have hlt : w.heap.size + 1 < W.heap.size := (Array.getElem?_eq_some_iff.1 hl).1
     have hy := run_yield (P := P) (args := encs x) hl (by rw [hrec]; exact hps x)
     rw [hrec] at hy
     have hba := hasg x W
     have hla := keep hl hba
     have hka := keep hk hba
     have hlta : w.heap.size + 1 < (asgW x W).heap.size := Nat.lt_of_lt_of_le hlt hba.size
     refine ⟨fn, _, assign, body, hy, roundIn_of_wpIn hfn (hassign _ pre x W _ hG ⟨_, run_beginRound hla (by rw [hrec]), ?_⟩)⟩
     have hl2 : ((asgW x W).putObj (w.heap.size + 1) (.loop { rec .ready none with state := .busy })).heap[w.heap.size + 1]? = some (.loop { rec .ready none with state := .busy }) := World.putObj_heap_same hlta
     have hk2 : ((asgW x W).putObj (w.heap.size + 1) (.loop { rec .ready none with state := .busy })).heap[w.heap.size]? = some (.deferred (some [])) := (World.putObj_heap_other (by omega)).trans hka
     have hkp : Kp W ((asgW x W).putObj (w.heap.size + 1) (.loop { rec .ready none with state := .busy })) := hKt _ _ _ (hKg _ _ hba) (hKl _ _ _ hla)
     refine wpIn_mono (hbody _ pre x W _ (hIl _ _ _ _ hla (hIg _ _ _ hi hba)) hG hlt (fun k hk => World.putObj_heap_other (by omega))) ?_
     rintro e a3 W3 hp
     cases e with
     | normal =>
      obtain ⟨⟨hD, hL⟩, hkk, hi3⟩ := hp
      have hl3 := hL.trans hl2
      have hk3 := hD.trans hk2
      have hr := run_endRound (P := P) none hl3
      have hlt3 : w.heap.size + 1 < W3.heap.size := (Array.getElem?_eq_some_iff.1 hl3).1
      refine ⟨_, _, hr, .inl ⟨rfl, ⟨hIl _ _ _ _ hl3 hi3, ?_, (World.putObj_heap_other (by omega)).trans hk3⟩, hKt _ _ _ hkp (hKt _ _ _ hkk (hKl _ _ _ hl3))⟩⟩
      rw [World.putObj_heap_same hlt3, hrec]; rfl
     | ret =>
      obtain ⟨⟨hD, hL⟩, hi3⟩ := hp
      have hl3 := hL.trans hl2
      have hk3 := hD.trans hk2
      have hr := run_endRound (P := P) (some .ret) hl3
      have hlt3 : w.heap.size + 1 < W3.heap.size := (Array.getElem?_eq_some_iff.1 hl3).1
      refine ⟨_, _, hr, .inr ⟨rfl, hIxl _ _ _ _ hl3 hi3, ?_, (World.putObj_heap_other (by omega)).trans hk3⟩⟩
      rw [World.putObj_heap_same hlt3, hrec]; rfl
     | exit id => exact hp.elim
     | goto t => exact hp.elim
     | panic ch => exact hp.elim
     | outgrown => exact hp.elim
   · rintro e W2 ⟨⟨v, rfl⟩, (⟨xs, hS, hi, hl, hk⟩ | ⟨pre, hi, hl, hk⟩)⟩
     · exact ⟨none, _, by have := run_endLoop (P := P) hl (by rw [hrec]; simp); rw [hrec] at this; exact this, hdone xs _ (hSl _ _ _ _ hl hS) (hIl _ _ _ _ hl hi) ((World.putObj_heap_other (by omega)).trans hk)⟩
     · exact ⟨some .ret, _, by have := run_endLoop (P := P) hl (by rw [hrec]; simp); rw [hrec] at this; exact this, hstop pre _ (hIxl _ _ _ _ hl hi) ((World.putObj_heap_other (by omega)).trans hk)⟩
end Go.Proofs.YtnpfhcnjkekhbaaGreatDoor
