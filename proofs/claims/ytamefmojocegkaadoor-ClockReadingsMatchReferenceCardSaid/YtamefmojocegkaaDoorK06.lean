/-
  Inside a round of a loop over a function: a region is walked as outside of it.
-/
import Derived.Test.YtamefmojocegkaaDoorProg
import Derived.Test.YtamefmojocegkaaDoorK01
import Derived.RangeFuncCalls
import Derived.TacticsIn
import Derived.OrdersIn
import Derived.Lib.QuietBelow
import Derived.StillTail
import Derived.WalkKit
import Derived.WalkLawsBesides
import Derived.Outline
import Derived.Lib.Hide
import Derived.Below
import Derived.BigQuiet
import Derived.Deep.QuietTactic
set_option maxRecDepth 100000
set_option maxHeartbeats 16000000
namespace Go.Proofs.YtamefmojocegkaaDoor
open Go Go.Proofs Go.RowKit Go.Lib Go.Sort
def Only (Q : Exit → Act → World → Prop) : Exit → Act → World → Prop := fun e a w => match e with | .normal => Q .normal a w | _ => False
theorem Only.normal {Q : Exit → Act → World → Prop} {a : Act} {w : World} (h : Q .normal a w) : Only Q .normal a w := h
theorem not_letsOut (Q : Exit → Act → World → Prop) : ¬ LetsOut (Only Q) := fun ⟨_, _, h⟩ => h
def noDefer (ops : Array Oper) : Bool := ops.all fun o => match o.op with | .defer _ => false | _ => true
theorem noDefer_of {ops : Array Oper} (h : noDefer ops = true) {i : Nat} {o : Oper} (hi : ops[i]? = some o) : ∀ c, o.op ≠ .defer c := fun c e => by
 have := Array.all_eq_true_iff_forall_mem.1 h o (Array.mem_of_getElem? hi)
 rw [e] at this
 cases this
theorem oper_round {l n : Nat} {P : Program} {o : Oper} {a : Act} {w : World} {K : Act → World → Prop} {Q : Exit → Act → World → Prop} (hd : ∀ c, o.op ≠ .defer c) (h : o.wp P a w K (Only Q)) : o.wpIn (Fence.wide.inRound l) n P a w K Q := by
 unfold Oper.wp at h
 unfold Oper.wpIn
 refine ⟨fun _ _ => trivial, ?_⟩
 rw [show (Fence.wide.inRound l).round = some l from rfl, Oper.semAt_some l _ _ hd]
 generalize (execOp a.eval o).run P w = r at *
 cases r with
 | ok x w' =>
  cases x <;> simp only [Oper.upon] at h <;> simp only [Oper.uponIn]
  case value => exact h
  case skip => exact h
  case defer => exact h
  case enter f args =>
   refine ⟨(fun h => by cases h), CallsIn.inRound l (callsIn_wide.2 (h.mono fun e w'' he => ?_))⟩
   cases e with
   | returned v => exact he
   | panicked c => exact he.elim
   | outgrown => exact absurd he (not_letsOut Q)
  case row row args =>
   refine ⟨(fun h => by cases h), fun c cs _ => ?_⟩
   obtain ⟨v, w'', r, s⟩ := h c cs
   exact ⟨v, w'', r, stepsIn_wide.2 s⟩
 | halt x w' => cases x <;> simp only [Oper.upon] at h <;> exact h.elim
theorem wpOp_round {l n : Nat} {P : Program} {ops : Array Oper} {i : Nat} {a : Act} {w : World} {K K' : Act → World → Prop} {Q : Exit → Act → World → Prop} (hd : noDefer ops = true) (hk : ∀ a w, K a w → K' a w) (h : wpOp P ops (Only Q) i K a w) : wpOpIn (Fence.wide.inRound l) n P ops Q i K' a w := by
 unfold wpOp at h
 unfold wpOpIn
 split
 · rename_i ho; simp only [ho] at h; exact hk _ _ h
 · rename_i o ho
   simp only [ho] at h
   split
   · rename_i hw
     simp only [hw, if_true] at h
     rcases h with h | ⟨_, h⟩
     · exact Oper.wpIn_mono hk (oper_round (noDefer_of hd ho) h)
     · exact absurd h (not_letsOut Q)
   · rename_i hw
     simp only [hw] at h
     exact ⟨fun _ _ => trivial, hk _ _ h⟩
theorem wpAny_round {l n : Nat} {P : Program} {md : Region.Mode} {ops : Array Oper} {Q : Exit → Act → World → Prop} (hd : noDefer ops = true) : ∀ (fuel : Nat) (listed : Array Bool) (a : Act) (w : World), wpAny P md ops (Only Q) fuel listed a w → wpAnyIn (Fence.wide.inRound l) n P md ops Q fuel listed a w
 | 0, _, _, _, h => h
 | fuel + 1, _, _, _, h => ⟨h.1, fun i hi => wpOp_round hd (fun a' w' h' => wpAny_round hd fuel _ a' w' h') (h.2 i hi)⟩
theorem wpList_round {l n : Nat} {P : Program} {ops : Array Oper} {Q : Exit → Act → World → Prop} : ∀ (os : List Oper) (a : Act) (w : World), (∀ o ∈ os, ∀ c, o.op ≠ .defer c) → wpList P ops (Only Q) os a w → wpListIn (Fence.wide.inRound l) n P ops Q os a w
 | [], _, _, _, h => h
 | o :: os, a, w, hd, h => by
  simp only [wpList] at h
  simp only [wpListIn]
  split
  · rename_i hw
    simp only [hw, if_true] at h
    rcases h with h | ⟨_, h⟩
    · exact Oper.wpIn_mono (fun a' w' h' => wpList_round os a' w' (fun o' ho => hd o' (List.mem_cons_of_mem _ ho)) h') (oper_round (hd o List.mem_cons_self) h)
    · exact absurd h (not_letsOut Q)
  · rename_i hw
    simp only [hw] at h
    exact ⟨fun _ _ => trivial, wpList_round os _ _ (fun o' ho => hd o' (List.mem_cons_of_mem _ ho)) h⟩
theorem wpIn_region_roundL {l n id : Nat} {P : Program} {os : List Oper} {Q : Exit → Act → World → Prop} {a : Act} {w : World} (hd : noDefer os.toArray = true) (h2 : wpList P os.toArray (Only Q) os a w) :
 (Code.region id os.toArray false).wpIn (Fence.wide.inRound l) n P Q a w :=
 wpIn_region_lit (wpList_round os a w (fun o ho c => by
  obtain ⟨i, hi⟩ := List.getElem?_of_mem ho
  exact noDefer_of hd (i := i) (by simpa using hi) c) h2)
theorem wpIn_region_roundK {P : Program} {C : World → Prop} {Q : Exit → Act → World → Prop} {l' n id : Nat} {a : Act} {w : World} {l : List Oper} (tl : List Nat) (f : Nat) (l0 : Array Bool) (hm : P.follows .mixedOrders = true) (hd : noDefer l.toArray = true) (hf : f + tl.length = l.toArray.size) (hl0 : Array.replicate l.toArray.size false = l0) (hC : C { w with drawn := w.drawn + 1 })
 (h : ∀ wx, C wx → wpAnyK P .any l.toArray (Only Q) C tl (LastQ .any l.toArray tl (fun a2 w2 => wpList P l.toArray (Only Q) (pickOps l.toArray tl) a2 w2)) f l0 a wx) : (Code.region id l.toArray true).wpIn (Fence.wide.inRound l') n P Q a w := by
 refine wpIn_region_any hm (wpAny_round hd _ _ _ _ ?_)
 rw [hl0]
 have := wpAny_of_headK (C := C) (g := tl.length) (fun listed a2 w2 _ hL => wpAny_of_seqQ tl listed a2 w2 hL.1 hL.2) f _ a _ hC (h _ hC)
 rwa [hf] at this
end Go.Proofs.YtamefmojocegkaaDoor
