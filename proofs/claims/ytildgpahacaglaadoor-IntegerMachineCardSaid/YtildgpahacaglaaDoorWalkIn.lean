/-
  An append as one step of a drawn region, in whatever fence.
-/
import Derived.Test.YtildgpahacaglaaDoorQuot2
import Derived.Stop.RegionWithIn
namespace Go.Proofs.YtildgpahacaglaaDoor
open Go Go.Proofs Go.RowKit Go.Lib

attribute [local go_sem] Oper.semAt_some

/-- An append, as one step of a drawn region, in whatever fence. -/
theorem step_appendIn {F : Fence} {n : Nat} {P : Program} {y : Nat → Option Bool} {o : Oper} {a : Act} {w : World} {K : Act → World → Prop} {Q : Exit → Act → World → Prop} {E : Prop}
    (hg : o.guard = none) (s x : Operand) (t : TypeId) (hop : o.op = Op.call { callee := Callee.builtin Builtin.append, args := #[s, x], argTypes := #[t, t] }) (ht : o.type = t)
    (u v : Value) (hs : a.eval s = u) (hx : a.eval x = v) (r : Value) (W' : World) (hrun : (Builtin.append_ #[t, t] t #[u, v]).run P w = .ok r W') (hK : K (a.put o.dst r) W') :
    if Region.wanted o y = true then Oper.wpIn F n P o a w K Q else E := by
  have hw : Region.wanted o y = true := by simp [Region.wanted, hg]
  rw [if_pos hw]
  unfold Oper.wpIn
  refine ⟨by simp [Oper.about, hop, resolve, Target.leads, Sem.run_pure], ?_⟩
  rw [Oper.semAt_eq _ _ _ (by intro c hc; rw [hop] at hc; cases hc)]
  simp [execOp, hop, ht, resolve, invoke, builtin, hs, hx, hrun, Result.andThen]
  exact hK

end Go.Proofs.YtildgpahacaglaaDoor
