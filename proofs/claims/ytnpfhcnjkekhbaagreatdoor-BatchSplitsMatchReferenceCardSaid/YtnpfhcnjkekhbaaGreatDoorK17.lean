/-
  Inside a fence: a whole row loaded from, and stored into, a variable; a builtin whose run is known by an equation.
-/
import Derived.Test.YtnpfhcnjkekhbaaGreatDoorProg
import Derived.Test.YtnpfhcnjkekhbaaGreatDoorK10
import Derived.OwnWalkIn
import Derived.ControlIn
import Derived.WalkMore
import Derived.TacticsInMore
import Derived.Laws.Rows
import Derived.Laws.CopyOwn
import Derived.Lib.SliceRun
import Derived.Below
import Derived.OwnWalk
import Derived.RegionTactic
import Derived.ChangeAlike
import Derived.BigQuiet
import Derived.Deep.RegionWith
import Derived.Deep.CutRange
import Derived.Deep.DeepCutAuto
import Derived.Deep.RegionHeld3
import Derived.IntWalk
import Derived.Deep.QuietTactic
import Derived.WalkKit
import Derived.WalkLawsBesides
import Derived.Outline
import Derived.Lib.Hide
import Derived.Lib.EndianBits
set_option maxRecDepth 100000
set_option maxHeartbeats 16000000
namespace Go.Proofs.YtnpfhcnjkekhbaaGreatDoor
open Go Go.RowKit Go.Lib
variable {F : Fence} {n : Nat} {P : Program} {ops : Array Oper} {Q : Exit → Act → World → Prop} {a : Act} {w : World} {rest : List Oper} {o : Oper}
theorem fence_load_row (hgd : o.guard = none) (ty : TypeId) (x : Operand) (ho : o.op = .load ty x)
 (g : Nat) (hx : a.eval x = .pointer (some ⟨g, 0, none⟩)) (t : TypeId) (cs : Array Value) (fr : Nat × Nat) (d : TypeDesc) (hg : w.heap[g]? = some (.cells cs t fr))
 (hu : P.underlying ty = some d) (hd : (match d with | .struct _ | .array _ _ => true | _ => false) = true) (hi : (P.info? ty).map (·.size) = some cs.size)
 (h : wpListIn F n P ops Q rest (a.put o.dst (.agg cs)) w) : wpListIn F n P ops Q (o :: rest) a w := by
 refine wpListIn_plain hgd fun K hK' => ?_
 unfold Oper.wpIn
 refine ⟨by simp [Oper.about, ho], ?_⟩
 rw [Oper.semAt_plain F _ _ (by rw [ho]; intro c hc'; cases hc')]
 unfold execOp
 simp only [ho, hx, Instr.loadAt, Instr.sureAddr, Sem.run_bind, Sem.run_pure, Result.andThen_ok, run_loadVar_row w g t ty cs fr d hg hu hd hi]
 exact hK' _ _ h
theorem fence_store_row (hgd : o.guard = none) (ty : TypeId) (x y : Operand) (ho : o.op = .store ty x y)
 (g : Nat) (cells : Array Value) (hx : a.eval x = .pointer (some ⟨g, 0, none⟩)) (hy : a.eval y = .agg cells)
 (t : TypeId) (old : Array Value) (hg : w.heap[g]? = some (.cells old t (0, 0))) (hi : (P.info? ty).map (·.size) = some cells.size)
 (hold : old.size = cells.size) (h1 : cells.all (·.oneCell') = true)
 (h : wpListIn F n P ops Q rest (a.put o.dst undef) (w.setRow g cells)) : wpListIn F n P ops Q (o :: rest) a w := by
 refine wpListIn_plain hgd fun K hK' => ?_
 unfold Oper.wpIn
 refine ⟨by simp [Oper.about, ho], ?_⟩
 rw [Oper.semAt_plain F _ _ (by rw [ho]; intro c hc'; cases hc')]
 unfold execOp
 simp only [ho, hx, hy, Instr.storeAt, Instr.sureAddr, Sem.run_bind, Sem.run_pure, Result.andThen_ok, run_storeVar_row w g t ty old cells hg hi hold h1]
 exact hK' _ _ h
theorem fence_copy (hgd : o.guard = none) (d s : Operand) (t t' : TypeId)
 (ho : o.op = .call { callee := .builtin .copy, args := #[d, s], argTypes := #[t, t'] }) (v u : Value) (hd : a.eval d = v) (hs : a.eval s = u) {v' : Value} {w' : World}
 (hr : (Builtin.copy_ #[t, t'] o.type #[v, u]).run P w = .ok v' w') (h : wpListIn F n P ops Q rest (a.put o.dst v') w') : wpListIn F n P ops Q (o :: rest) a w := by
 refine wpListIn_plain hgd fun K hK' => ?_
 unfold Oper.wpIn
 refine ⟨by simp [Oper.about, ho, resolve, Target.leads, Sem.run_pure], ?_⟩
 rw [Oper.semAt_plain F _ _ (by rw [ho]; intro c hc'; cases hc')]
 simp only [execOp, ho, resolve, invoke, builtin, Sem.run_bind, Sem.run_pure, Result.andThen_ok, List.map_toArray, List.map_cons, List.map_nil, hd, hs, hr]
 exact hK' _ _ h
theorem fence_clear (hgd : o.guard = none) (d : Operand) (t : TypeId)
 (ho : o.op = .call { callee := .builtin .clear, args := #[d], argTypes := #[t] }) (v : Value) (hd : a.eval d = v) {v' : Value} {w' : World}
 (hr : (Builtin.clear_ #[t] o.type #[v]).run P w = .ok v' w') (h : wpListIn F n P ops Q rest (a.put o.dst v') w') : wpListIn F n P ops Q (o :: rest) a w := by
 refine wpListIn_plain hgd fun K hK' => ?_
 unfold Oper.wpIn
 refine ⟨by simp [Oper.about, ho, resolve, Target.leads, Sem.run_pure], ?_⟩
 rw [Oper.semAt_plain F _ _ (by rw [ho]; intro c hc'; cases hc')]
 simp only [execOp, ho, resolve, invoke, builtin, Sem.run_bind, Sem.run_pure, Result.andThen_ok, List.map_toArray, List.map_cons, List.map_nil, hd, hr]
 exact hK' _ _ h
/-! A scope through which the run goes without a goto, inside a fence. -/
section
variable {b : Frame} {k : List Item} {cs : List Frame}
theorem stepR_scope {c : Code} : step P (lone (b.atR a (.code (.scope c) :: k)) cs w) = .next (lone (b.atR a (.code c :: .inScope c :: k)) cs w) :=
 step_lone_go (by simp [stepG, stepG.exec, Frame.atR])
theorem stepR_inScope {c : Code} : step P (lone (b.atR a (.inScope c :: k)) cs w) = .next (lone (b.atR a k) cs w) :=
 step_lone_go (by simp [stepG, stepG.exec, Frame.atR])
end
theorem wpIn_scope_straight {c : Code} (h : c.wpIn F n P (Exit.noGoto Q) a w) : (Code.scope c).wpIn F n P Q a w := by
 intro b k cs hro hb hr
 have h0 : (lone (b.atR a (.code (.scope c) :: k)) cs w).fenced P F := fenced_calm hb hr rfl
 obtain ⟨e, a₁, w₁, hq, harr⟩ := h b (.inScope c :: k) cs hro hb hr
 cases e with
 | normal => exact ⟨.normal, a₁, w₁, hq, .head h0 stepR_scope (StepsIn.trans harr (.one (fenced_calm hb hr rfl) stepR_inScope))⟩
 | exit id =>
  have hx : exitTo id (.inScope c :: k) = exitTo id k := by simp [exitTo]
  exact ⟨.exit id, a₁, w₁, hq, fun k' hk => .head h0 stepR_scope (harr.1 k' (by rw [hx]; exact hk)),
   fun hr' hk => let ⟨k₁, h1, h2⟩ := harr.2 hr' (by rw [hx]; exact hk); ⟨k₁, h1, .head h0 stepR_scope h2⟩⟩
 | goto l => exact hq.elim
 | ret => exact ⟨_, a₁, w₁, hq, .of_steps (.one h0 stepR_scope) harr⟩
 | panic ch => exact ⟨_, a₁, w₁, hq, .of_steps (.one h0 stepR_scope) harr⟩
 | outgrown => exact ⟨_, a₁, w₁, hq, .of_steps (.one h0 stepR_scope) harr⟩
/-! Blocks of bytes: many cells at once. -/
theorem setCells_below {m : Nat} {w0 w : World} (h : Below m w0 w) {g : Nat} (hg : m ≤ g) : ∀ (vs : List Value) (o : Nat), Below m w0 (w.setCells g o vs)
 | vs, o => by
  induction vs generalizing o w with
  | nil => exact h
  | cons v vs ih => exact ih (h.setCell hg v) (o + 1)
def byteVals (l : List Nat) : List Value := l.map fun n => Value.int .u8 ((n : Nat) : Int)
theorem Is8.cells {g : Nat} {t : TypeId} : ∀ (v : List Nat) (o : Nat) (l : List Nat) (w : World), Is8 w g t l → o + v.length ≤ l.length →
 Is8 (w.setCells g o (byteVals v)) g t (l.take o ++ v ++ l.drop (o + v.length))
 | [], o, l, w, h, _ => by simpa [byteVals, World.setCells] using h
 | x :: v, o, l, w, h, hl => by
  have ih := Is8.cells v (o + 1) (l.set o x) _ (h.store o x) (by simp at hl ⊢; omega)
  have e : (l.set o x).take (o + 1) ++ v ++ (l.set o x).drop (o + 1 + v.length) = l.take o ++ (x :: v) ++ l.drop (o + (x :: v).length) := by
   have ho : o < l.length := by simp at hl; omega
   have e1 : (l.set o x).take (o + 1) = l.take o ++ [x] := by
    rw [List.take_succ_eq_append_getElem (by simp; omega)]; simp [List.take_set]
    exact List.set_eq_of_length_le (by simp; omega)
   rw [e1, List.drop_set_of_lt (by omega)]
   simp [Nat.add_assoc, Nat.add_comm 1]
  rw [e] at ih
  exact ih
theorem copy_bytes (w : World) (ts tb te : TypeId) (ty : TypeId) (hs : P.underlying ts = some (.slice te)) (hz : ∀ w, (sizeOf te).run P w = .ok 1 w) (g f k c : Nat) (s : ByteArray) (l : List Nat) (t : TypeId) (h : Is8 w g t l) (hf : f + min s.size k ≤ l.length) :
 (Builtin.copy_ #[ts, tb] ty #[.slice (some ⟨g, f, none⟩) k c, .string s]).run P w = .ok (.int .i64 ((min s.size k : Nat) : Int)) (w.setCells g f (byteVals ((natsOf s).take (min s.size k)))) := by
 have hcs : List.take (s.size.min k) (List.map (fun b : UInt8 => Value.int .u8 b.toNat) s.data.toList) = byteVals ((natsOf s).take (min s.size k)) := by
  show List.take (min s.size k) _ = _
  simp only [byteVals, natsOf, ← List.map_take, List.map_map]
  rfl
 have hlen : (byteVals ((natsOf s).take (min s.size k))).length = min s.size k := by
  simp only [byteVals, natsOf, List.length_map, List.length_take, Array.length_toList, ByteArray.size_data]; omega
 have hst := run_storeCells_cells (P := P) g f (byteVals ((natsOf s).take (min s.size k))) 0 w (by
  intro j hj
  rw [hlen] at hj
  rw [Nat.add_zero, h.cell (f + j) (by omega)]; rfl) (fun j _ => h.frozen _) (by
  intro v hv
  simp only [byteVals, List.mem_map] at hv
  obtain ⟨x, _, rfl⟩ := hv
  rfl)
 rw [Nat.add_zero] at hst
 rw [← hcs] at hst
 unfold Builtin.copy_
 simp [run_underlying hs, hz, Builtin.lenOf, Builtin.firstCells, hst, goInt, ← hcs]
theorem clear_none (w : World) (ts te : TypeId) (ty : TypeId) (hs : P.underlying ts = some (.slice te)) (a : Option Addr) (c : Nat) : (Builtin.clear_ #[ts] ty #[.slice a 0 c]).run P w = .ok (.tuple #[]) w := by
 unfold Builtin.clear_
 cases a <;> simp [run_underlying hs]
theorem clear_bytes (w : World) (ts te : TypeId) (ty : TypeId) (hs : P.underlying ts = some (.slice te)) (hv : ∀ w, (zeroValue te).run P w = .ok (.int .u8 0) w) (g f k c : Nat) (l : List Nat) (t : TypeId) (h : Is8 w g t l) (hk : 0 < k) (hf : f + k ≤ l.length) :
 (Builtin.clear_ #[ts] ty #[.slice (some ⟨g, f, none⟩) k c]).run P w = .ok (.tuple #[]) (w.setCells g f (byteVals (List.replicate k 0))) := by
 have := run_clear_slice (P := P) w ts te ty (.int .u8 0) hs hv rfl rfl g f k c hk (fun j hj => by rw [h.cell (f + j) (by omega)]; rfl) (fun j _ => h.frozen _)
 rw [this]
 simp [byteVals]
theorem fence_copy_bytes (hgd : o.guard = none) (d s : Operand) (ts tb te : TypeId) (ho : o.op = .call { callee := .builtin .copy, args := #[d, s], argTypes := #[ts, tb] })
 (hs : P.underlying ts = some (.slice te)) (hz : ∀ w, (sizeOf te).run P w = .ok 1 w) (g f k c : Nat) (str : ByteArray) (l : List Nat) (t : TypeId)
 (hd : a.eval d = .slice (some ⟨g, f, none⟩) k c) (hsrc : a.eval s = .string str) (h : Is8 w g t l) (m : Nat) (hm : min str.size k = m) (hf : f + m ≤ l.length) (l' : List Nat) (hl' : l.take f ++ (natsOf str).take m ++ l.drop (f + m) = l')
 (hK : ∀ w', Hid (Is8 w' g t l') → Below g w w' → wpListIn F n P ops Q rest (a.put o.dst (.int .i64 (m : Nat))) w') : wpListIn F n P ops Q (o :: rest) a w := by
 subst hm hl'
 refine fence_copy hgd d s ts tb ho _ _ hd hsrc (copy_bytes w ts tb te o.type hs hz g f k c str l t h hf) (hK _ ?_ (setCells_below (Below.refl _ _) (Nat.le_refl _) _ _))
 have := Is8.cells (g := g) (t := t) ((natsOf str).take (min str.size k)) f l w h (by simp only [natsOf, List.length_take, List.length_map, Array.length_toList, ByteArray.size_data]; omega)
 have hlen : ((natsOf str).take (min str.size k)).length = min str.size k := by
  simp only [natsOf, List.length_take, List.length_map, Array.length_toList, ByteArray.size_data]; omega
 rw [hlen] at this
 exact this
theorem fence_clear_bytes (hgd : o.guard = none) (d : Operand) (ts te : TypeId) (ho : o.op = .call { callee := .builtin .clear, args := #[d], argTypes := #[ts] })
 (hs : P.underlying ts = some (.slice te)) (hv : ∀ w, (zeroValue te).run P w = .ok (.int .u8 0) w) (g f k c : Nat) (ad : Option Addr) (l : List Nat) (t : TypeId)
 (hd : a.eval d = .slice ad k c) (had : 0 < k → ad = some ⟨g, f, none⟩) (h : Is8 w g t l) (hf : f + k ≤ l.length) (l' : List Nat) (hl' : l.take f ++ List.replicate k 0 ++ l.drop (f + k) = l')
 (hK : ∀ w', Hid (Is8 w' g t l') → Below g w w' → wpListIn F n P ops Q rest (a.put o.dst (.tuple #[])) w') : wpListIn F n P ops Q (o :: rest) a w := by
 subst hl'
 by_cases hk : k = 0
 · subst hk
   refine fence_clear hgd d ts ho _ hd (clear_none w ts te o.type hs ad c) (hK _ ?_ (Below.refl _ _))
   have : l.take f ++ List.replicate 0 0 ++ l.drop (f + 0) = l := by simp
   rw [this]; exact h
 · obtain rfl := had (by omega)
   refine fence_clear hgd d ts ho _ hd (clear_bytes w ts te o.type hs hv g f k c l t h (by omega) hf) (hK _ ?_ (setCells_below (Below.refl _ _) (Nat.le_refl _) _ _))
   have := Is8.cells (g := g) (t := t) (List.replicate k 0) f l w h (by simp; omega)
   rw [List.length_replicate] at this
   exact this
end Go.Proofs.YtnpfhcnjkekhbaaGreatDoor
