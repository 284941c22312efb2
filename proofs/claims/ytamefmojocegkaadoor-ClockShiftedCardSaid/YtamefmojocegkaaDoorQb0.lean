/-
  Layer 8: a part of a slice from a place on, for every kind of rows; a list appended to a row of one's own, as an operation that draws its turn.
-/
import Derived.Test.YtamefmojocegkaaDoorK04
namespace Go.Proofs.YtamefmojocegkaaDoor
open Go Go.Proofs Go.RowKit Go.Lib Go.Sort

theorem RowK.from8 {T : Type} (K : RowK T) (b o n c k : Nat) (hk : k ≤ n) (hc : n ≤ c) : ∃ ad, (∀ w, (Instr.slice K.st (.slice (some ⟨b, o, none⟩) n c) (some (.int .i64 (k : Int))) none none).run Tryd.prog w = .ok (.slice ad (n - k) (c - k)) w) ∧ (k < n → ad = some ⟨b, o + K.n * k, none⟩) ∧ (ad = none → c - k = 0) := by
  have hu := K.und
  rw [← K.elem] at hu
  obtain ⟨i0, hi, hz0, hz1, hz2⟩ := info_parts K.info
  rw [← K.elem] at hi
  have hs : ∀ w, (Go.sizeOf (Tryd.prog.elem K.st)).run Tryd.prog w = .ok K.n w := fun w => by simp [sizeOf, typeInfo, hi, Result.andThen, hz1]
  by_cases h : c = k
  · refine ⟨some ⟨b, o, none⟩, fun w => ?_, fun h2 => by omega, fun h2 => by cases h2⟩
    rw [run_slice_l w _ _ _ _ hu .i64 _ (by omega) (by omega), hs]
    subst h
    simp [Result.andThen, sliced]
  · refine ⟨some ⟨b, o + K.n * k, none⟩, fun w => ?_, fun _ => rfl, fun h2 => by cases h2⟩
    rw [run_slice_l w _ _ _ _ hu .i64 _ (by omega) (by omega), hs]
    simp only [Result.andThen, sliced, Int.toNat_natCast, if_neg h, Option.map_some, add_at8, Nat.mul_comm]
theorem RL.from8 {T : Type} {K : RowK T} {W : World} {b o : Nat} {l : List T} (h : RL K W (some ⟨b, o, none⟩) l) (k : Nat) (hk : k ≤ l.length) {ad : Option Addr} (ha : k < l.length → ad = some ⟨b, o + K.n * k, none⟩) : RL K W ad (l.drop k) := by
  by_cases h2 : k < l.length
  · rw [ha h2]
    have := h.sub k (l.length - k) (by omega)
    rwa [List.take_of_length_le (by rw [List.length_drop]; exact Nat.le_refl _)] at this
  · exact .inl (List.drop_of_length_le (by omega))
/-- A list is appended to a row of one's own, whatever it holds. -/
theorem run_append_any8 {T : Type} (K : RowK T) (w : World) (n : Nat) (ty : TypeId) (l p : List T) (hn : n ≤ w.heap.size) (ad : Option Addr) (c : Nat) (hr : RL K w ad p) (hnone : ad = none → c = 0) (hl : l.length + p.length ≤ 100000000) (v : Value) (hown : Own K w n v l) :
    ∃ v' w', (Builtin.append_ #[K.st, K.st] ty #[v, .slice ad p.length c]).run Tryd.prog w = .ok v' w' ∧ Own K w' n v' (l ++ p) ∧ w.grownBy w' v.ownBlock ∧ (v'.ownBlock = v.ownBlock ∨ v'.ownBlock = some w.heap.size) := by
  obtain ⟨i0, hi, hz0, hz1, hz2⟩ := info_parts K.info
  rcases hr with hr | ⟨b, o, had, hb, h3⟩
  · subst hr
    cases ad with
    | none =>
      obtain rfl := hnone rfl
      refine ⟨v, w, ?_, by rw [List.append_nil]; exact hown, World.grownBy.refl _ _, .inl rfl⟩
      exact run_append_owned_none (P := Tryd.prog) w n K.st ty K.et i0 K.n K.und hi v l.length _ hown
    | some a => exact K.push w n ty v l [] hown hn a 0 c rfl (fun j u hj => by simp [RowK.vs] at hj) (by simpa using hl)
  · subst had
    exact K.push w n ty v l p hown hn ⟨b, o, none⟩ p.length c rfl (RL.cells8 h3) hl
theorem oper_append8 {T : Type} (K : RowK T) {o : Oper} {a : Act} {w : World} {KK : Act → World → Prop} {Q : Exit → Act → World → Prop}
    (s x : Operand) (hop : o.op = Op.call { callee := Callee.builtin Builtin.append, args := #[s, x], argTypes := #[K.st, K.st] })
    (n : Nat) (v : Value) (l p : List T) (hs : a.eval s = v) (hown : Own K w n v l) (hn : n ≤ w.heap.size) (ad : Option Addr) (m c : Nat) (hx : a.eval x = .slice ad m c) (hm : m = p.length) (hr : RL K w ad p) (hnone : ad = none → c = 0) (hl : l.length + p.length ≤ 100000000)
    (hK : ∀ v' w', Own K w' n v' (l ++ p) → w.grownBy w' v.ownBlock → (v'.ownBlock = v.ownBlock ∨ v'.ownBlock = some w.heap.size) → KK (a.put o.dst v') w') : o.wp Tryd.prog a w KK Q := by
  subst hm
  obtain ⟨v', w', hrun, r1, r2, r3⟩ := run_append_any8 K w n o.type l p hn ad c hr hnone hl v hown
  unfold Oper.wp
  simp [execOp, hop, resolve, invoke, builtin, hs, hx, hrun, Result.andThen]
  exact hK _ _ r1 r2 r3
theorem RowK.upto8 {T : Type} (K : RowK T) (b o n c k : Nat) (hk : k ≤ c) (w : World) : (Instr.slice K.st (.slice (some ⟨b, o, none⟩) n c) none (some (.int .i64 (k : Int))) none).run Tryd.prog w = .ok (.slice (some ⟨b, o, none⟩) k c) w := by
  have hu := K.und
  rw [← K.elem] at hu
  obtain ⟨i0, hi, hz0, hz1, hz2⟩ := info_parts K.info
  rw [← K.elem] at hi
  have hs : ∀ w, (Go.sizeOf (Tryd.prog.elem K.st)).run Tryd.prog w = .ok K.n w := fun w => by simp [sizeOf, typeInfo, hi, Result.andThen, hz1]
  rw [run_slice_h w _ _ _ _ hu .i64 _ (by omega) (by omega), hs]
  simp [Result.andThen, sliced, Addr.add]
theorem rl_own8 {T : Type} {K : RowK T} {W : World} {base n c : Nat} {ad : Option Addr} {l : List T} (h : Own K W base (.slice ad n c) l) : RL K W ad l := by
  obtain ⟨ad2, c2, e1, _, h⟩ := h.rn
  injection e1 with e1 e2 e3
  rw [e1]; exact h.rl
end Go.Proofs.YtamefmojocegkaaDoor
