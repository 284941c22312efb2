/-
  Layer 8: rows of elements of some cells each: what a slice reads as, and rows of one's own.
-/
import Derived.Test.YtifdcfjllonmgaaDoorHa
import Derived.Laws.Rows
import Derived.Laws.OwnMore
import Derived.OwnWalk
namespace Go.Proofs.YtifdcfjllonmgaaDoor
open Go Go.Proofs Go.RowKit Go.Lib

/-- A kind of rows: how many cells an element has, and which. -/
structure RowK (T : Type) where
  n : Nat
  bytes : Nat
  et : TypeId
  st : TypeId
  zero : Value
  cs : T → List Value
  len : ∀ x, (cs x).length = n
  one : ∀ x u, u ∈ cs x → u.oneCell' = true
  pos : 0 < n
  bb : bytes ≤ 1000
  und : Tryd.prog.underlying st = some (.slice et)
  elem : Tryd.prog.elem st = et
  info : (Tryd.prog.info? et).map (fun i => (i.zero, i.size, i.bytes)) = some (some zero, n, bytes)
  zs : zero.cells.size = n
variable {T : Type}
def RowK.vs (K : RowK T) (l : List T) : List Value := l.flatMap K.cs
theorem RowK.vs_length (K : RowK T) : ∀ (l : List T), (K.vs l).length = l.length * K.n
  | [] => by simp [RowK.vs]
  | x :: l => by
    have := K.vs_length l
    unfold RowK.vs at *
    rw [List.flatMap_cons, List.length_append, this, List.length_cons, K.len, Nat.add_mul]
    omega
theorem RowK.vs_append (K : RowK T) (a b : List T) : K.vs (a ++ b) = K.vs a ++ K.vs b := List.flatMap_append
theorem RowK.vs_get (K : RowK T) : ∀ (l : List T) (i j : Nat) (hi : i < l.length) (_ : j < K.n), (K.vs l)[K.n * i + j]? = (K.cs l[i])[j]?
  | [], i, j, h, _ => absurd h (Nat.not_lt_zero _)
  | x :: l, 0, j, _, hj => by
    show (K.cs x ++ K.vs l)[K.n * 0 + j]? = _
    rw [Nat.mul_zero, Nat.zero_add, List.getElem?_append_left (by rw [K.len]; exact hj)]
    rfl
  | x :: l, i + 1, j, h, hj => by
    show (K.cs x ++ K.vs l)[K.n * (i + 1) + j]? = _
    have e : K.n * (i + 1) = K.n * i + K.n := by rw [Nat.mul_add, Nat.mul_one]
    rw [List.getElem?_append_right (by rw [K.len, e]; omega), show K.n * (i + 1) + j - (K.cs x).length = K.n * i + j by rw [K.len, e]; omega]
    exact K.vs_get l i j (by simpa using h) hj
theorem RowK.vs_one (K : RowK T) (l : List T) : ∀ u ∈ K.vs l, u.oneCell' = true := by
  intro u hu
  unfold RowK.vs at hu
  simp only [List.mem_flatMap] at hu
  obtain ⟨x, _, hx⟩ := hu
  exact K.one x u hx
theorem add_at8 (g o k : Nat) : (⟨g, o, none⟩ : Addr).add k = ⟨g, o + k, none⟩ := by unfold Addr.add; split <;> simp_all
theorem below_up8 {w W W2 : World} (b : Below w.heap.size w W) (b2 : Below W.heap.size W W2) : Below w.heap.size w W2 := b.trans (b2.mono b.size)
theorem RowK.at_ (K : RowK T) (g o n c k : Nat) (hk : k < n) (w : World) : (Instr.indexAt K.st (.slice (some ⟨g, o, none⟩) n c) (.int .i64 (k : Int))).run Tryd.prog w = .ok (.pointer (some ⟨g, o + K.n * k, none⟩)) w := by
  have hu := K.und
  rw [← K.elem] at hu
  obtain ⟨i0, hi, hz0, hz1, hz2⟩ := info_parts K.info
  rw [← K.elem] at hi
  rw [run_indexAt_slice w K.st _ _ _ _ _ hu, if_pos (by omega)]
  simp [sizeOf, typeInfo, hi, add_at8, Result.andThen, Nat.mul_comm, hz1]
/-- A slice reads as a list. -/
def RL (K : RowK T) (W : World) (ad : Option Addr) (l : List T) : Prop :=
  l = [] ∨ ∃ b o, ad = some ⟨b, o, none⟩ ∧ b < W.heap.size ∧ ∀ i (h : i < l.length) j, j < K.n → W.cell? ⟨b, o + K.n * i + j, none⟩ = (K.cs l[i])[j]?
theorem RL.nil (K : RowK T) (W : World) (ad : Option Addr) : RL K W ad [] := .inl rfl
theorem RL.below {K : RowK T} {W W' : World} {ad : Option Addr} {l : List T} (h : RL K W ad l) (b : Below W.heap.size W W') : RL K W' ad l := by
  rcases h with h | ⟨g, o, h1, h2, h3⟩
  · exact .inl h
  · exact .inr ⟨g, o, h1, Nat.lt_of_lt_of_le h2 b.size, fun i hi j hj => (b.cell (p := ⟨g, o + K.n * i + j, none⟩) h2).trans (h3 i hi j hj)⟩
theorem RL.at_ {K : RowK T} {W : World} {ad : Option Addr} {l : List T} (h : RL K W ad l) (k : Nat) (hk : k < l.length) : ∃ b o, ad = some ⟨b, o, none⟩ ∧ b < W.heap.size ∧ ∀ W', Below W.heap.size W W' → ∀ j, j < K.n → W'.cell? ⟨b, o + K.n * k + j, none⟩ = (K.cs l[k])[j]? := by
  rcases h with h | ⟨b, o, h1, h2, h3⟩
  · subst h
    exact absurd hk (Nat.not_lt_zero _)
  · exact ⟨b, o, h1, h2, fun W' hb j hj => (hb.cell (p := ⟨b, o + K.n * k + j, none⟩) h2).trans (h3 k hk j hj)⟩
/-- A part of a slice. -/
theorem RL.sub {K : RowK T} {W : World} {b o : Nat} {l : List T} (h : RL K W (some ⟨b, o, none⟩) l) (k m : Nat) (hk : k + m ≤ l.length) : RL K W (some ⟨b, o + K.n * k, none⟩) ((l.drop k).take m) := by
  rcases h with h | ⟨g, o', h1, h2, h3⟩
  · subst h
    exact .inl (by simp)
  · injection h1 with h1
    injection h1 with e1 e2
    subst e1 e2
    refine .inr ⟨b, o + K.n * k, rfl, h2, fun i hi j hj => ?_⟩
    have hi' : i < m := by rw [List.length_take] at hi; omega
    have := h3 (k + i) (by omega) j hj
    rw [Nat.mul_add] at this
    rw [show o + K.n * k + K.n * i + j = o + (K.n * k + K.n * i) + j by omega, this]
    congr 2
    simp
/-- A slice reads as a list, and lies in blocks from a number on. -/
def RN (K : RowK T) (W : World) (base : Nat) (ad : Option Addr) (l : List T) : Prop :=
  l = [] ∨ ∃ b o, ad = some ⟨b, o, none⟩ ∧ base ≤ b ∧ b < W.heap.size ∧ ∀ i (h : i < l.length) j, j < K.n → W.cell? ⟨b, o + K.n * i + j, none⟩ = (K.cs l[i])[j]?
theorem RN.rl {K : RowK T} {W : World} {base : Nat} {ad : Option Addr} {l : List T} (h : RN K W base ad l) : RL K W ad l := by
  rcases h with h | ⟨b, o, h1, _, h2, h3⟩
  · exact .inl h
  · exact .inr ⟨b, o, h1, h2, h3⟩
theorem RN.base {K : RowK T} {W : World} {base base' : Nat} {ad : Option Addr} {l : List T} (h : RN K W base ad l) (hb : base' ≤ base) : RN K W base' ad l := by
  rcases h with h | ⟨b, o, h1, h0, h2, h3⟩
  · exact .inl h
  · exact .inr ⟨b, o, h1, Nat.le_trans hb h0, h2, h3⟩
theorem RN.below {K : RowK T} {W W' : World} {base : Nat} {ad : Option Addr} {l : List T} (h : RN K W base ad l) (b : Below W.heap.size W W') : RN K W' base ad l := by
  rcases h with h | ⟨g, o, h1, h0, h2, h3⟩
  · exact .inl h
  · exact .inr ⟨g, o, h1, h0, Nat.lt_of_lt_of_le h2 b.size, fun i hi j hj => (b.cell (p := ⟨g, o + K.n * i + j, none⟩) h2).trans (h3 i hi j hj)⟩
theorem RN.far {K : RowK T} {W : World} {base B i : Nat} {ad : Option Addr} {u : Value} {l : List T} (h : RN K W base ad l) (hB : B < base) : RN K (W.setCell ⟨B, i, none⟩ u) base ad l := by
  rcases h with h | ⟨g, o, h1, h0, h2, h3⟩
  · exact .inl h
  · exact .inr ⟨g, o, h1, h0, by simpa using h2, fun i hi j hj => (World.cell?_setCell_other _ _ _ _ (fun e => by injection e with e1; omega)).trans (h3 i hi j hj)⟩
/-- A row of one's own. -/
def Own (K : RowK T) (W : World) (base : Nat) (v : Value) (l : List T) : Prop := W.ownsRow base K.et K.n v l.length (K.vs l)
theorem Own.nil (K : RowK T) (W : World) (base : Nat) : Own K W base (.slice none 0 0) [] := World.ownsRow_nil _ _ _ _
theorem Own.ge {K : RowK T} {W : World} {base : Nat} {v : Value} {l : List T} (h : Own K W base v l) : ∀ k, v.ownBlock = some k → base ≤ k ∧ k < W.heap.size := World.ownsRow.lt h
theorem own_move8 {w w' : World} {base : Nat} {e : TypeId} {size : Nat} {v : Value} {k : Nat} {xs : List Value} (h : w.ownsRow base e size v k xs) (hb : ∀ j, v.ownBlock = some j → w'.heap[j]? = w.heap[j]?) : w'.ownsRow base e size v k xs := by
  refine ⟨h.1, h.2.imp id ?_⟩
  rintro ⟨g, cap, cur, rfl, hg, hh, r⟩
  exact ⟨g, cap, cur, rfl, hg, (hb g rfl).trans hh, r⟩
theorem Own.below {n base : Nat} {K : RowK T} {W W' : World} {v : Value} {l : List T} (h : Own K W base v l) (hb : Below n W W') (hn : W.heap.size ≤ n) : Own K W' base v l := own_move8 h fun j hj => hb.block j (Nat.lt_of_lt_of_le (h.ge j hj).2 hn)
theorem Own.alloc {K : RowK T} {W : World} {base : Nat} {v : Value} {l : List T} (h : Own K W base v l) (o : Obj) : Own K (W.alloc o) base v l := World.ownsRow.alloc h o
theorem Own.drew {K : RowK T} {W : World} {base : Nat} {v : Value} {l : List T} (h : Own K W base v l) : Own K W.drew base v l := h
theorem Own.far {K : RowK T} {W : World} {base B i : Nat} {v u : Value} {l : List T} (h : Own K W base v l) (hB : v.ownBlock ≠ some B) : Own K (W.setCell ⟨B, i, none⟩ u) base v l := own_move8 h fun j hj => Below.heap_setCell W ⟨B, i, none⟩ u j (by rintro rfl; exact hB hj)
theorem Own.base {K : RowK T} {W : World} {base base' : Nat} {v : Value} {l : List T} (h : Own K W base v l) (hb : base' ≤ base) : Own K W base' v l := by
  refine ⟨h.1, h.2.imp id ?_⟩
  rintro ⟨g, cap, cur, hv, hg, r⟩
  exact ⟨g, cap, cur, hv, Nat.le_trans hb hg, r⟩
theorem Own.rn {K : RowK T} {W : World} {base : Nat} {v : Value} {l : List T} (h : Own K W base v l) : ∃ ad c, v = .slice ad l.length c ∧ l.length ≤ c ∧ RN K W base ad l := by
  rcases h.2 with ⟨hv, h1⟩ | ⟨g, cap, cur, hv, hb, hg, h2, h3, h4, h5⟩
  · refine ⟨none, 0, by rw [hv, h1], by omega, .inl (List.length_eq_zero_iff.1 h1)⟩
  · have hlt : g < W.heap.size := (Array.getElem?_eq_some_iff.1 hg).1
    refine ⟨_, cap, hv, h2, .inr ⟨g, 0, rfl, hb, hlt, fun i hi j hj => ?_⟩⟩
    have hij : K.n * i + j < l.length * K.n := by
      have : K.n * (i + 1) ≤ K.n * l.length := Nat.mul_le_mul_left _ hi
      rw [Nat.mul_add, Nat.mul_one, Nat.mul_comm K.n l.length] at this
      omega
    rw [Nat.zero_add, cell_of_row W g (K.n * i + j) cur _ _ hg, ← Array.getElem?_toList, ← List.getElem?_take_of_lt (j := l.length * K.n) hij, h5, K.vs_get l i j hi hj]
theorem Own.form {K : RowK T} {W : World} {base : Nat} {v : Value} {l : List T} (h : Own K W base v l) : ∃ ad c, v = .slice ad l.length c ∧ l.length ≤ c := by
  obtain ⟨ad, c, e, hc, _⟩ := h.rn
  exact ⟨ad, c, e, hc⟩
/-- A row that is not empty lies at the head of a block. -/
theorem Own.block {K : RowK T} {W : World} {base : Nat} {v : Value} {l : List T} (h : Own K W base v l) (h0 : 0 < l.length) : ∃ g c, v = .slice (some ⟨g, 0, none⟩) l.length c ∧ v.ownBlock = some g ∧ base ≤ g ∧ g < W.heap.size := by
  rcases h.2 with ⟨hv, h1⟩ | ⟨g, cap, cur, hv, hb, hg, _⟩
  · omega
  · exact ⟨g, cap, hv, by rw [hv]; rfl, hb, (Array.getElem?_eq_some_iff.1 hg).1⟩
/-- The cells of an element, and that they may be written. -/
theorem Own.cell {K : RowK T} {W : World} {base g n c : Nat} {l : List T} (h : Own K W base (.slice (some ⟨g, 0, none⟩) n c) l) (i : Nat) (hi : i < l.length) (j : Nat) (hj : j < K.n) : W.cell? ⟨g, K.n * i + j, none⟩ = (K.cs l[i])[j]? ∧ W.frozen? ⟨g, K.n * i + j, none⟩ = false := by
  obtain ⟨ad, c2, e, _⟩ := h.form
  injection e with e1 e2 e3
  subst e2 e3
  have hij : K.n * i + j < l.length * K.n := by
    have : K.n * (i + 1) ≤ K.n * l.length := Nat.mul_le_mul_left _ hi
    rw [Nat.mul_add, Nat.mul_one, Nat.mul_comm K.n l.length] at this
    omega
  exact ⟨(World.ownsRow.cellAt h _ hij).trans (K.vs_get l i j hi hj), World.ownsRow.frozenAt h _⟩
theorem RowK.vs_set (K : RowK T) : ∀ (l : List T) (i j : Nat) (x : T) (u : Value) (hi : i < l.length) (_ : j < K.n) (_ : K.cs x = (K.cs l[i]).set j u), (K.vs l).set (K.n * i + j) u = K.vs (l.set i x)
  | [], i, j, _, _, h, _, _ => absurd h (Nat.not_lt_zero _)
  | y :: l, 0, j, x, u, _, hj, he => by
    show (K.cs y ++ K.vs l).set (K.n * 0 + j) u = K.cs x ++ K.vs l
    rw [Nat.mul_zero, Nat.zero_add, List.set_append_left _ _ (by rw [K.len]; exact hj), he]
    rfl
  | y :: l, i + 1, j, x, u, h, hj, he => by
    show (K.cs y ++ K.vs l).set (K.n * (i + 1) + j) u = K.cs y ++ K.vs (l.set i x)
    have e : K.n * (i + 1) = K.n * i + K.n := by rw [Nat.mul_add, Nat.mul_one]
    rw [List.set_append_right _ _ (by rw [K.len, e]; omega), show K.n * (i + 1) + j - (K.cs y).length = K.n * i + j by rw [K.len, e]; omega,
      K.vs_set l i j x u (by simpa using h) hj he]
/-- A cell of an element is stored. -/
theorem Own.put {K : RowK T} {W : World} {base g n c : Nat} {l : List T} (h : Own K W base (.slice (some ⟨g, 0, none⟩) n c) l) (i : Nat) (hi : i < l.length) (j : Nat) (hj : j < K.n) (x : T) (u : Value) (hx : K.cs x = (K.cs l[i]).set j u) :
    Own K (W.setCell ⟨g, K.n * i + j, none⟩ u) base (.slice (some ⟨g, 0, none⟩) n c) (l.set i x) ∧ W.grownBy (W.setCell ⟨g, K.n * i + j, none⟩ u) (some g) := by
  obtain ⟨ad, c2, e, _⟩ := h.form
  injection e with e1 e2 e3
  subst e2 e3
  have := World.ownsRow.stored h (K.n * i + j) u
  rw [K.vs_set l i j x u hi hj hx] at this
  unfold Own
  rw [List.length_set]
  exact this
/-- A shorter part of the row. -/
theorem Own.cut {K : RowK T} {W : World} {base g n c : Nat} {l : List T} (h : Own K W base (.slice (some ⟨g, 0, none⟩) n c) l) (k : Nat) (hk : k ≤ l.length) : Own K W base (.slice (some ⟨g, 0, none⟩) k c) (l.take k) := by
  obtain ⟨ad, c2, e, hc⟩ := h.form
  injection e with e1 e2 e3
  subst e2 e3
  rcases h.2 with ⟨hv, h1⟩ | ⟨g', cap, cur, hv, hb, hg, h2, h3, h4, h5⟩
  · cases hv
  · injection hv with e1 e2 e3
    injection e1 with e1
    injection e1 with e1
    subst e1 e3
    have hl : (l.take k).length = k := by rw [List.length_take]; omega
    unfold Own
    rw [hl]
    refine ⟨by rw [K.vs_length, hl], .inr ⟨g, c, cur, rfl, hb, hg, by omega, h3, h4, ?_⟩⟩
    have e : (K.vs l).take (k * K.n) = K.vs (l.take k) := by
      have : K.vs l = K.vs (l.take k) ++ K.vs (l.drop k) := by rw [← K.vs_append, List.take_append_drop]
      rw [this, show k * K.n = (K.vs (l.take k)).length by rw [K.vs_length, hl], List.take_left]
    rw [← e, ← h5, List.take_take, Nat.min_eq_left (Nat.mul_le_mul_right _ hk)]
set_option maxRecDepth 100000 in
theorem RowK.push (K : RowK T) (w : World) (n : Nat) (ty : TypeId) (v : Value) (l p : List T) (hown : Own K w n v l) (hn : n ≤ w.heap.size) (ad : Addr) (m c : Nat) (hm : p.length = m)
    (hc : ∀ j u, (K.vs p)[j]? = some u → w.cell? (ad.add j) = some u) (hl : l.length + p.length ≤ 100000000) :
    ∃ v' w', (Builtin.append_ #[K.st, K.st] ty #[v, .slice (some ad) m c]).run Tryd.prog w = .ok v' w' ∧ Own K w' n v' (l ++ p) ∧ w.grownBy w' v.ownBlock ∧ (v'.ownBlock = v.ownBlock ∨ v'.ownBlock = some w.heap.size) := by
  subst hm
  obtain ⟨i0, hi, hz0, hz1, hz2⟩ := info_parts K.info
  have hby : (l.length + p.length) * K.bytes ≤ 140737488355328 := Nat.le_trans (Nat.mul_le_mul hl K.bb) (by decide)
  have hmx : l.length + p.length ≤ maxLen := by unfold maxLen; omega
  obtain ⟨v', w', hrun, r1, r2, _⟩ := run_append_own (P := Tryd.prog) w n K.st ty K.et i0 K.zero K.n K.bytes K.und hi hz0 hz1 hz2 K.zs K.pos v l.length (K.vs l) hown
      ad p.length c (K.vs p) (K.vs_length p) hc (K.vs_one p) hmx hby hn
  have hown' : Own K w' n v' (l ++ p) := by
    unfold Own
    rw [K.vs_append, List.length_append]
    exact r1
  refine ⟨v', w', hrun, hown', r2, ?_⟩
  have hz2' : (l.length + p.length) * i0.bytes ≤ 140737488355328 := by rw [hz2]; exact hby
  rcases hown.2 with ⟨hv, h1⟩ | ⟨g, cap, cur, hv, hb, hg, h2, h3, h4, h5⟩
  · have hl0 : l = [] := List.length_eq_zero_iff.1 h1
    subst hl0
    subst hv
    by_cases hp : p = []
    · subst hp
      left
      have := (World.ownsRow.lt (v := v') (xs := K.vs [] ++ K.vs []) r1)
      rename_i h9
      have e : v' = .slice none 0 0 := h9.2 ⟨rfl, rfl⟩
      rw [e]
    · right
      have h0 : 0 < p.length := List.length_pos_iff.2 hp
      have hr := run_append_nil (P := Tryd.prog) w K.st ty K.et i0 K.zero K.und hi hz0 ad p.length c (K.vs p) (by rw [hz1]; exact K.vs_length p) hc h0 (by simp at hl; omega) (by simp at hz2'; omega)
      rw [hrun] at hr
      injection hr with e1 e2
      rw [e1]
      rfl
  · subst hv
    by_cases hroom : l.length + p.length ≤ cap
    · left
      have hr := run_append_room (P := Tryd.prog) w K.st ty K.et i0 K.und hi g l.length cap cur hg ad p.length c (K.vs p) (by rw [hz1]; exact K.vs_length p) hc (K.vs_one p) hroom
        (by rw [hz1, h4, K.vs_length, ← Nat.add_mul]; exact Nat.mul_le_mul_right _ hroom)
      rw [hrun] at hr
      injection hr with e1 e2
      rw [e1]
      rfl
    · right
      have hr := run_append_grow (P := Tryd.prog) w K.st ty K.et i0 K.zero K.und hi hz0 ⟨g, 0, none⟩ l.length cap (K.vs l) (by rw [hz1]; exact K.vs_length l) (World.ownsRow.cells (g := g) hown rfl)
        ad p.length c (K.vs p) (by rw [hz1]; exact K.vs_length p) hc (by omega) (by omega) (growslice_fits (by omega) hz2')
      rw [hrun] at hr
      injection hr with e1 e2
      rw [e1]
      rfl
end Go.Proofs.YtifdcfjllonmgaaDoor
