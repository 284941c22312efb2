/-
  Layer 8: numbers picked, bounds of a number. Layer 8: rows of elements of some cells each: what a slice reads as, and rows of one's own. Layer 8: events; the contract of the reference's Event. Layer 8: the kinds of rows; fleets; the contracts of the reference's all and Valid. Layer 8, the program: isIn, isTime, ValidClock. Layer 8, the program: the table of kinds; what an event's test asks, plain. Layer 8: fleets; the contracts of the reference's Valid and follows.
-/
import Derived.Test.YtnpfhcnjkekhbaaGreatDoorProg
import Derived.WalkKit
import Derived.WalkLawsBesides
import Derived.Outline
import Derived.Lib.Hide
import Derived.Below
import Derived.BigQuiet
import Derived.Deep.QuietTactic
import Derived.Laws.Rows
import Derived.Laws.OwnMore
import Derived.OwnWalk
set_option maxRecDepth 100000
set_option maxHeartbeats 16000000
namespace Go.Proofs.YtnpfhcnjkekhbaaGreatDoor
open Go Go.Proofs Go.RowKit Go.Lib
def pick8 (c n : Int) : Int := if c < 0 then (-(c + 1)) % n else c % n
theorem pick8_lo {c n : Int} (hn : 1 ≤ n) : 0 ≤ pick8 c n := by unfold pick8; split <;> exact Int.emod_nonneg _ (by omega)
theorem pick8_hi {c n : Int} (hn : 1 ≤ n) : pick8 c n < n := by unfold pick8; split <;> exact Int.emod_lt_of_pos _ (by omega)
theorem ret_b8 {a b : Int} (h : a = b) : Ending.returned (.int .i64 a) = .returned (.int .i64 b) := by rw [h]
def inB (n lo hi : Int) : Bool := decide (lo ≤ n ∧ n ≤ hi)
theorem of_inB {n lo hi : Int} (h : inB n lo hi = true) : lo ≤ n ∧ n ≤ hi := of_decide_eq_true h
theorem inB_yes {n lo hi : Int} (h : lo ≤ n) (h2 : n ≤ hi) : inB n lo hi = true := decide_eq_true ⟨h, h2⟩
theorem in_any (n lo hi : Int) (w : World) :
 Calls Tryz.prog 67 #[.int .i64 n, .int .i64 lo, .int .i64 hi] w fun e w' => e = .returned (.bool (inB n lo hi)) ∧ w = w' := by
 obtain ⟨B, hB⟩ : ∃ B, inB n lo hi = B := ⟨_, rfl⟩
 rw [hB]
 have HB := Lib.hid hB
 clear hB
 by_cases h1 : lo ≤ n
 · by_cases h2 : n ≤ hi
   · have HF := Lib.hid (show B = true by rw [← HB.out]; exact decide_eq_true ⟨h1, h2⟩)
     go_enter Tryz.func67, Tryz.ntmps67
     go_wp2
     go_ret
     exact ⟨by rw [HF.out]; rfl, rfl⟩
   · have HF := Lib.hid (show B = false by rw [← HB.out]; exact decide_eq_false (by omega))
     go_enter Tryz.func67, Tryz.ntmps67
     go_wp2
     go_ret
     exact ⟨by rw [HF.out]; rfl, rfl⟩
 · have HF := Lib.hid (show B = false by rw [← HB.out]; exact decide_eq_false (by omega))
   go_enter Tryz.func67, Tryz.ntmps67
   go_wp2
   go_ret
   exact ⟨by rw [HF.out]; rfl, rfl⟩
end Go.Proofs.YtnpfhcnjkekhbaaGreatDoor

namespace Go.Proofs.YtnpfhcnjkekhbaaGreatDoor
open Go Go.Proofs Go.RowKit Go.Lib
structure RowK (T : Type) where
 n : Nat
 bytes : Nat
 et : TypeId
 st : TypeId
 zero : Value
 cs : T → List Value
 len : ∀ x, (cs x).length = n
 one : ∀ x u, u ∈ cs x → u.oneCell' = true
 pos : 0 < n
 bb : bytes ≤ 1000
 und : Tryz.prog.underlying st = some (.slice et)
 elem : Tryz.prog.elem st = et
 info : (Tryz.prog.info? et).map (fun i => (i.zero, i.size, i.bytes)) = some (some zero, n, bytes)
 zs : zero.cells.size = n
variable {T : Type}
def RowK.vs (K : RowK T) (l : List T) : List Value := l.flatMap K.cs
theorem RowK.vs_length (K : RowK T) : ∀ (l : List T), (K.vs l).length = l.length * K.n
 | [] => by simp [RowK.vs]
 | x :: l => by
  have := K.vs_length l
  unfold RowK.vs at *
  rw [List.flatMap_cons, List.length_append, this, List.length_cons, K.len, Nat.add_mul]
  omega
theorem RowK.vs_append (K : RowK T) (a b : List T) : K.vs (a ++ b) = K.vs a ++ K.vs b := List.flatMap_append
theorem RowK.vs_get (K : RowK T) : ∀ (l : List T) (i j : Nat) (hi : i < l.length) (_ : j < K.n), (K.vs l)[K.n * i + j]? = (K.cs l[i])[j]?
 | [], i, j, h, _ => absurd h (Nat.not_lt_zero _)
 | x :: l, 0, j, _, hj => by
  show (K.cs x ++ K.vs l)[K.n * 0 + j]? = _
  rw [Nat.mul_zero, Nat.zero_add, List.getElem?_append_left (by rw [K.len]; exact hj)]
  rfl
 | x :: l, i + 1, j, h, hj => by
  show (K.cs x ++ K.vs l)[K.n * (i + 1) + j]? = _
  have e : K.n * (i + 1) = K.n * i + K.n := by rw [Nat.mul_add, Nat.mul_one]
  rw [List.getElem?_append_right (by rw [K.len, e]; omega), show K.n * (i + 1) + j - (K.cs x).length = K.n * i + j by rw [K.len, e]; omega]
  exact K.vs_get l i j (by simpa using h) hj
theorem RowK.vs_one (K : RowK T) (l : List T) : ∀ u ∈ K.vs l, u.oneCell' = true := by
 intro u hu
 unfold RowK.vs at hu
 simp only [List.mem_flatMap] at hu
 obtain ⟨x, _, hx⟩ := hu
 exact K.one x u hx
theorem add_at8 (g o k : Nat) : (⟨g, o, none⟩ : Addr).add k = ⟨g, o + k, none⟩ := by unfold Addr.add; split <;> simp_all
theorem below_up8 {w W W2 : World} (b : Below w.heap.size w W) (b2 : Below W.heap.size W W2) : Below w.heap.size w W2 := b.trans (b2.mono b.size)
theorem RowK.at_ (K : RowK T) (g o n c k : Nat) (hk : k < n) (w : World) : (Instr.indexAt K.st (.slice (some ⟨g, o, none⟩) n c) (.int .i64 (k : Int))).run Tryz.prog w = .ok (.pointer (some ⟨g, o + K.n * k, none⟩)) w := by
 have hu := K.und
 rw [← K.elem] at hu
 obtain ⟨i0, hi, hz0, hz1, hz2⟩ := info_parts K.info
 rw [← K.elem] at hi
 rw [run_indexAt_slice w K.st _ _ _ _ _ hu, if_pos (by omega)]
 simp [sizeOf, typeInfo, hi, add_at8, Result.andThen, Nat.mul_comm, hz1]
def RL (K : RowK T) (W : World) (ad : Option Addr) (l : List T) : Prop :=
 l = [] ∨ ∃ b o, ad = some ⟨b, o, none⟩ ∧ b < W.heap.size ∧ ∀ i (h : i < l.length) j, j < K.n → W.cell? ⟨b, o + K.n * i + j, none⟩ = (K.cs l[i])[j]?
theorem RL.nil (K : RowK T) (W : World) (ad : Option Addr) : RL K W ad [] := .inl rfl
theorem RL.below {K : RowK T} {W W' : World} {ad : Option Addr} {l : List T} (h : RL K W ad l) (b : Below W.heap.size W W') : RL K W' ad l := by
 rcases h with h | ⟨g, o, h1, h2, h3⟩
 · exact .inl h
 · exact .inr ⟨g, o, h1, Nat.lt_of_lt_of_le h2 b.size, fun i hi j hj => (b.cell (p := ⟨g, o + K.n * i + j, none⟩) h2).trans (h3 i hi j hj)⟩
theorem RL.at_ {K : RowK T} {W : World} {ad : Option Addr} {l : List T} (h : RL K W ad l) (k : Nat) (hk : k < l.length) : ∃ b o, ad = some ⟨b, o, none⟩ ∧ b < W.heap.size ∧ ∀ W', Below W.heap.size W W' → ∀ j, j < K.n → W'.cell? ⟨b, o + K.n * k + j, none⟩ = (K.cs l[k])[j]? := by
 rcases h with h | ⟨b, o, h1, h2, h3⟩
 · subst h
   exact absurd hk (Nat.not_lt_zero _)
 · exact ⟨b, o, h1, h2, fun W' hb j hj => (hb.cell (p := ⟨b, o + K.n * k + j, none⟩) h2).trans (h3 k hk j hj)⟩
theorem RL.sub {K : RowK T} {W : World} {b o : Nat} {l : List T} (h : RL K W (some ⟨b, o, none⟩) l) (k m : Nat) (hk : k + m ≤ l.length) : RL K W (some ⟨b, o + K.n * k, none⟩) ((l.drop k).take m) := by
 rcases h with h | ⟨g, o', h1, h2, h3⟩
 · subst h
   exact .inl (by simp)
 · injection h1 with h1
   injection h1 with e1 e2
   subst e1 e2
   refine .inr ⟨b, o + K.n * k, rfl, h2, fun i hi j hj => ?_⟩
   have hi' : i < m := by rw [List.length_take] at hi; omega
   have := h3 (k + i) (by omega) j hj
   rw [Nat.mul_add] at this
   rw [show o + K.n * k + K.n * i + j = o + (K.n * k + K.n * i) + j by omega, this]
   congr 2
   simp
def RN (K : RowK T) (W : World) (base : Nat) (ad : Option Addr) (l : List T) : Prop :=
 l = [] ∨ ∃ b o, ad = some ⟨b, o, none⟩ ∧ base ≤ b ∧ b < W.heap.size ∧ ∀ i (h : i < l.length) j, j < K.n → W.cell? ⟨b, o + K.n * i + j, none⟩ = (K.cs l[i])[j]?
theorem RN.rl {K : RowK T} {W : World} {base : Nat} {ad : Option Addr} {l : List T} (h : RN K W base ad l) : RL K W ad l := by
 rcases h with h | ⟨b, o, h1, _, h2, h3⟩
 · exact .inl h
 · exact .inr ⟨b, o, h1, h2, h3⟩
theorem RN.base {K : RowK T} {W : World} {base base' : Nat} {ad : Option Addr} {l : List T} (h : RN K W base ad l) (hb : base' ≤ base) : RN K W base' ad l := by
 rcases h with h | ⟨b, o, h1, h0, h2, h3⟩
 · exact .inl h
 · exact .inr ⟨b, o, h1, Nat.le_trans hb h0, h2, h3⟩
theorem RN.below {K : RowK T} {W W' : World} {base : Nat} {ad : Option Addr} {l : List T} (h : RN K W base ad l) (b : Below W.heap.size W W') : RN K W' base ad l := by
 rcases h with h | ⟨g, o, h1, h0, h2, h3⟩
 · exact .inl h
 · exact .inr ⟨g, o, h1, h0, Nat.lt_of_lt_of_le h2 b.size, fun i hi j hj => (b.cell (p := ⟨g, o + K.n * i + j, none⟩) h2).trans (h3 i hi j hj)⟩
theorem RN.far {K : RowK T} {W : World} {base B i : Nat} {ad : Option Addr} {u : Value} {l : List T} (h : RN K W base ad l) (hB : B < base) : RN K (W.setCell ⟨B, i, none⟩ u) base ad l := by
 rcases h with h | ⟨g, o, h1, h0, h2, h3⟩
 · exact .inl h
 · exact .inr ⟨g, o, h1, h0, by simpa using h2, fun i hi j hj => (World.cell?_setCell_other _ _ _ _ (fun e => by injection e with e1; omega)).trans (h3 i hi j hj)⟩
def Own (K : RowK T) (W : World) (base : Nat) (v : Value) (l : List T) : Prop := W.ownsRow base K.et K.n v l.length (K.vs l)
theorem Own.nil (K : RowK T) (W : World) (base : Nat) : Own K W base (.slice none 0 0) [] := World.ownsRow_nil _ _ _ _
theorem Own.ge {K : RowK T} {W : World} {base : Nat} {v : Value} {l : List T} (h : Own K W base v l) : ∀ k, v.ownBlock = some k → base ≤ k ∧ k < W.heap.size := World.ownsRow.lt h
theorem own_move8 {w w' : World} {base : Nat} {e : TypeId} {size : Nat} {v : Value} {k : Nat} {xs : List Value} (h : w.ownsRow base e size v k xs) (hb : ∀ j, v.ownBlock = some j → w'.heap[j]? = w.heap[j]?) : w'.ownsRow base e size v k xs := by
 refine ⟨h.1, h.2.imp id ?_⟩
 rintro ⟨g, cap, cur, rfl, hg, hh, r⟩
 exact ⟨g, cap, cur, rfl, hg, (hb g rfl).trans hh, r⟩
theorem Own.below {n base : Nat} {K : RowK T} {W W' : World} {v : Value} {l : List T} (h : Own K W base v l) (hb : Below n W W') (hn : W.heap.size ≤ n) : Own K W' base v l := own_move8 h fun j hj => hb.block j (Nat.lt_of_lt_of_le (h.ge j hj).2 hn)
theorem Own.alloc {K : RowK T} {W : World} {base : Nat} {v : Value} {l : List T} (h : Own K W base v l) (o : Obj) : Own K (W.alloc o) base v l := World.ownsRow.alloc h o
theorem Own.drew {K : RowK T} {W : World} {base : Nat} {v : Value} {l : List T} (h : Own K W base v l) : Own K W.drew base v l := h
theorem Own.far {K : RowK T} {W : World} {base B i : Nat} {v u : Value} {l : List T} (h : Own K W base v l) (hB : v.ownBlock ≠ some B) : Own K (W.setCell ⟨B, i, none⟩ u) base v l := own_move8 h fun j hj => Below.heap_setCell W ⟨B, i, none⟩ u j (by rintro rfl; exact hB hj)
theorem Own.base {K : RowK T} {W : World} {base base' : Nat} {v : Value} {l : List T} (h : Own K W base v l) (hb : base' ≤ base) : Own K W base' v l := by
 refine ⟨h.1, h.2.imp id ?_⟩
 rintro ⟨g, cap, cur, hv, hg, r⟩
 exact ⟨g, cap, cur, hv, Nat.le_trans hb hg, r⟩
theorem Own.rn {K : RowK T} {W : World} {base : Nat} {v : Value} {l : List T} (h : Own K W base v l) : ∃ ad c, v = .slice ad l.length c ∧ l.length ≤ c ∧ RN K W base ad l := by
 rcases h.2 with ⟨hv, h1⟩ | ⟨g, cap, cur, hv, hb, hg, h2, h3, h4, h5⟩
 · refine ⟨none, 0, by rw [hv, h1], by omega, .inl (List.length_eq_zero_iff.1 h1)⟩
 · have hlt : g < W.heap.size := (Array.getElem?_eq_some_iff.1 hg).1
   refine ⟨_, cap, hv, h2, .inr ⟨g, 0, rfl, hb, hlt, fun i hi j hj => ?_⟩⟩
   have hij : K.n * i + j < l.length * K.n := by
    have : K.n * (i + 1) ≤ K.n * l.length := Nat.mul_le_mul_left _ hi
    rw [Nat.mul_add, Nat.mul_one, Nat.mul_comm K.n l.length] at this
    omega
   rw [Nat.zero_add, cell_of_row W g (K.n * i + j) cur _ _ hg, ← Array.getElem?_toList, ← List.getElem?_take_of_lt (j := l.length * K.n) hij, h5, K.vs_get l i j hi hj]
theorem Own.form {K : RowK T} {W : World} {base : Nat} {v : Value} {l : List T} (h : Own K W base v l) : ∃ ad c, v = .slice ad l.length c ∧ l.length ≤ c := by
 obtain ⟨ad, c, e, hc, _⟩ := h.rn
 exact ⟨ad, c, e, hc⟩
theorem Own.block {K : RowK T} {W : World} {base : Nat} {v : Value} {l : List T} (h : Own K W base v l) (h0 : 0 < l.length) : ∃ g c, v = .slice (some ⟨g, 0, none⟩) l.length c ∧ v.ownBlock = some g ∧ base ≤ g ∧ g < W.heap.size := by
 rcases h.2 with ⟨hv, h1⟩ | ⟨g, cap, cur, hv, hb, hg, _⟩
 · omega
 · exact ⟨g, cap, hv, by rw [hv]; rfl, hb, (Array.getElem?_eq_some_iff.1 hg).1⟩
theorem Own.cell {K : RowK T} {W : World} {base g n c : Nat} {l : List T} (h : Own K W base (.slice (some ⟨g, 0, none⟩) n c) l) (i : Nat) (hi : i < l.length) (j : Nat) (hj : j < K.n) : W.cell? ⟨g, K.n * i + j, none⟩ = (K.cs l[i])[j]? ∧ W.frozen? ⟨g, K.n * i + j, none⟩ = false := by
 obtain ⟨ad, c2, e, _⟩ := h.form
 injection e with e1 e2 e3
 subst e2 e3
 have hij : K.n * i + j < l.length * K.n := by
  have : K.n * (i + 1) ≤ K.n * l.length := Nat.mul_le_mul_left _ hi
  rw [Nat.mul_add, Nat.mul_one, Nat.mul_comm K.n l.length] at this
  omega
 exact ⟨(World.ownsRow.cellAt h _ hij).trans (K.vs_get l i j hi hj), World.ownsRow.frozenAt h _⟩
theorem RowK.vs_set (K : RowK T) : ∀ (l : List T) (i j : Nat) (x : T) (u : Value) (hi : i < l.length) (_ : j < K.n) (_ : K.cs x = (K.cs l[i]).set j u), (K.vs l).set (K.n * i + j) u = K.vs (l.set i x)
 | [], i, j, _, _, h, _, _ => absurd h (Nat.not_lt_zero _)
 | y :: l, 0, j, x, u, _, hj, he => by
  show (K.cs y ++ K.vs l).set (K.n * 0 + j) u = K.cs x ++ K.vs l
  rw [Nat.mul_zero, Nat.zero_add, List.set_append_left _ _ (by rw [K.len]; exact hj), he]
  rfl
 | y :: l, i + 1, j, x, u, h, hj, he => by
  show (K.cs y ++ K.vs l).set (K.n * (i + 1) + j) u = K.cs y ++ K.vs (l.set i x)
  have e : K.n * (i + 1) = K.n * i + K.n := by rw [Nat.mul_add, Nat.mul_one]
  rw [List.set_append_right _ _ (by rw [K.len, e]; omega), show K.n * (i + 1) + j - (K.cs y).length = K.n * i + j by rw [K.len, e]; omega,
   K.vs_set l i j x u (by simpa using h) hj he]
theorem Own.put {K : RowK T} {W : World} {base g n c : Nat} {l : List T} (h : Own K W base (.slice (some ⟨g, 0, none⟩) n c) l) (i : Nat) (hi : i < l.length) (j : Nat) (hj : j < K.n) (x : T) (u : Value) (hx : K.cs x = (K.cs l[i]).set j u) :
 Own K (W.setCell ⟨g, K.n * i + j, none⟩ u) base (.slice (some ⟨g, 0, none⟩) n c) (l.set i x) ∧ W.grownBy (W.setCell ⟨g, K.n * i + j, none⟩ u) (some g) := by
 obtain ⟨ad, c2, e, _⟩ := h.form
 injection e with e1 e2 e3
 subst e2 e3
 have := World.ownsRow.stored h (K.n * i + j) u
 rw [K.vs_set l i j x u hi hj hx] at this
 unfold Own
 rw [List.length_set]
 exact this
theorem Own.cut {K : RowK T} {W : World} {base g n c : Nat} {l : List T} (h : Own K W base (.slice (some ⟨g, 0, none⟩) n c) l) (k : Nat) (hk : k ≤ l.length) : Own K W base (.slice (some ⟨g, 0, none⟩) k c) (l.take k) := by
 obtain ⟨ad, c2, e, hc⟩ := h.form
 injection e with e1 e2 e3
 subst e2 e3
 rcases h.2 with ⟨hv, h1⟩ | ⟨g', cap, cur, hv, hb, hg, h2, h3, h4, h5⟩
 · cases hv
 · injection hv with e1 e2 e3
   injection e1 with e1
   injection e1 with e1
   subst e1 e3
   have hl : (l.take k).length = k := by rw [List.length_take]; omega
   unfold Own
   rw [hl]
   refine ⟨by rw [K.vs_length, hl], .inr ⟨g, c, cur, rfl, hb, hg, by omega, h3, h4, ?_⟩⟩
   have e : (K.vs l).take (k * K.n) = K.vs (l.take k) := by
    have : K.vs l = K.vs (l.take k) ++ K.vs (l.drop k) := by rw [← K.vs_append, List.take_append_drop]
    rw [this, show k * K.n = (K.vs (l.take k)).length by rw [K.vs_length, hl], List.take_left]
   rw [← e, ← h5, List.take_take, Nat.min_eq_left (Nat.mul_le_mul_right _ hk)]
theorem RowK.push (K : RowK T) (w : World) (n : Nat) (ty : TypeId) (v : Value) (l p : List T) (hown : Own K w n v l) (hn : n ≤ w.heap.size) (ad : Addr) (m c : Nat) (hm : p.length = m)
 (hc : ∀ j u, (K.vs p)[j]? = some u → w.cell? (ad.add j) = some u) (hl : l.length + p.length ≤ 100000000) :
 ∃ v' w', (Builtin.append_ #[K.st, K.st] ty #[v, .slice (some ad) m c]).run Tryz.prog w = .ok v' w' ∧ Own K w' n v' (l ++ p) ∧ w.grownBy w' v.ownBlock ∧ (v'.ownBlock = v.ownBlock ∨ v'.ownBlock = some w.heap.size) := by
 subst hm
 obtain ⟨i0, hi, hz0, hz1, hz2⟩ := info_parts K.info
 have hby : (l.length + p.length) * K.bytes ≤ 140737488355328 := Nat.le_trans (Nat.mul_le_mul hl K.bb) (by decide)
 have hmx : l.length + p.length ≤ maxLen := by unfold maxLen; omega
 obtain ⟨v', w', hrun, r1, r2, _⟩ := run_append_own (P := Tryz.prog) w n K.st ty K.et i0 K.zero K.n K.bytes K.und hi hz0 hz1 hz2 K.zs K.pos v l.length (K.vs l) hown
  ad p.length c (K.vs p) (K.vs_length p) hc (K.vs_one p) hmx hby hn
 have hown' : Own K w' n v' (l ++ p) := by
  unfold Own
  rw [K.vs_append, List.length_append]
  exact r1
 refine ⟨v', w', hrun, hown', r2, ?_⟩
 have hz2' : (l.length + p.length) * i0.bytes ≤ 140737488355328 := by rw [hz2]; exact hby
 rcases hown.2 with ⟨hv, h1⟩ | ⟨g, cap, cur, hv, hb, hg, h2, h3, h4, h5⟩
 · have hl0 : l = [] := List.length_eq_zero_iff.1 h1
   subst hl0
   subst hv
   by_cases hp : p = []
   · subst hp
     left
     have := (World.ownsRow.lt (v := v') (xs := K.vs [] ++ K.vs []) r1)
     rename_i h9
     have e : v' = .slice none 0 0 := h9.2 ⟨rfl, rfl⟩
     rw [e]
   · right
     have h0 : 0 < p.length := List.length_pos_iff.2 hp
     have hr := run_append_nil (P := Tryz.prog) w K.st ty K.et i0 K.zero K.und hi hz0 ad p.length c (K.vs p) (by rw [hz1]; exact K.vs_length p) hc h0 (by simp at hl; omega) (by simp at hz2'; omega)
     rw [hrun] at hr
     injection hr with e1 e2
     rw [e1]
     rfl
 · subst hv
   by_cases hroom : l.length + p.length ≤ cap
   · left
     have hr := run_append_room (P := Tryz.prog) w K.st ty K.et i0 K.und hi g l.length cap cur hg ad p.length c (K.vs p) (by rw [hz1]; exact K.vs_length p) hc (K.vs_one p) hroom
      (by rw [hz1, h4, K.vs_length, ← Nat.add_mul]; exact Nat.mul_le_mul_right _ hroom)
     rw [hrun] at hr
     injection hr with e1 e2
     rw [e1]
     rfl
   · right
     have hr := run_append_grow (P := Tryz.prog) w K.st ty K.et i0 K.zero K.und hi hz0 ⟨g, 0, none⟩ l.length cap (K.vs l) (by rw [hz1]; exact K.vs_length l) (World.ownsRow.cells (g := g) hown rfl)
      ad p.length c (K.vs p) (by rw [hz1]; exact K.vs_length p) hc (by omega) (by omega) (growslice_fits (by omega) hz2')
     rw [hrun] at hr
     injection hr with e1 e2
     rw [e1]
     rfl
end Go.Proofs.YtnpfhcnjkekhbaaGreatDoor

namespace Go.Proofs.YtnpfhcnjkekhbaaGreatDoor
open Go Go.Proofs Go.RowKit Go.Lib
structure Ev where
 (ag sq tm kd tr sp lk gn op vr pe bt : Int)
def Ev.cells (e : Ev) : List Value := [.int .i64 e.ag, .int .i64 e.sq, .int .i64 e.tm, .int .i64 e.kd, .int .i64 e.tr, .int .i64 e.sp, .int .i64 e.lk, .int .i64 e.gn, .int .i64 e.op, .int .i64 e.vr, .int .i64 e.pe, .int .i64 e.bt]
def Ev.val (e : Ev) : Value := .agg #[.int .i64 e.ag, .int .i64 e.sq, .int .i64 e.tm, .int .i64 e.kd, .int .i64 e.tr, .int .i64 e.sp, .int .i64 e.lk, .int .i64 e.gn, .int .i64 e.op, .int .i64 e.vr, .int .i64 e.pe, .int .i64 e.bt]
def evB (e : Ev) : Bool :=
 (inB e.ag 0 5 && inB e.sq 0 999 && inB e.tm 0 1000000 && inB e.tr 0 999 && inB e.sp 0 9 && inB e.bt 0 1000) &&
 (if e.kd == 1 then inB e.lk (-1) 9 && e.lk != e.sp && e.gn == 0 && inB e.op 0 11 && inB e.vr 0 9 && inB e.pe (-1) 19
  else (e.op == 0 && e.vr == 0 && e.pe == 0) &&
   (if e.kd == 2 then e.lk == 0 && e.gn == 0
    else if e.kd == 3 || e.kd == 4 then inB e.lk 0 99 && e.gn == 0
    else if e.kd == 5 || e.kd == 6 then inB e.lk 0 99 && inB e.gn 0 99
    else if e.kd == 7 then inB e.lk 0 9 && e.gn == 0
    else false))
theorem eventR_any (x : Ev) (w : World) :
 Calls Tryz.prog 40 #[x.val] w fun e w' => e = .returned (.bool (evB x)) ∧ Below w.heap.size w w' := by
 obtain ⟨ag, sq, tm, kd, tr, sp, lk, gn, op, vr, pe, bt⟩ := x
 unfold Ev.val
 dsimp only
 obtain ⟨B, hB⟩ : ∃ B, evB ⟨ag, sq, tm, kd, tr, sp, lk, gn, op, vr, pe, bt⟩ = B := ⟨_, rfl⟩
 rw [hB]
 have HB := Lib.hid hB
 clear hB
 go_enter Tryz.func40, Tryz.ntmps40
 cases k1 : inB ag 0 5 with
 | false =>
  have HF := Lib.hid (show B = false by rw [← HB.out]; simp [evB, k1])
  go_wp2_with (go_at_call 67; refine (in_any _ _ _ _).mono ?_; rintro e w' ⟨rfl, rfl⟩)
  go_ret
  exact ⟨by rw [HF.out]; rfl, (Below.refl _ _).alloc (Nat.le_refl _) _⟩
 | true =>
  cases k2 : inB sq 0 999 with
  | false =>
   have HF := Lib.hid (show B = false by rw [← HB.out]; simp [evB, k1, k2])
   go_wp2_with (go_at_call 67; refine (in_any _ _ _ _).mono ?_; rintro e w' ⟨rfl, rfl⟩)
   go_ret
   exact ⟨by rw [HF.out]; rfl, (Below.refl _ _).alloc (Nat.le_refl _) _⟩
  | true =>
   cases k3 : inB tm 0 1000000 with
   | false =>
    have HF := Lib.hid (show B = false by rw [← HB.out]; simp [evB, k1, k2, k3])
    go_wp2_with (go_at_call 67; refine (in_any _ _ _ _).mono ?_; rintro e w' ⟨rfl, rfl⟩)
    go_ret
    exact ⟨by rw [HF.out]; rfl, (Below.refl _ _).alloc (Nat.le_refl _) _⟩
   | true =>
    cases k4 : inB tr 0 999 with
    | false =>
     have HF := Lib.hid (show B = false by rw [← HB.out]; simp [evB, k1, k2, k3, k4])
     go_wp2_with (go_at_call 67; refine (in_any _ _ _ _).mono ?_; rintro e w' ⟨rfl, rfl⟩)
     go_ret
     exact ⟨by rw [HF.out]; rfl, (Below.refl _ _).alloc (Nat.le_refl _) _⟩
    | true =>
     cases k5 : inB sp 0 9 with
     | false =>
      have HF := Lib.hid (show B = false by rw [← HB.out]; simp [evB, k1, k2, k3, k4, k5])
      go_wp2_with (go_at_call 67; refine (in_any _ _ _ _).mono ?_; rintro e w' ⟨rfl, rfl⟩)
      go_ret
      exact ⟨by rw [HF.out]; rfl, (Below.refl _ _).alloc (Nat.le_refl _) _⟩
     | true =>
      cases k6 : inB bt 0 1000 with
      | false =>
       have HF := Lib.hid (show B = false by rw [← HB.out]; simp [evB, k1, k2, k3, k4, k5, k6])
       go_wp2_with (go_at_call 67; refine (in_any _ _ _ _).mono ?_; rintro e w' ⟨rfl, rfl⟩)
       go_ret
       exact ⟨by rw [HF.out]; rfl, (Below.refl _ _).alloc (Nat.le_refl _) _⟩
      | true =>
       cases k7 : (kd == 1) with
       | false =>
        have nk7 : (kd != 1) = true := by unfold bne; rw [k7]; rfl
        cases k8 : (op == 0) with
        | false =>
         have nk8 : (op != 0) = true := by unfold bne; rw [k8]; rfl
         have HF := Lib.hid (show B = false by rw [← HB.out]; simp [evB, k1, k2, k3, k4, k5, k6, k7, k8])
         go_wp2_with (go_at_call 67; refine (in_any _ _ _ _).mono ?_; rintro e w' ⟨rfl, rfl⟩)
         go_ret
         exact ⟨by rw [HF.out]; rfl, (Below.refl _ _).alloc (Nat.le_refl _) _⟩
        | true =>
         have nk8 : (op != 0) = false := by unfold bne; rw [k8]; rfl
         cases k9 : (vr == 0) with
         | false =>
          have nk9 : (vr != 0) = true := by unfold bne; rw [k9]; rfl
          have HF := Lib.hid (show B = false by rw [← HB.out]; simp [evB, k1, k2, k3, k4, k5, k6, k7, k8, k9])
          go_wp2_with (go_at_call 67; refine (in_any _ _ _ _).mono ?_; rintro e w' ⟨rfl, rfl⟩)
          go_ret
          exact ⟨by rw [HF.out]; rfl, (Below.refl _ _).alloc (Nat.le_refl _) _⟩
         | true =>
          have nk9 : (vr != 0) = false := by unfold bne; rw [k9]; rfl
          cases k10 : (pe == 0) with
          | false =>
           have nk10 : (pe != 0) = true := by unfold bne; rw [k10]; rfl
           have HF := Lib.hid (show B = false by rw [← HB.out]; simp [evB, k1, k2, k3, k4, k5, k6, k7, k8, k9, k10])
           go_wp2_with (go_at_call 67; refine (in_any _ _ _ _).mono ?_; rintro e w' ⟨rfl, rfl⟩)
           go_ret
           exact ⟨by rw [HF.out]; rfl, (Below.refl _ _).alloc (Nat.le_refl _) _⟩
          | true =>
           have nk10 : (pe != 0) = false := by unfold bne; rw [k10]; rfl
           cases k11 : (kd == 2) with
           | false =>
            have nk11 : (kd != 2) = true := by unfold bne; rw [k11]; rfl
            cases k12 : (kd == 3) with
            | false =>
             have nk12 : (kd != 3) = true := by unfold bne; rw [k12]; rfl
             cases k13 : (kd == 4) with
             | false =>
              have nk13 : (kd != 4) = true := by unfold bne; rw [k13]; rfl
              cases k14 : (kd == 5) with
              | false =>
               have nk14 : (kd != 5) = true := by unfold bne; rw [k14]; rfl
               cases k15 : (kd == 6) with
               | false =>
                have nk15 : (kd != 6) = true := by unfold bne; rw [k15]; rfl
                cases k16 : (kd == 7) with
                | false =>
                 have nk16 : (kd != 7) = true := by unfold bne; rw [k16]; rfl
                 have HF := Lib.hid (show B = false by rw [← HB.out]; simp [evB, k1, k2, k3, k4, k5, k6, k7, k8, k9, k10, k11, k12, k13, k14, k15, k16])
                 go_wp2_with (go_at_call 67; refine (in_any _ _ _ _).mono ?_; rintro e w' ⟨rfl, rfl⟩)
                 go_ret
                 exact ⟨by rw [HF.out]; rfl, (Below.refl _ _).alloc (Nat.le_refl _) _⟩
                | true =>
                 have nk16 : (kd != 7) = false := by unfold bne; rw [k16]; rfl
                 cases k17 : inB lk 0 9 with
                 | false =>
                  have HF := Lib.hid (show B = false by rw [← HB.out]; simp [evB, k1, k2, k3, k4, k5, k6, k7, k8, k9, k10, k11, k12, k13, k14, k15, k16, k17])
                  go_wp2_with (go_at_call 67; refine (in_any _ _ _ _).mono ?_; rintro e w' ⟨rfl, rfl⟩)
                  go_ret
                  exact ⟨by rw [HF.out]; rfl, (Below.refl _ _).alloc (Nat.le_refl _) _⟩
                 | true =>
                  cases k18 : (gn == 0) with
                  | false =>
                   have nk18 : (gn != 0) = true := by unfold bne; rw [k18]; rfl
                   have HF := Lib.hid (show B = false by rw [← HB.out]; simp [evB, k1, k2, k3, k4, k5, k6, k7, k8, k9, k10, k11, k12, k13, k14, k15, k16, k17, k18])
                   go_wp2_with (go_at_call 67; refine (in_any _ _ _ _).mono ?_; rintro e w' ⟨rfl, rfl⟩)
                   go_ret
                   exact ⟨by rw [HF.out]; rfl, (Below.refl _ _).alloc (Nat.le_refl _) _⟩
                  | true =>
                   have nk18 : (gn != 0) = false := by unfold bne; rw [k18]; rfl
                   have HF := Lib.hid (show B = true by rw [← HB.out]; simp [evB, k1, k2, k3, k4, k5, k6, k7, k8, k9, k10, k11, k12, k13, k14, k15, k16, k17, k18])
                   go_wp2_with (go_at_call 67; refine (in_any _ _ _ _).mono ?_; rintro e w' ⟨rfl, rfl⟩)
                   go_ret
                   exact ⟨by rw [HF.out]; rfl, (Below.refl _ _).alloc (Nat.le_refl _) _⟩
               | true =>
                have nk15 : (kd != 6) = false := by unfold bne; rw [k15]; rfl
                cases k19 : inB lk 0 99 with
                | false =>
                 have HF := Lib.hid (show B = false by rw [← HB.out]; simp [evB, k1, k2, k3, k4, k5, k6, k7, k8, k9, k10, k11, k12, k13, k14, k15, k19])
                 go_wp2_with (go_at_call 67; refine (in_any _ _ _ _).mono ?_; rintro e w' ⟨rfl, rfl⟩)
                 go_ret
                 exact ⟨by rw [HF.out]; rfl, (Below.refl _ _).alloc (Nat.le_refl _) _⟩
                | true =>
                 cases k20 : inB gn 0 99 with
                 | false =>
                  have HF := Lib.hid (show B = false by rw [← HB.out]; simp [evB, k1, k2, k3, k4, k5, k6, k7, k8, k9, k10, k11, k12, k13, k14, k15, k19, k20])
                  go_wp2_with (go_at_call 67; refine (in_any _ _ _ _).mono ?_; rintro e w' ⟨rfl, rfl⟩)
                  go_ret
                  exact ⟨by rw [HF.out]; rfl, (Below.refl _ _).alloc (Nat.le_refl _) _⟩
                 | true =>
                  have HF := Lib.hid (show B = true by rw [← HB.out]; simp [evB, k1, k2, k3, k4, k5, k6, k7, k8, k9, k10, k11, k12, k13, k14, k15, k19, k20])
                  go_wp2_with (go_at_call 67; refine (in_any _ _ _ _).mono ?_; rintro e w' ⟨rfl, rfl⟩)
                  go_ret
                  exact ⟨by rw [HF.out]; rfl, (Below.refl _ _).alloc (Nat.le_refl _) _⟩
              | true =>
               have nk14 : (kd != 5) = false := by unfold bne; rw [k14]; rfl
               cases k21 : inB lk 0 99 with
               | false =>
                have HF := Lib.hid (show B = false by rw [← HB.out]; simp [evB, k1, k2, k3, k4, k5, k6, k7, k8, k9, k10, k11, k12, k13, k14, k21])
                go_wp2_with (go_at_call 67; refine (in_any _ _ _ _).mono ?_; rintro e w' ⟨rfl, rfl⟩)
                go_ret
                exact ⟨by rw [HF.out]; rfl, (Below.refl _ _).alloc (Nat.le_refl _) _⟩
               | true =>
                cases k22 : inB gn 0 99 with
                | false =>
                 have HF := Lib.hid (show B = false by rw [← HB.out]; simp [evB, k1, k2, k3, k4, k5, k6, k7, k8, k9, k10, k11, k12, k13, k14, k21, k22])
                 go_wp2_with (go_at_call 67; refine (in_any _ _ _ _).mono ?_; rintro e w' ⟨rfl, rfl⟩)
                 go_ret
                 exact ⟨by rw [HF.out]; rfl, (Below.refl _ _).alloc (Nat.le_refl _) _⟩
                | true =>
                 have HF := Lib.hid (show B = true by rw [← HB.out]; simp [evB, k1, k2, k3, k4, k5, k6, k7, k8, k9, k10, k11, k12, k13, k14, k21, k22])
                 go_wp2_with (go_at_call 67; refine (in_any _ _ _ _).mono ?_; rintro e w' ⟨rfl, rfl⟩)
                 go_ret
                 exact ⟨by rw [HF.out]; rfl, (Below.refl _ _).alloc (Nat.le_refl _) _⟩
             | true =>
              have nk13 : (kd != 4) = false := by unfold bne; rw [k13]; rfl
              cases k23 : inB lk 0 99 with
              | false =>
               have HF := Lib.hid (show B = false by rw [← HB.out]; simp [evB, k1, k2, k3, k4, k5, k6, k7, k8, k9, k10, k11, k12, k13, k23])
               go_wp2_with (go_at_call 67; refine (in_any _ _ _ _).mono ?_; rintro e w' ⟨rfl, rfl⟩)
               go_ret
               exact ⟨by rw [HF.out]; rfl, (Below.refl _ _).alloc (Nat.le_refl _) _⟩
              | true =>
               cases k24 : (gn == 0) with
               | false =>
                have nk24 : (gn != 0) = true := by unfold bne; rw [k24]; rfl
                have HF := Lib.hid (show B = false by rw [← HB.out]; simp [evB, k1, k2, k3, k4, k5, k6, k7, k8, k9, k10, k11, k12, k13, k23, k24])
                go_wp2_with (go_at_call 67; refine (in_any _ _ _ _).mono ?_; rintro e w' ⟨rfl, rfl⟩)
                go_ret
                exact ⟨by rw [HF.out]; rfl, (Below.refl _ _).alloc (Nat.le_refl _) _⟩
               | true =>
                have nk24 : (gn != 0) = false := by unfold bne; rw [k24]; rfl
                have HF := Lib.hid (show B = true by rw [← HB.out]; simp [evB, k1, k2, k3, k4, k5, k6, k7, k8, k9, k10, k11, k12, k13, k23, k24])
                go_wp2_with (go_at_call 67; refine (in_any _ _ _ _).mono ?_; rintro e w' ⟨rfl, rfl⟩)
                go_ret
                exact ⟨by rw [HF.out]; rfl, (Below.refl _ _).alloc (Nat.le_refl _) _⟩
            | true =>
             have nk12 : (kd != 3) = false := by unfold bne; rw [k12]; rfl
             cases k25 : inB lk 0 99 with
             | false =>
              have HF := Lib.hid (show B = false by rw [← HB.out]; simp [evB, k1, k2, k3, k4, k5, k6, k7, k8, k9, k10, k11, k12, k25])
              go_wp2_with (go_at_call 67; refine (in_any _ _ _ _).mono ?_; rintro e w' ⟨rfl, rfl⟩)
              go_ret
              exact ⟨by rw [HF.out]; rfl, (Below.refl _ _).alloc (Nat.le_refl _) _⟩
             | true =>
              cases k26 : (gn == 0) with
              | false =>
               have nk26 : (gn != 0) = true := by unfold bne; rw [k26]; rfl
               have HF := Lib.hid (show B = false by rw [← HB.out]; simp [evB, k1, k2, k3, k4, k5, k6, k7, k8, k9, k10, k11, k12, k25, k26])
               go_wp2_with (go_at_call 67; refine (in_any _ _ _ _).mono ?_; rintro e w' ⟨rfl, rfl⟩)
               go_ret
               exact ⟨by rw [HF.out]; rfl, (Below.refl _ _).alloc (Nat.le_refl _) _⟩
              | true =>
               have nk26 : (gn != 0) = false := by unfold bne; rw [k26]; rfl
               have HF := Lib.hid (show B = true by rw [← HB.out]; simp [evB, k1, k2, k3, k4, k5, k6, k7, k8, k9, k10, k11, k12, k25, k26])
               go_wp2_with (go_at_call 67; refine (in_any _ _ _ _).mono ?_; rintro e w' ⟨rfl, rfl⟩)
               go_ret
               exact ⟨by rw [HF.out]; rfl, (Below.refl _ _).alloc (Nat.le_refl _) _⟩
           | true =>
            have nk11 : (kd != 2) = false := by unfold bne; rw [k11]; rfl
            cases k27 : (lk == 0) with
            | false =>
             have nk27 : (lk != 0) = true := by unfold bne; rw [k27]; rfl
             have HF := Lib.hid (show B = false by rw [← HB.out]; simp [evB, k1, k2, k3, k4, k5, k6, k7, k8, k9, k10, k11, k27])
             go_wp2_with (go_at_call 67; refine (in_any _ _ _ _).mono ?_; rintro e w' ⟨rfl, rfl⟩)
             go_ret
             exact ⟨by rw [HF.out]; rfl, (Below.refl _ _).alloc (Nat.le_refl _) _⟩
            | true =>
             have nk27 : (lk != 0) = false := by unfold bne; rw [k27]; rfl
             cases k28 : (gn == 0) with
             | false =>
              have nk28 : (gn != 0) = true := by unfold bne; rw [k28]; rfl
              have HF := Lib.hid (show B = false by rw [← HB.out]; simp [evB, k1, k2, k3, k4, k5, k6, k7, k8, k9, k10, k11, k27, k28])
              go_wp2_with (go_at_call 67; refine (in_any _ _ _ _).mono ?_; rintro e w' ⟨rfl, rfl⟩)
              go_ret
              exact ⟨by rw [HF.out]; rfl, (Below.refl _ _).alloc (Nat.le_refl _) _⟩
             | true =>
              have nk28 : (gn != 0) = false := by unfold bne; rw [k28]; rfl
              have HF := Lib.hid (show B = true by rw [← HB.out]; simp [evB, k1, k2, k3, k4, k5, k6, k7, k8, k9, k10, k11, k27, k28])
              go_wp2_with (go_at_call 67; refine (in_any _ _ _ _).mono ?_; rintro e w' ⟨rfl, rfl⟩)
              go_ret
              exact ⟨by rw [HF.out]; rfl, (Below.refl _ _).alloc (Nat.le_refl _) _⟩
       | true =>
        have nk7 : (kd != 1) = false := by unfold bne; rw [k7]; rfl
        cases k29 : inB lk (-1) 9 with
        | false =>
         have HF := Lib.hid (show B = false by rw [← HB.out]; simp [evB, k1, k2, k3, k4, k5, k6, k7, k29])
         go_wp2_with (go_at_call 67; refine (in_any _ _ _ _).mono ?_; rintro e w' ⟨rfl, rfl⟩)
         go_ret
         exact ⟨by rw [HF.out]; rfl, (Below.refl _ _).alloc (Nat.le_refl _) _⟩
        | true =>
         cases k30 : (lk != sp) with
         | false =>
          have HF := Lib.hid (show B = false by rw [← HB.out]; simp [evB, k1, k2, k3, k4, k5, k6, k7, k29, k30])
          go_wp2_with (go_at_call 67; refine (in_any _ _ _ _).mono ?_; rintro e w' ⟨rfl, rfl⟩)
          go_ret
          exact ⟨by rw [HF.out]; rfl, (Below.refl _ _).alloc (Nat.le_refl _) _⟩
         | true =>
          cases k31 : (gn == 0) with
          | false =>
           have nk31 : (gn != 0) = true := by unfold bne; rw [k31]; rfl
           have HF := Lib.hid (show B = false by rw [← HB.out]; simp [evB, k1, k2, k3, k4, k5, k6, k7, k29, k30, k31])
           go_wp2_with (go_at_call 67; refine (in_any _ _ _ _).mono ?_; rintro e w' ⟨rfl, rfl⟩)
           go_ret
           exact ⟨by rw [HF.out]; rfl, (Below.refl _ _).alloc (Nat.le_refl _) _⟩
          | true =>
           have nk31 : (gn != 0) = false := by unfold bne; rw [k31]; rfl
           cases k32 : inB op 0 11 with
           | false =>
            have HF := Lib.hid (show B = false by rw [← HB.out]; simp [evB, k1, k2, k3, k4, k5, k6, k7, k29, k30, k31, k32])
            go_wp2_with (go_at_call 67; refine (in_any _ _ _ _).mono ?_; rintro e w' ⟨rfl, rfl⟩)
            go_ret
            exact ⟨by rw [HF.out]; rfl, (Below.refl _ _).alloc (Nat.le_refl _) _⟩
           | true =>
            cases k33 : inB vr 0 9 with
            | false =>
             have HF := Lib.hid (show B = false by rw [← HB.out]; simp [evB, k1, k2, k3, k4, k5, k6, k7, k29, k30, k31, k32, k33])
             go_wp2_with (go_at_call 67; refine (in_any _ _ _ _).mono ?_; rintro e w' ⟨rfl, rfl⟩)
             go_ret
             exact ⟨by rw [HF.out]; rfl, (Below.refl _ _).alloc (Nat.le_refl _) _⟩
            | true =>
             cases k34 : inB pe (-1) 19 with
             | false =>
              have HF := Lib.hid (show B = false by rw [← HB.out]; simp [evB, k1, k2, k3, k4, k5, k6, k7, k29, k30, k31, k32, k33, k34])
              go_wp2_with (go_at_call 67; refine (in_any _ _ _ _).mono ?_; rintro e w' ⟨rfl, rfl⟩)
              go_ret
              exact ⟨by rw [HF.out]; rfl, (Below.refl _ _).alloc (Nat.le_refl _) _⟩
             | true =>
              have HF := Lib.hid (show B = true by rw [← HB.out]; simp [evB, k1, k2, k3, k4, k5, k6, k7, k29, k30, k31, k32, k33, k34])
              go_wp2_with (go_at_call 67; refine (in_any _ _ _ _).mono ?_; rintro e w' ⟨rfl, rfl⟩)
              go_ret
              exact ⟨by rw [HF.out]; rfl, (Below.refl _ _).alloc (Nat.le_refl _) _⟩
end Go.Proofs.YtnpfhcnjkekhbaaGreatDoor

namespace Go.Proofs.YtnpfhcnjkekhbaaGreatDoor
open Go Go.Proofs Go.RowKit Go.Lib
def CellsAt (W : World) (B : Nat) (vs : List Value) : Prop := ∀ i (h : i < vs.length), W.cell? ⟨B, i, none⟩ = some vs[i] ∧ W.frozen? ⟨B, i, none⟩ = false
theorem cellsAt_of {W : World} {B : Nat} {vs : List Value} {t : TypeId} (h : W.heap[B]? = some (.cells vs.toArray t)) : CellsAt W B vs := fun i hi => by
 simp [World.cell?, World.frozen?, h, hi]
theorem CellsAt.below {W W' : World} {B : Nat} {v : Value} {vs : List Value} (h : CellsAt W B (v :: vs)) (b : Below W.heap.size W W') : CellsAt W' B (v :: vs) := fun i hi => by
 have l := World.block_lt_of_cell? W ⟨B, 0, none⟩ (h 0 (Nat.zero_lt_succ _)).1
 exact ⟨(b.cell (p := ⟨B, i, none⟩) l).trans (h i hi).1, (b.frozen (p := ⟨B, i, none⟩) l).trans (h i hi).2⟩
theorem CellsAt.far {W : World} {A B i : Nat} {v : Value} {vs : List Value} (h : CellsAt W B vs) (hne : A ≠ B) : CellsAt (W.setCell ⟨A, i, none⟩ v) B vs := fun j hj =>
 ⟨(World.cell?_setCell_other W ⟨A, i, none⟩ ⟨B, j, none⟩ v (by intro e; injection e with e1 e2; exact hne e1)).trans (h j hj).1, by simp [(h j hj).2]⟩
theorem CellsAt.drew {W : World} {B : Nat} {vs : List Value} (h : CellsAt W B vs) : CellsAt W.drew B vs := fun i hi => h i hi
theorem CellsAt.put {W : World} {B : Nat} {vs : List Value} (h : CellsAt W B vs) (i : Nat) (v : Value) : CellsAt (W.setCell ⟨B, i, none⟩ v) B (vs.set i v) := fun j hj => by
 have hj' : j < vs.length := by simpa using hj
 refine ⟨?_, by simp [(h j hj').2]⟩
 by_cases e : i = j
 · subst e
   rw [List.getElem_set_self]
   exact World.cell?_setCell_same W ⟨B, i, none⟩ v (h i hj').1
 · rw [List.getElem_set_ne e]
   exact (World.cell?_setCell_other W ⟨B, i, none⟩ ⟨B, j, none⟩ v (by intro h2; injection h2 with e1 e2; exact e e2)).trans (h j hj').1
theorem cellsAt_new {W : World} {B : Nat} {vs : List Value} {t : TypeId} (h : B = W.heap.size) : CellsAt (W.alloc (.cells vs.toArray t)) B vs := by subst h; exact cellsAt_of (heap_alloc_new _ _)
theorem CellsAt.news {W : World} {g : Nat} {vs : List Value} (h : CellsAt W g vs) : ∀ j u, vs[j]? = some u → W.cell? ((⟨g, 0, none⟩ : Addr).add j) = some u := by
 intro j u hj
 have hlt : j < vs.length := by
  rcases Nat.lt_or_ge j vs.length with h | h
  · exact h
  · rw [List.getElem?_eq_none h] at hj; cases hj
 rw [add_at8, Nat.zero_add, (h j hlt).1]
 rw [List.getElem?_eq_getElem hlt] at hj
 exact hj
/-! ### the kinds -/
def KI : RowK Int where
 n := 1
 bytes := 8
 et := 3
 st := 28
 zero := .int .i64 0
 cs := fun x => [.int .i64 x]
 len := fun _ => rfl
 one := fun x u h => by simp at h; subst h; rfl
 pos := by decide
 bb := by decide
 und := by kernel_rfl
 elem := by kernel_rfl
 info := by kernel_rfl
 zs := rfl
theorem Ev.one {x : Ev} : ∀ u ∈ x.cells, u.oneCell' = true := by
 intro u hu
 simp [Ev.cells] at hu
 rcases hu with rfl | rfl | rfl | rfl | rfl | rfl | rfl | rfl | rfl | rfl | rfl | rfl <;> rfl
def zEv : Value := .agg #[.int .i64 0, .int .i64 0, .int .i64 0, .int .i64 0, .int .i64 0, .int .i64 0, .int .i64 0, .int .i64 0, .int .i64 0, .int .i64 0, .int .i64 0, .int .i64 0]
def KE : RowK Ev where
 n := 12
 bytes := 96
 et := 23
 st := 24
 zero := zEv
 cs := Ev.cells
 len := fun _ => rfl
 one := fun _ => Ev.one
 pos := by decide
 bb := by decide
 und := by kernel_rfl
 elem := by kernel_rfl
 info := by kernel_rfl
 zs := rfl
structure Hp where
 e : Ev
 t : Int
def Hp.cells (x : Hp) : List Value := x.e.cells ++ [.int .i64 x.t]
structure C4 where
 (f t w a : Int)
def C4.cells (c : C4) : List Value := [.int .i64 c.f, .int .i64 c.t, .int .i64 c.w, .int .i64 c.a]
structure An where
 (a t : Int)
def An.cells (x : An) : List Value := [.int .i64 x.a, .int .i64 x.t]
theorem RL.int {W : World} {ad : Option Addr} {l : List Int} (h : RL KI W ad l) (k : Nat) (hk : k < l.length) : ∃ b o, ad = some ⟨b, o, none⟩ ∧ b < W.heap.size ∧ ∀ W', Below W.heap.size W W' → W'.cell? ⟨b, o + k, none⟩ = some (.int .i64 l[k]) := by
 obtain ⟨b, o, h1, h2, h3⟩ := h.at_ k hk
 refine ⟨b, o, h1, h2, fun W' hb => ?_⟩
 have := h3 W' hb 0 (by decide)
 rw [show o + KI.n * k + 0 = o + k by show o + 1 * k + 0 = _; omega] at this
 exact this
theorem at_int8 (g o n c k : Nat) (hk : k < n) (w : World) : (Instr.indexAt 28 (.slice (some ⟨g, o, none⟩) n c) (.int .i64 (k : Int))).run Tryz.prog w = .ok (.pointer (some ⟨g, o + k, none⟩)) w := by
 have := KI.at_ g o n c k hk w
 rw [show o + KI.n * k = o + k by show o + 1 * k = _; omega] at this
 exact this
theorem at_ev8 (g o n c k : Nat) (hk : k < n) (w : World) : (Instr.indexAt 24 (.slice (some ⟨g, o, none⟩) n c) (.int .i64 (k : Int))).run Tryz.prog w = .ok (.pointer (some ⟨g, o + 12 * k, none⟩)) w := KE.at_ g o n c k hk w
def EvCells (W : World) (b o : Nat) (x : Ev) : Prop :=
 W.cell? ⟨b, o, none⟩ = some (.int .i64 x.ag) ∧ W.cell? ⟨b, o + 1, none⟩ = some (.int .i64 x.sq) ∧ W.cell? ⟨b, o + 2, none⟩ = some (.int .i64 x.tm) ∧ W.cell? ⟨b, o + 3, none⟩ = some (.int .i64 x.kd) ∧ W.cell? ⟨b, o + 4, none⟩ = some (.int .i64 x.tr) ∧ W.cell? ⟨b, o + 5, none⟩ = some (.int .i64 x.sp) ∧
 W.cell? ⟨b, o + 6, none⟩ = some (.int .i64 x.lk) ∧ W.cell? ⟨b, o + 7, none⟩ = some (.int .i64 x.gn) ∧ W.cell? ⟨b, o + 8, none⟩ = some (.int .i64 x.op) ∧ W.cell? ⟨b, o + 9, none⟩ = some (.int .i64 x.vr) ∧ W.cell? ⟨b, o + 10, none⟩ = some (.int .i64 x.pe) ∧ W.cell? ⟨b, o + 11, none⟩ = some (.int .i64 x.bt)
theorem RL.ev {W : World} {ad : Option Addr} {l : List Ev} (h : RL KE W ad l) (k : Nat) (hk : k < l.length) : ∃ b o, ad = some ⟨b, o, none⟩ ∧ b < W.heap.size ∧ ∀ W', Below W.heap.size W W' → EvCells W' b (o + 12 * k) l[k] := by
 obtain ⟨b, o, h1, h2, h3⟩ := h.at_ k hk
 refine ⟨b, o, h1, h2, fun W' hb => ?_⟩
 have := h3 W' hb
 exact ⟨this 0 (by decide), this 1 (by decide), this 2 (by decide), this 3 (by decide), this 4 (by decide), this 5 (by decide), this 6 (by decide), this 7 (by decide), this 8 (by decide), this 9 (by decide), this 10 (by decide), this 11 (by decide)⟩
end Go.Proofs.YtnpfhcnjkekhbaaGreatDoor

namespace Go.Proofs.YtnpfhcnjkekhbaaGreatDoor
open Go Go.Proofs Go.RowKit Go.Lib
theorem isIn_u (n lo hi : Int) (w : World) :
 Calls Tryz.prog 86 #[.int .i64 n, .int .i64 lo, .int .i64 hi] w fun e w' => e = .returned (.bool (inB n lo hi)) ∧ w' = w := by
 obtain ⟨B, hB⟩ : ∃ B, inB n lo hi = B := ⟨_, rfl⟩
 rw [hB]
 have HB := Lib.hid hB
 clear hB
 by_cases h1 : lo ≤ n
 · by_cases h2 : n ≤ hi
   · have HF := Lib.hid (show B = true by rw [← HB.out]; exact decide_eq_true ⟨h1, h2⟩)
     go_enter Tryz.func86, Tryz.ntmps86
     go_wp2
     go_ret
     exact ⟨by rw [HF.out]; rfl, rfl⟩
   · have HF := Lib.hid (show B = false by rw [← HB.out]; exact decide_eq_false (by omega))
     go_enter Tryz.func86, Tryz.ntmps86
     go_wp2
     go_ret
     exact ⟨by rw [HF.out]; rfl, rfl⟩
 · have h3 : decide (lo ≤ n) = false := decide_eq_false h1
   have HF := Lib.hid (show B = false by rw [← HB.out]; exact decide_eq_false (by omega))
   go_enter Tryz.func86, Tryz.ntmps86
   go_wp2
   go_ret
   exact ⟨by rw [HF.out]; rfl, rfl⟩
def idxN {T : Type} (p : T → Bool) : List T → Nat → Int
 | [], _ => -1
 | x :: l, k => if p x then (k : Int) else idxN p l (k + 1)
theorem idxN_step {T : Type} (p : T → Bool) {l : List T} {k : Nat} (h : k < l.length) : idxN p (l.drop k) k = if p l[k] then (k : Int) else idxN p (l.drop (k + 1)) (k + 1) := by
 rw [List.drop_eq_getElem_cons h]
 rfl
theorem idxN_any {T : Type} (p : T → Bool) : ∀ (l : List T) (k : Nat), decide (0 ≤ idxN p l k) = l.any p
 | [], k => by simp [idxN]
 | x :: l, k => by
  unfold idxN
  cases h : p x with
  | true => rw [if_pos rfl, List.any_cons, h, Bool.true_or]; exact decide_eq_true (Int.natCast_nonneg _)
  | false => rw [if_neg (by decide), idxN_any p l (k + 1), List.any_cons, h, Bool.false_or]
end Go.Proofs.YtnpfhcnjkekhbaaGreatDoor

namespace Go.Proofs.YtnpfhcnjkekhbaaGreatDoor
open Go Go.Proofs Go.RowKit Go.Lib
def lkT (i : Nat) : Int := [2, 0, 0, 3, 99, 0, 4, 99, 0, 5, 99, 99, 6, 99, 99, 7, 9, 0].getD i 0
def HasLk (W : World) : Prop := ∀ i, i < 18 → W.cell? ⟨0, i, none⟩ = some (.int .i64 (lkT i))
structure Rdy (W : World) : Prop where
 tab : HasLk W
 lt : 0 < W.heap.size
theorem Rdy.below {W W' : World} (h : Rdy W) (b : Below W.heap.size W W') : Rdy W' :=
 ⟨fun i hi => (b.cell (p := ⟨0, i, none⟩) h.lt).trans (h.tab i hi), Nat.lt_of_lt_of_le h.lt b.size⟩
theorem Rdy.up {n : Nat} {W W' : World} (h : Rdy W) (b : Below n W W') (hn : 0 < n) : Rdy W' :=
 ⟨fun i hi => (b.cell (p := ⟨0, i, none⟩) hn).trans (h.tab i hi), Nat.lt_of_lt_of_le h.lt b.size⟩
def linkB (ml mn : Int) (x : Ev) : Bool := inB x.lk 0 ml && inB x.gn 0 mn && x.op == 0 && x.vr == 0 && x.pe == 0
def begB (x : Ev) : Bool := inB x.lk (-1) 9 && x.lk != x.sp && x.gn == 0 && inB x.op 0 11 && inB x.vr 0 9 && inB x.pe (-1) 19
def tstB (x : Ev) : Bool :=
 if x.kd = 1 then begB x else if x.kd = 2 then linkB 0 0 x else if x.kd = 3 then linkB 99 0 x else if x.kd = 4 then linkB 99 0 x else if x.kd = 5 then linkB 99 99 x else if x.kd = 6 then linkB 99 99 x else if x.kd = 7 then linkB 9 0 x else false
def basB (x : Ev) : Bool := inB x.ag 0 5 && inB x.sq 0 999 && inB x.tm 0 1000000 && inB x.tr 0 999 && inB x.sp 0 9 && inB x.bt 0 1000
theorem inB_same (n k : Int) : inB n k k = (n == k) := by
 unfold inB
 rw [Bool.eq_iff_iff]
 simp
 omega
theorem evB_tst (x : Ev) : evB x = (tstB x && basB x) := by
 have hz := inB_same
 unfold evB tstB basB linkB begB
 rw [Bool.eq_iff_iff]
 by_cases h1 : x.kd = 1
 · rw [h1]; simp; constructor <;> (rintro h; simp_all)
 by_cases h2 : x.kd = 2
 · rw [h2]; simp [hz]; constructor <;> (rintro h; simp_all)
 by_cases h3 : x.kd = 3
 · rw [h3]; simp [hz]; constructor <;> (rintro h; simp_all)
 by_cases h4 : x.kd = 4
 · rw [h4]; simp [hz]; constructor <;> (rintro h; simp_all)
 by_cases h5 : x.kd = 5
 · rw [h5]; simp; constructor <;> (rintro h; simp_all)
 by_cases h6 : x.kd = 6
 · rw [h6]; simp; constructor <;> (rintro h; simp_all)
 by_cases h7 : x.kd = 7
 · rw [h7]; simp [hz]; constructor <;> (rintro h; simp_all)
 simp [h1, h2, h3, h4, h5, h6, h7]
end Go.Proofs.YtnpfhcnjkekhbaaGreatDoor

namespace Go.Proofs.YtnpfhcnjkekhbaaGreatDoor
open Go Go.Proofs Go.RowKit Go.Lib
structure Fl where
 dr : List Int
 lat : Int
 lia : Int
 sv : List Int
 tm : List Int
def Fl.fit (f : Fl) : Prop := f.dr.length ≤ 140737488355328 ∧ f.sv.length ≤ 140737488355328 ∧ f.tm.length ≤ 140737488355328
def FlAt (W : World) (v : Value) (f : Fl) : Prop := ∃ a1 c1 a2 c2 a3 c3, v = .agg #[.slice a1 f.dr.length c1, .int .i64 f.lat, .int .i64 f.lia, .slice a2 f.sv.length c2, .slice a3 f.tm.length c3] ∧ RL KI W a1 f.dr ∧ RL KI W a2 f.sv ∧ RL KI W a3 f.tm
theorem FlAt.below {W W' : World} {v : Value} {f : Fl} (h : FlAt W v f) (b : Below W.heap.size W W') : FlAt W' v f := by
 obtain ⟨a1, c1, a2, c2, a3, c3, e, h1, h2, h3⟩ := h
 exact ⟨a1, c1, a2, c2, a3, c3, e, h1.below b, h2.below b, h3.below b⟩
def Ev.fit (a : Ev) : Prop := -9223372036854775808 ≤ a.gn ∧ a.gn < 9223372036854775807
end Go.Proofs.YtnpfhcnjkekhbaaGreatDoor
