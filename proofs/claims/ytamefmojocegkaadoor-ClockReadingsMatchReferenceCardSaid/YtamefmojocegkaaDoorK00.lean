/-
  Layer 8: numbers picked, bounds of a number. Layer 8: rows of elements of some cells each: what a slice reads as, and rows of one's own. Layer 8: events; the contract of the reference's Event. Layer 8: the kinds of rows; fleets; the contracts of the reference's all and Valid. Layer 8: clocks, plain: when a tick begins, what is read at a time. Layer 8: the contracts of the reference's ValidClock and Begins. Layer 8: the contract of the reference's Reading. Layer 8, the program: isIn, isTime, ValidClock. Layer 8, the program: the table of kinds; what an event's test asks, plain. Layer 8: fleets; the contracts of the reference's Valid and follows. Layer 8: the contracts of the reference's Shown and Times.
-/
import Derived.Test.YtamefmojocegkaaDoorProg
import Derived.WalkKit
import Derived.WalkLawsBesides
import Derived.Outline
import Derived.Lib.Hide
import Derived.Below
import Derived.BigQuiet
import Derived.Deep.QuietTactic
import Derived.Laws.Rows
import Derived.Laws.OwnMore
import Derived.OwnWalk
set_option maxRecDepth 100000
set_option maxHeartbeats 16000000
namespace Go.Proofs.YtamefmojocegkaaDoor
open Go Go.Proofs Go.RowKit Go.Lib
def pick8 (c n : Int) : Int := if c < 0 then (-(c + 1)) % n else c % n
theorem pick8_lo {c n : Int} (hn : 1 ≤ n) : 0 ≤ pick8 c n := by unfold pick8; split <;> exact Int.emod_nonneg _ (by omega)
theorem pick8_hi {c n : Int} (hn : 1 ≤ n) : pick8 c n < n := by unfold pick8; split <;> exact Int.emod_lt_of_pos _ (by omega)
theorem ret_b8 {a b : Int} (h : a = b) : Ending.returned (.int .i64 a) = .returned (.int .i64 b) := by rw [h]
theorem pickL8_any (c n : Int) (h0 : -9223372036854775808 ≤ c) (h1 : c ≤ 9223372036854775807) (hn : 1 ≤ n) (hn2 : n ≤ 9223372036854775807) (w : World) :
 Calls Tryd.prog 26 #[.int .i64 c, .int .i64 n] w fun e w' => e = .returned (.int .i64 (pick8 c n)) ∧ w = w' := by
 have hz : (n == 0) = false := by rw [beq_eq_false_iff_ne]; omega
 by_cases hc : c < 0
 · have hp : pick8 c n = (-(c + 1)) % n := by unfold pick8; rw [if_pos hc]
   have HP := Lib.hid hp
   clear hp
   go_enter Tryd.func26, Tryd.ntmps26
   go_wp2
   go_ret
   exact ⟨ret_b8 (a := -((c + 1).tmod n)) (by rw [HP.out, ← Int.neg_tmod]; exact Int.tmod_eq_emod_of_nonneg (by omega)), rfl⟩
 · have hp : pick8 c n = c % n := by unfold pick8; rw [if_neg hc]
   have HP := Lib.hid hp
   have hc' : 0 ≤ c := by omega
   clear hp hc
   go_enter Tryd.func26, Tryd.ntmps26
   go_wp2
   go_ret
   exact ⟨ret_b8 HP.out.symm, rfl⟩
theorem pickR8_any (c n : Int) (h0 : -9223372036854775808 ≤ c) (h1 : c ≤ 9223372036854775807) (hn : 1 ≤ n) (hn2 : n ≤ 9223372036854775807) (w : World) :
 Calls Tryd.prog 38 #[.int .i64 c, .int .i64 n] w fun e w' => e = .returned (.int .i64 (pick8 c n)) ∧ w = w' := by
 have hz : (n == 0) = false := by rw [beq_eq_false_iff_ne]; omega
 by_cases hc : c < 0
 · have hp : pick8 c n = (-(c + 1)) % n := by unfold pick8; rw [if_pos hc]
   have HP := Lib.hid hp
   clear hp
   go_enter Tryd.func38, Tryd.ntmps38
   go_wp2
   go_ret
   exact ⟨ret_b8 (a := -((c + 1).tmod n)) (by rw [HP.out, ← Int.neg_tmod]; exact Int.tmod_eq_emod_of_nonneg (by omega)), rfl⟩
 · have hp : pick8 c n = c % n := by unfold pick8; rw [if_neg hc]
   have HP := Lib.hid hp
   have hc' : 0 ≤ c := by omega
   clear hp hc
   go_enter Tryd.func38, Tryd.ntmps38
   go_wp2
   go_ret
   exact ⟨ret_b8 HP.out.symm, rfl⟩
def inB (n lo hi : Int) : Bool := decide (lo ≤ n ∧ n ≤ hi)
theorem of_inB {n lo hi : Int} (h : inB n lo hi = true) : lo ≤ n ∧ n ≤ hi := of_decide_eq_true h
theorem inB_yes {n lo hi : Int} (h : lo ≤ n) (h2 : n ≤ hi) : inB n lo hi = true := decide_eq_true ⟨h, h2⟩
theorem in_any (n lo hi : Int) (w : World) :
 Calls Tryd.prog 42 #[.int .i64 n, .int .i64 lo, .int .i64 hi] w fun e w' => e = .returned (.bool (inB n lo hi)) ∧ w = w' := by
 obtain ⟨B, hB⟩ : ∃ B, inB n lo hi = B := ⟨_, rfl⟩
 rw [hB]
 have HB := Lib.hid hB
 clear hB
 by_cases h1 : lo ≤ n
 · by_cases h2 : n ≤ hi
   · have HF := Lib.hid (show B = true by rw [← HB.out]; exact decide_eq_true ⟨h1, h2⟩)
     go_enter Tryd.func42, Tryd.ntmps42
     go_wp2
     go_ret
     exact ⟨by rw [HF.out]; rfl, rfl⟩
   · have HF := Lib.hid (show B = false by rw [← HB.out]; exact decide_eq_false (by omega))
     go_enter Tryd.func42, Tryd.ntmps42
     go_wp2
     go_ret
     exact ⟨by rw [HF.out]; rfl, rfl⟩
 · have HF := Lib.hid (show B = false by rw [← HB.out]; exact decide_eq_false (by omega))
   go_enter Tryd.func42, Tryd.ntmps42
   go_wp2
   go_ret
   exact ⟨by rw [HF.out]; rfl, rfl⟩
end Go.Proofs.YtamefmojocegkaaDoor

namespace Go.Proofs.YtamefmojocegkaaDoor
open Go Go.Proofs Go.RowKit Go.Lib
structure RowK (T : Type) where
 n : Nat
 bytes : Nat
 et : TypeId
 st : TypeId
 zero : Value
 cs : T → List Value
 len : ∀ x, (cs x).length = n
 one : ∀ x u, u ∈ cs x → u.oneCell' = true
 pos : 0 < n
 bb : bytes ≤ 1000
 und : Tryd.prog.underlying st = some (.slice et)
 elem : Tryd.prog.elem st = et
 info : (Tryd.prog.info? et).map (fun i => (i.zero, i.size, i.bytes)) = some (some zero, n, bytes)
 zs : zero.cells.size = n
variable {T : Type}
def RowK.vs (K : RowK T) (l : List T) : List Value := l.flatMap K.cs
theorem RowK.vs_length (K : RowK T) : ∀ (l : List T), (K.vs l).length = l.length * K.n
 | [] => by simp [RowK.vs]
 | x :: l => by
  have := K.vs_length l
  unfold RowK.vs at *
  rw [List.flatMap_cons, List.length_append, this, List.length_cons, K.len, Nat.add_mul]
  omega
theorem RowK.vs_append (K : RowK T) (a b : List T) : K.vs (a ++ b) = K.vs a ++ K.vs b := List.flatMap_append
theorem RowK.vs_get (K : RowK T) : ∀ (l : List T) (i j : Nat) (hi : i < l.length) (_ : j < K.n), (K.vs l)[K.n * i + j]? = (K.cs l[i])[j]?
 | [], i, j, h, _ => absurd h (Nat.not_lt_zero _)
 | x :: l, 0, j, _, hj => by
  show (K.cs x ++ K.vs l)[K.n * 0 + j]? = _
  rw [Nat.mul_zero, Nat.zero_add, List.getElem?_append_left (by rw [K.len]; exact hj)]
  rfl
 | x :: l, i + 1, j, h, hj => by
  show (K.cs x ++ K.vs l)[K.n * (i + 1) + j]? = _
  have e : K.n * (i + 1) = K.n * i + K.n := by rw [Nat.mul_add, Nat.mul_one]
  rw [List.getElem?_append_right (by rw [K.len, e]; omega), show K.n * (i + 1) + j - (K.cs x).length = K.n * i + j by rw [K.len, e]; omega]
  exact K.vs_get l i j (by simpa using h) hj
theorem RowK.vs_one (K : RowK T) (l : List T) : ∀ u ∈ K.vs l, u.oneCell' = true := by
 intro u hu
 unfold RowK.vs at hu
 simp only [List.mem_flatMap] at hu
 obtain ⟨x, _, hx⟩ := hu
 exact K.one x u hx
theorem add_at8 (g o k : Nat) : (⟨g, o, none⟩ : Addr).add k = ⟨g, o + k, none⟩ := by unfold Addr.add; split <;> simp_all
theorem below_up8 {w W W2 : World} (b : Below w.heap.size w W) (b2 : Below W.heap.size W W2) : Below w.heap.size w W2 := b.trans (b2.mono b.size)
theorem RowK.at_ (K : RowK T) (g o n c k : Nat) (hk : k < n) (w : World) : (Instr.indexAt K.st (.slice (some ⟨g, o, none⟩) n c) (.int .i64 (k : Int))).run Tryd.prog w = .ok (.pointer (some ⟨g, o + K.n * k, none⟩)) w := by
 have hu := K.und
 rw [← K.elem] at hu
 obtain ⟨i0, hi, hz0, hz1, hz2⟩ := info_parts K.info
 rw [← K.elem] at hi
 rw [run_indexAt_slice w K.st _ _ _ _ _ hu, if_pos (by omega)]
 simp [sizeOf, typeInfo, hi, add_at8, Result.andThen, Nat.mul_comm, hz1]
def RL (K : RowK T) (W : World) (ad : Option Addr) (l : List T) : Prop :=
 l = [] ∨ ∃ b o, ad = some ⟨b, o, none⟩ ∧ b < W.heap.size ∧ ∀ i (h : i < l.length) j, j < K.n → W.cell? ⟨b, o + K.n * i + j, none⟩ = (K.cs l[i])[j]?
theorem RL.nil (K : RowK T) (W : World) (ad : Option Addr) : RL K W ad [] := .inl rfl
theorem RL.below {K : RowK T} {W W' : World} {ad : Option Addr} {l : List T} (h : RL K W ad l) (b : Below W.heap.size W W') : RL K W' ad l := by
 rcases h with h | ⟨g, o, h1, h2, h3⟩
 · exact .inl h
 · exact .inr ⟨g, o, h1, Nat.lt_of_lt_of_le h2 b.size, fun i hi j hj => (b.cell (p := ⟨g, o + K.n * i + j, none⟩) h2).trans (h3 i hi j hj)⟩
theorem RL.at_ {K : RowK T} {W : World} {ad : Option Addr} {l : List T} (h : RL K W ad l) (k : Nat) (hk : k < l.length) : ∃ b o, ad = some ⟨b, o, none⟩ ∧ b < W.heap.size ∧ ∀ W', Below W.heap.size W W' → ∀ j, j < K.n → W'.cell? ⟨b, o + K.n * k + j, none⟩ = (K.cs l[k])[j]? := by
 rcases h with h | ⟨b, o, h1, h2, h3⟩
 · subst h
   exact absurd hk (Nat.not_lt_zero _)
 · exact ⟨b, o, h1, h2, fun W' hb j hj => (hb.cell (p := ⟨b, o + K.n * k + j, none⟩) h2).trans (h3 k hk j hj)⟩
theorem RL.sub {K : RowK T} {W : World} {b o : Nat} {l : List T} (h : RL K W (some ⟨b, o, none⟩) l) (k m : Nat) (hk : k + m ≤ l.length) : RL K W (some ⟨b, o + K.n * k, none⟩) ((l.drop k).take m) := by
 rcases h with h | ⟨g, o', h1, h2, h3⟩
 · subst h
   exact .inl (by simp)
 · injection h1 with h1
   injection h1 with e1 e2
   subst e1 e2
   refine .inr ⟨b, o + K.n * k, rfl, h2, fun i hi j hj => ?_⟩
   have hi' : i < m := by rw [List.length_take] at hi; omega
   have := h3 (k + i) (by omega) j hj
   rw [Nat.mul_add] at this
   rw [show o + K.n * k + K.n * i + j = o + (K.n * k + K.n * i) + j by omega, this]
   congr 2
   simp
def RN (K : RowK T) (W : World) (base : Nat) (ad : Option Addr) (l : List T) : Prop :=
 l = [] ∨ ∃ b o, ad = some ⟨b, o, none⟩ ∧ base ≤ b ∧ b < W.heap.size ∧ ∀ i (h : i < l.length) j, j < K.n → W.cell? ⟨b, o + K.n * i + j, none⟩ = (K.cs l[i])[j]?
theorem RN.rl {K : RowK T} {W : World} {base : Nat} {ad : Option Addr} {l : List T} (h : RN K W base ad l) : RL K W ad l := by
 rcases h with h | ⟨b, o, h1, _, h2, h3⟩
 · exact .inl h
 · exact .inr ⟨b, o, h1, h2, h3⟩
theorem RN.base {K : RowK T} {W : World} {base base' : Nat} {ad : Option Addr} {l : List T} (h : RN K W base ad l) (hb : base' ≤ base) : RN K W base' ad l := by
 rcases h with h | ⟨b, o, h1, h0, h2, h3⟩
 · exact .inl h
 · exact .inr ⟨b, o, h1, Nat.le_trans hb h0, h2, h3⟩
theorem RN.below {K : RowK T} {W W' : World} {base : Nat} {ad : Option Addr} {l : List T} (h : RN K W base ad l) (b : Below W.heap.size W W') : RN K W' base ad l := by
 rcases h with h | ⟨g, o, h1, h0, h2, h3⟩
 · exact .inl h
 · exact .inr ⟨g, o, h1, h0, Nat.lt_of_lt_of_le h2 b.size, fun i hi j hj => (b.cell (p := ⟨g, o + K.n * i + j, none⟩) h2).trans (h3 i hi j hj)⟩
theorem RN.far {K : RowK T} {W : World} {base B i : Nat} {ad : Option Addr} {u : Value} {l : List T} (h : RN K W base ad l) (hB : B < base) : RN K (W.setCell ⟨B, i, none⟩ u) base ad l := by
 rcases h with h | ⟨g, o, h1, h0, h2, h3⟩
 · exact .inl h
 · exact .inr ⟨g, o, h1, h0, by simpa using h2, fun i hi j hj => (World.cell?_setCell_other _ _ _ _ (fun e => by injection e with e1; omega)).trans (h3 i hi j hj)⟩
def Own (K : RowK T) (W : World) (base : Nat) (v : Value) (l : List T) : Prop := W.ownsRow base K.et K.n v l.length (K.vs l)
theorem Own.nil (K : RowK T) (W : World) (base : Nat) : Own K W base (.slice none 0 0) [] := World.ownsRow_nil _ _ _ _
theorem Own.ge {K : RowK T} {W : World} {base : Nat} {v : Value} {l : List T} (h : Own K W base v l) : ∀ k, v.ownBlock = some k → base ≤ k ∧ k < W.heap.size := World.ownsRow.lt h
theorem own_move8 {w w' : World} {base : Nat} {e : TypeId} {size : Nat} {v : Value} {k : Nat} {xs : List Value} (h : w.ownsRow base e size v k xs) (hb : ∀ j, v.ownBlock = some j → w'.heap[j]? = w.heap[j]?) : w'.ownsRow base e size v k xs := by
 refine ⟨h.1, h.2.imp id ?_⟩
 rintro ⟨g, cap, cur, rfl, hg, hh, r⟩
 exact ⟨g, cap, cur, rfl, hg, (hb g rfl).trans hh, r⟩
theorem Own.below {n base : Nat} {K : RowK T} {W W' : World} {v : Value} {l : List T} (h : Own K W base v l) (hb : Below n W W') (hn : W.heap.size ≤ n) : Own K W' base v l := own_move8 h fun j hj => hb.block j (Nat.lt_of_lt_of_le (h.ge j hj).2 hn)
theorem Own.alloc {K : RowK T} {W : World} {base : Nat} {v : Value} {l : List T} (h : Own K W base v l) (o : Obj) : Own K (W.alloc o) base v l := World.ownsRow.alloc h o
theorem Own.far {K : RowK T} {W : World} {base B i : Nat} {v u : Value} {l : List T} (h : Own K W base v l) (hB : v.ownBlock ≠ some B) : Own K (W.setCell ⟨B, i, none⟩ u) base v l := own_move8 h fun j hj => Below.heap_setCell W ⟨B, i, none⟩ u j (by rintro rfl; exact hB hj)
theorem Own.base {K : RowK T} {W : World} {base base' : Nat} {v : Value} {l : List T} (h : Own K W base v l) (hb : base' ≤ base) : Own K W base' v l := by
 refine ⟨h.1, h.2.imp id ?_⟩
 rintro ⟨g, cap, cur, hv, hg, r⟩
 exact ⟨g, cap, cur, hv, Nat.le_trans hb hg, r⟩
theorem Own.rn {K : RowK T} {W : World} {base : Nat} {v : Value} {l : List T} (h : Own K W base v l) : ∃ ad c, v = .slice ad l.length c ∧ l.length ≤ c ∧ RN K W base ad l := by
 rcases h.2 with ⟨hv, h1⟩ | ⟨g, cap, cur, hv, hb, hg, h2, h3, h4, h5⟩
 · refine ⟨none, 0, by rw [hv, h1], by omega, .inl (List.length_eq_zero_iff.1 h1)⟩
 · have hlt : g < W.heap.size := (Array.getElem?_eq_some_iff.1 hg).1
   refine ⟨_, cap, hv, h2, .inr ⟨g, 0, rfl, hb, hlt, fun i hi j hj => ?_⟩⟩
   have hij : K.n * i + j < l.length * K.n := by
    have : K.n * (i + 1) ≤ K.n * l.length := Nat.mul_le_mul_left _ hi
    rw [Nat.mul_add, Nat.mul_one, Nat.mul_comm K.n l.length] at this
    omega
   rw [Nat.zero_add, cell_of_row W g (K.n * i + j) cur _ _ hg, ← Array.getElem?_toList, ← List.getElem?_take_of_lt (j := l.length * K.n) hij, h5, K.vs_get l i j hi hj]
theorem Own.form {K : RowK T} {W : World} {base : Nat} {v : Value} {l : List T} (h : Own K W base v l) : ∃ ad c, v = .slice ad l.length c ∧ l.length ≤ c := by
 obtain ⟨ad, c, e, hc, _⟩ := h.rn
 exact ⟨ad, c, e, hc⟩
theorem Own.block {K : RowK T} {W : World} {base : Nat} {v : Value} {l : List T} (h : Own K W base v l) (h0 : 0 < l.length) : ∃ g c, v = .slice (some ⟨g, 0, none⟩) l.length c ∧ v.ownBlock = some g ∧ base ≤ g ∧ g < W.heap.size := by
 rcases h.2 with ⟨hv, h1⟩ | ⟨g, cap, cur, hv, hb, hg, _⟩
 · omega
 · exact ⟨g, cap, hv, by rw [hv]; rfl, hb, (Array.getElem?_eq_some_iff.1 hg).1⟩
theorem Own.cell {K : RowK T} {W : World} {base g n c : Nat} {l : List T} (h : Own K W base (.slice (some ⟨g, 0, none⟩) n c) l) (i : Nat) (hi : i < l.length) (j : Nat) (hj : j < K.n) : W.cell? ⟨g, K.n * i + j, none⟩ = (K.cs l[i])[j]? ∧ W.frozen? ⟨g, K.n * i + j, none⟩ = false := by
 obtain ⟨ad, c2, e, _⟩ := h.form
 injection e with e1 e2 e3
 subst e2 e3
 have hij : K.n * i + j < l.length * K.n := by
  have : K.n * (i + 1) ≤ K.n * l.length := Nat.mul_le_mul_left _ hi
  rw [Nat.mul_add, Nat.mul_one, Nat.mul_comm K.n l.length] at this
  omega
 exact ⟨(World.ownsRow.cellAt h _ hij).trans (K.vs_get l i j hi hj), World.ownsRow.frozenAt h _⟩
theorem RowK.vs_set (K : RowK T) : ∀ (l : List T) (i j : Nat) (x : T) (u : Value) (hi : i < l.length) (_ : j < K.n) (_ : K.cs x = (K.cs l[i]).set j u), (K.vs l).set (K.n * i + j) u = K.vs (l.set i x)
 | [], i, j, _, _, h, _, _ => absurd h (Nat.not_lt_zero _)
 | y :: l, 0, j, x, u, _, hj, he => by
  show (K.cs y ++ K.vs l).set (K.n * 0 + j) u = K.cs x ++ K.vs l
  rw [Nat.mul_zero, Nat.zero_add, List.set_append_left _ _ (by rw [K.len]; exact hj), he]
  rfl
 | y :: l, i + 1, j, x, u, h, hj, he => by
  show (K.cs y ++ K.vs l).set (K.n * (i + 1) + j) u = K.cs y ++ K.vs (l.set i x)
  have e : K.n * (i + 1) = K.n * i + K.n := by rw [Nat.mul_add, Nat.mul_one]
  rw [List.set_append_right _ _ (by rw [K.len, e]; omega), show K.n * (i + 1) + j - (K.cs y).length = K.n * i + j by rw [K.len, e]; omega,
   K.vs_set l i j x u (by simpa using h) hj he]
theorem Own.put {K : RowK T} {W : World} {base g n c : Nat} {l : List T} (h : Own K W base (.slice (some ⟨g, 0, none⟩) n c) l) (i : Nat) (hi : i < l.length) (j : Nat) (hj : j < K.n) (x : T) (u : Value) (hx : K.cs x = (K.cs l[i]).set j u) :
 Own K (W.setCell ⟨g, K.n * i + j, none⟩ u) base (.slice (some ⟨g, 0, none⟩) n c) (l.set i x) ∧ W.grownBy (W.setCell ⟨g, K.n * i + j, none⟩ u) (some g) := by
 obtain ⟨ad, c2, e, _⟩ := h.form
 injection e with e1 e2 e3
 subst e2 e3
 have := World.ownsRow.stored h (K.n * i + j) u
 rw [K.vs_set l i j x u hi hj hx] at this
 unfold Own
 rw [List.length_set]
 exact this
theorem Own.cut {K : RowK T} {W : World} {base g n c : Nat} {l : List T} (h : Own K W base (.slice (some ⟨g, 0, none⟩) n c) l) (k : Nat) (hk : k ≤ l.length) : Own K W base (.slice (some ⟨g, 0, none⟩) k c) (l.take k) := by
 obtain ⟨ad, c2, e, hc⟩ := h.form
 injection e with e1 e2 e3
 subst e2 e3
 rcases h.2 with ⟨hv, h1⟩ | ⟨g', cap, cur, hv, hb, hg, h2, h3, h4, h5⟩
 · cases hv
 · injection hv with e1 e2 e3
   injection e1 with e1
   injection e1 with e1
   subst e1 e3
   have hl : (l.take k).length = k := by rw [List.length_take]; omega
   unfold Own
   rw [hl]
   refine ⟨by rw [K.vs_length, hl], .inr ⟨g, c, cur, rfl, hb, hg, by omega, h3, h4, ?_⟩⟩
   have e : (K.vs l).take (k * K.n) = K.vs (l.take k) := by
    have : K.vs l = K.vs (l.take k) ++ K.vs (l.drop k) := by rw [← K.vs_append, List.take_append_drop]
    rw [this, show k * K.n = (K.vs (l.take k)).length by rw [K.vs_length, hl], List.take_left]
   rw [← e, ← h5, List.take_take, Nat.min_eq_left (Nat.mul_le_mul_right _ hk)]
theorem RowK.push (K : RowK T) (w : World) (n : Nat) (ty : TypeId) (v : Value) (l p : List T) (hown : Own K w n v l) (hn : n ≤ w.heap.size) (ad : Addr) (m c : Nat) (hm : p.length = m)
 (hc : ∀ j u, (K.vs p)[j]? = some u → w.cell? (ad.add j) = some u) (hl : l.length + p.length ≤ 100000000) :
 ∃ v' w', (Builtin.append_ #[K.st, K.st] ty #[v, .slice (some ad) m c]).run Tryd.prog w = .ok v' w' ∧ Own K w' n v' (l ++ p) ∧ w.grownBy w' v.ownBlock ∧ (v'.ownBlock = v.ownBlock ∨ v'.ownBlock = some w.heap.size) := by
 subst hm
 obtain ⟨i0, hi, hz0, hz1, hz2⟩ := info_parts K.info
 have hby : (l.length + p.length) * K.bytes ≤ 140737488355328 := Nat.le_trans (Nat.mul_le_mul hl K.bb) (by decide)
 have hmx : l.length + p.length ≤ maxLen := by unfold maxLen; omega
 obtain ⟨v', w', hrun, r1, r2, _⟩ := run_append_own (P := Tryd.prog) w n K.st ty K.et i0 K.zero K.n K.bytes K.und hi hz0 hz1 hz2 K.zs K.pos v l.length (K.vs l) hown
  ad p.length c (K.vs p) (K.vs_length p) hc (K.vs_one p) hmx hby hn
 have hown' : Own K w' n v' (l ++ p) := by
  unfold Own
  rw [K.vs_append, List.length_append]
  exact r1
 refine ⟨v', w', hrun, hown', r2, ?_⟩
 have hz2' : (l.length + p.length) * i0.bytes ≤ 140737488355328 := by rw [hz2]; exact hby
 rcases hown.2 with ⟨hv, h1⟩ | ⟨g, cap, cur, hv, hb, hg, h2, h3, h4, h5⟩
 · have hl0 : l = [] := List.length_eq_zero_iff.1 h1
   subst hl0
   subst hv
   by_cases hp : p = []
   · subst hp
     left
     have := (World.ownsRow.lt (v := v') (xs := K.vs [] ++ K.vs []) r1)
     rename_i h9
     have e : v' = .slice none 0 0 := h9.2 ⟨rfl, rfl⟩
     rw [e]
   · right
     have h0 : 0 < p.length := List.length_pos_iff.2 hp
     have hr := run_append_nil (P := Tryd.prog) w K.st ty K.et i0 K.zero K.und hi hz0 ad p.length c (K.vs p) (by rw [hz1]; exact K.vs_length p) hc h0 (by simp at hl; omega) (by simp at hz2'; omega)
     rw [hrun] at hr
     injection hr with e1 e2
     rw [e1]
     rfl
 · subst hv
   by_cases hroom : l.length + p.length ≤ cap
   · left
     have hr := run_append_room (P := Tryd.prog) w K.st ty K.et i0 K.und hi g l.length cap cur hg ad p.length c (K.vs p) (by rw [hz1]; exact K.vs_length p) hc (K.vs_one p) hroom
      (by rw [hz1, h4, K.vs_length, ← Nat.add_mul]; exact Nat.mul_le_mul_right _ hroom)
     rw [hrun] at hr
     injection hr with e1 e2
     rw [e1]
     rfl
   · right
     have hr := run_append_grow (P := Tryd.prog) w K.st ty K.et i0 K.zero K.und hi hz0 ⟨g, 0, none⟩ l.length cap (K.vs l) (by rw [hz1]; exact K.vs_length l) (World.ownsRow.cells (g := g) hown rfl)
      ad p.length c (K.vs p) (by rw [hz1]; exact K.vs_length p) hc (by omega) (by omega) (growslice_fits (by omega) hz2')
     rw [hrun] at hr
     injection hr with e1 e2
     rw [e1]
     rfl
end Go.Proofs.YtamefmojocegkaaDoor

namespace Go.Proofs.YtamefmojocegkaaDoor
open Go Go.Proofs Go.RowKit Go.Lib
structure Ev where
 (ag sq tm kd tr sp lk gn op vr pe bt : Int)
def Ev.cells (e : Ev) : List Value := [.int .i64 e.ag, .int .i64 e.sq, .int .i64 e.tm, .int .i64 e.kd, .int .i64 e.tr, .int .i64 e.sp, .int .i64 e.lk, .int .i64 e.gn, .int .i64 e.op, .int .i64 e.vr, .int .i64 e.pe, .int .i64 e.bt]
def Ev.val (e : Ev) : Value := .agg #[.int .i64 e.ag, .int .i64 e.sq, .int .i64 e.tm, .int .i64 e.kd, .int .i64 e.tr, .int .i64 e.sp, .int .i64 e.lk, .int .i64 e.gn, .int .i64 e.op, .int .i64 e.vr, .int .i64 e.pe, .int .i64 e.bt]
def evB (e : Ev) : Bool :=
 (inB e.ag 0 5 && inB e.sq 0 999 && inB e.tm 0 1000000 && inB e.tr 0 999 && inB e.sp 0 9 && inB e.bt 0 1000) &&
 (if e.kd == 1 then inB e.lk (-1) 9 && e.lk != e.sp && e.gn == 0 && inB e.op 0 11 && inB e.vr 0 9 && inB e.pe (-1) 19
  else (e.op == 0 && e.vr == 0 && e.pe == 0) &&
   (if e.kd == 2 then e.lk == 0 && e.gn == 0
    else if e.kd == 3 || e.kd == 4 then inB e.lk 0 99 && e.gn == 0
    else if e.kd == 5 || e.kd == 6 then inB e.lk 0 99 && inB e.gn 0 99
    else if e.kd == 7 then inB e.lk 0 9 && e.gn == 0
    else false))
end Go.Proofs.YtamefmojocegkaaDoor

namespace Go.Proofs.YtamefmojocegkaaDoor
open Go Go.Proofs Go.RowKit Go.Lib
def CellsAt (W : World) (B : Nat) (vs : List Value) : Prop := ∀ i (h : i < vs.length), W.cell? ⟨B, i, none⟩ = some vs[i] ∧ W.frozen? ⟨B, i, none⟩ = false
theorem cellsAt_of {W : World} {B : Nat} {vs : List Value} {t : TypeId} (h : W.heap[B]? = some (.cells vs.toArray t)) : CellsAt W B vs := fun i hi => by
 simp [World.cell?, World.frozen?, h, hi]
theorem CellsAt.below {W W' : World} {B : Nat} {v : Value} {vs : List Value} (h : CellsAt W B (v :: vs)) (b : Below W.heap.size W W') : CellsAt W' B (v :: vs) := fun i hi => by
 have l := World.block_lt_of_cell? W ⟨B, 0, none⟩ (h 0 (Nat.zero_lt_succ _)).1
 exact ⟨(b.cell (p := ⟨B, i, none⟩) l).trans (h i hi).1, (b.frozen (p := ⟨B, i, none⟩) l).trans (h i hi).2⟩
theorem CellsAt.far {W : World} {A B i : Nat} {v : Value} {vs : List Value} (h : CellsAt W B vs) (hne : A ≠ B) : CellsAt (W.setCell ⟨A, i, none⟩ v) B vs := fun j hj =>
 ⟨(World.cell?_setCell_other W ⟨A, i, none⟩ ⟨B, j, none⟩ v (by intro e; injection e with e1 e2; exact hne e1)).trans (h j hj).1, by simp [(h j hj).2]⟩
theorem CellsAt.put {W : World} {B : Nat} {vs : List Value} (h : CellsAt W B vs) (i : Nat) (v : Value) : CellsAt (W.setCell ⟨B, i, none⟩ v) B (vs.set i v) := fun j hj => by
 have hj' : j < vs.length := by simpa using hj
 refine ⟨?_, by simp [(h j hj').2]⟩
 by_cases e : i = j
 · subst e
   rw [List.getElem_set_self]
   exact World.cell?_setCell_same W ⟨B, i, none⟩ v (h i hj').1
 · rw [List.getElem_set_ne e]
   exact (World.cell?_setCell_other W ⟨B, i, none⟩ ⟨B, j, none⟩ v (by intro h2; injection h2 with e1 e2; exact e e2)).trans (h j hj').1
theorem cellsAt_new {W : World} {B : Nat} {vs : List Value} {t : TypeId} (h : B = W.heap.size) : CellsAt (W.alloc (.cells vs.toArray t)) B vs := by subst h; exact cellsAt_of (heap_alloc_new _ _)
theorem CellsAt.news {W : World} {g : Nat} {vs : List Value} (h : CellsAt W g vs) : ∀ j u, vs[j]? = some u → W.cell? ((⟨g, 0, none⟩ : Addr).add j) = some u := by
 intro j u hj
 have hlt : j < vs.length := by
  rcases Nat.lt_or_ge j vs.length with h | h
  · exact h
  · rw [List.getElem?_eq_none h] at hj; cases hj
 rw [add_at8, Nat.zero_add, (h j hlt).1]
 rw [List.getElem?_eq_getElem hlt] at hj
 exact hj
/-! ### the kinds -/
def KI : RowK Int where
 n := 1
 bytes := 8
 et := 3
 st := 22
 zero := .int .i64 0
 cs := fun x => [.int .i64 x]
 len := fun _ => rfl
 one := fun x u h => by simp at h; subst h; rfl
 pos := by decide
 bb := by decide
 und := by kernel_rfl
 elem := by kernel_rfl
 info := by kernel_rfl
 zs := rfl
theorem Ev.one {x : Ev} : ∀ u ∈ x.cells, u.oneCell' = true := by
 intro u hu
 simp [Ev.cells] at hu
 rcases hu with rfl | rfl | rfl | rfl | rfl | rfl | rfl | rfl | rfl | rfl | rfl | rfl <;> rfl
def zEv : Value := .agg #[.int .i64 0, .int .i64 0, .int .i64 0, .int .i64 0, .int .i64 0, .int .i64 0, .int .i64 0, .int .i64 0, .int .i64 0, .int .i64 0, .int .i64 0, .int .i64 0]
def KE : RowK Ev where
 n := 12
 bytes := 96
 et := 46
 st := 25
 zero := zEv
 cs := Ev.cells
 len := fun _ => rfl
 one := fun _ => Ev.one
 pos := by decide
 bb := by decide
 und := by kernel_rfl
 elem := by kernel_rfl
 info := by kernel_rfl
 zs := rfl
structure Hp where
 e : Ev
 t : Int
def Hp.cells (x : Hp) : List Value := x.e.cells ++ [.int .i64 x.t]
def KH : RowK Hp where
 n := 13
 bytes := 104
 et := 99
 st := 74
 zero := .agg #[.int .i64 0, .int .i64 0, .int .i64 0, .int .i64 0, .int .i64 0, .int .i64 0, .int .i64 0, .int .i64 0, .int .i64 0, .int .i64 0, .int .i64 0, .int .i64 0, .int .i64 0]
 cs := Hp.cells
 len := fun _ => rfl
 one := fun x u hu => by
  simp [Hp.cells] at hu
  rcases hu with hu | rfl
  · exact Ev.one u hu
  · rfl
 pos := by decide
 bb := by decide
 und := by kernel_rfl
 elem := by kernel_rfl
 info := by kernel_rfl
 zs := rfl
structure C4 where
 (f t w a : Int)
def C4.cells (c : C4) : List Value := [.int .i64 c.f, .int .i64 c.t, .int .i64 c.w, .int .i64 c.a]
def KC : RowK C4 where
 n := 4
 bytes := 32
 et := 64
 st := 36
 zero := .agg #[.int .i64 0, .int .i64 0, .int .i64 0, .int .i64 0]
 cs := C4.cells
 len := fun _ => rfl
 one := fun x u hu => by
  simp [C4.cells] at hu
  rcases hu with rfl | rfl | rfl | rfl <;> rfl
 pos := by decide
 bb := by decide
 und := by kernel_rfl
 elem := by kernel_rfl
 info := by kernel_rfl
 zs := rfl
structure An where
 (a t : Int)
def An.cells (x : An) : List Value := [.int .i64 x.a, .int .i64 x.t]
def KA : RowK An where
 n := 2
 bytes := 16
 et := 60
 st := 48
 zero := .agg #[.int .i64 0, .int .i64 0]
 cs := An.cells
 len := fun _ => rfl
 one := fun x u hu => by
  simp [An.cells] at hu
  rcases hu with rfl | rfl <;> rfl
 pos := by decide
 bb := by decide
 und := by kernel_rfl
 elem := by kernel_rfl
 info := by kernel_rfl
 zs := rfl
def KB : RowK Bool where
 n := 1
 bytes := 1
 et := 4
 st := 101
 zero := .bool false
 cs := fun x => [.bool x]
 len := fun _ => rfl
 one := fun x u h => by simp at h; subst h; rfl
 pos := by decide
 bb := by decide
 und := by kernel_rfl
 elem := by kernel_rfl
 info := by kernel_rfl
 zs := rfl
theorem RL.int {W : World} {ad : Option Addr} {l : List Int} (h : RL KI W ad l) (k : Nat) (hk : k < l.length) : ∃ b o, ad = some ⟨b, o, none⟩ ∧ b < W.heap.size ∧ ∀ W', Below W.heap.size W W' → W'.cell? ⟨b, o + k, none⟩ = some (.int .i64 l[k]) := by
 obtain ⟨b, o, h1, h2, h3⟩ := h.at_ k hk
 refine ⟨b, o, h1, h2, fun W' hb => ?_⟩
 have := h3 W' hb 0 (by decide)
 rw [show o + KI.n * k + 0 = o + k by show o + 1 * k + 0 = _; omega] at this
 exact this
theorem at_int8 (g o n c k : Nat) (hk : k < n) (w : World) : (Instr.indexAt 22 (.slice (some ⟨g, o, none⟩) n c) (.int .i64 (k : Int))).run Tryd.prog w = .ok (.pointer (some ⟨g, o + k, none⟩)) w := by
 have := KI.at_ g o n c k hk w
 rw [show o + KI.n * k = o + k by show o + 1 * k = _; omega] at this
 exact this
theorem at_ev8 (g o n c k : Nat) (hk : k < n) (w : World) : (Instr.indexAt 25 (.slice (some ⟨g, o, none⟩) n c) (.int .i64 (k : Int))).run Tryd.prog w = .ok (.pointer (some ⟨g, o + 12 * k, none⟩)) w := KE.at_ g o n c k hk w
def EvCells (W : World) (b o : Nat) (x : Ev) : Prop :=
 W.cell? ⟨b, o, none⟩ = some (.int .i64 x.ag) ∧ W.cell? ⟨b, o + 1, none⟩ = some (.int .i64 x.sq) ∧ W.cell? ⟨b, o + 2, none⟩ = some (.int .i64 x.tm) ∧ W.cell? ⟨b, o + 3, none⟩ = some (.int .i64 x.kd) ∧ W.cell? ⟨b, o + 4, none⟩ = some (.int .i64 x.tr) ∧ W.cell? ⟨b, o + 5, none⟩ = some (.int .i64 x.sp) ∧
 W.cell? ⟨b, o + 6, none⟩ = some (.int .i64 x.lk) ∧ W.cell? ⟨b, o + 7, none⟩ = some (.int .i64 x.gn) ∧ W.cell? ⟨b, o + 8, none⟩ = some (.int .i64 x.op) ∧ W.cell? ⟨b, o + 9, none⟩ = some (.int .i64 x.vr) ∧ W.cell? ⟨b, o + 10, none⟩ = some (.int .i64 x.pe) ∧ W.cell? ⟨b, o + 11, none⟩ = some (.int .i64 x.bt)
theorem RL.ev {W : World} {ad : Option Addr} {l : List Ev} (h : RL KE W ad l) (k : Nat) (hk : k < l.length) : ∃ b o, ad = some ⟨b, o, none⟩ ∧ b < W.heap.size ∧ ∀ W', Below W.heap.size W W' → EvCells W' b (o + 12 * k) l[k] := by
 obtain ⟨b, o, h1, h2, h3⟩ := h.at_ k hk
 refine ⟨b, o, h1, h2, fun W' hb => ?_⟩
 have := h3 W' hb
 exact ⟨this 0 (by decide), this 1 (by decide), this 2 (by decide), this 3 (by decide), this 4 (by decide), this 5 (by decide), this 6 (by decide), this 7 (by decide), this 8 (by decide), this 9 (by decide), this 10 (by decide), this 11 (by decide)⟩
def allB (l : List Int) (hi : Int) : Bool := l.all fun x => inB x 0 hi
end Go.Proofs.YtamefmojocegkaaDoor

namespace Go.Proofs.YtamefmojocegkaaDoor
open Go Go.Proofs Go.RowKit Go.Lib
structure Cl where
 dr : Int
 an : List An
def CkAt (W : World) (v : Value) (c : Cl) : Prop := ∃ ad k, v = .agg #[.int .i64 c.dr, .slice ad c.an.length k] ∧ RL KA W ad c.an
theorem CkAt.below {W W' : World} {v : Value} {c : Cl} (h : CkAt W v c) (b : Below W.heap.size W W') : CkAt W' v c := by
 obtain ⟨ad, k, e, h1⟩ := h
 exact ⟨ad, k, e, h1.below b⟩
def anB (a : An) : Bool := inB a.a 0 1000001 && inB a.t (-17592186044416) 17592186044416
def ckB (c : Cl) : Bool := c.an.all anB && inB c.dr 0 1000 && inB c.an.length 1 24
def begA (dr r : Int) (a : An) : Int := if r < a.a then a.t + (r - a.a) * (1000000 + dr) else a.t + (r - a.a) * (1000000 - dr)
def begN (dr r : Int) : List An → Int
 | [] => 0
 | a :: l => l.foldl (fun o b => if o < begA dr r b then begA dr r b else o) (begA dr r a)
theorem begN_step (dr r : Int) (l : List An) (k : Nat) (hk : k < l.length) : begN dr r (l.take (k + 1)) = if k = 0 ∨ begN dr r (l.take k) < begA dr r l[k] then begA dr r l[k] else begN dr r (l.take k) := by
 cases l with
 | nil => exact absurd hk (Nat.not_lt_zero _)
 | cons a l =>
  cases k with
  | zero => simp [begN]
  | succ k =>
   have hk' : k < l.length := by simpa using hk
   simp only [List.take_succ_cons, begN, List.getElem_cons_succ]
   rw [List.take_succ_eq_append_getElem hk', List.foldl_append]
   simp
theorem foldl_mem (dr r : Int) : ∀ (l : List An) (o : Int), l.foldl (fun o b => if o < begA dr r b then begA dr r b else o) o = o ∨ ∃ a ∈ l, l.foldl (fun o b => if o < begA dr r b then begA dr r b else o) o = begA dr r a
 | [], o => .inl rfl
 | a :: l, o => by
  simp only [List.foldl_cons]
  rcases foldl_mem dr r l (if o < begA dr r a then begA dr r a else o) with h | ⟨b, hb, h⟩
  · by_cases h2 : o < begA dr r a
    · rw [if_pos h2] at h ⊢
      exact .inr ⟨a, List.mem_cons_self, h⟩
    · rw [if_neg h2] at h ⊢
      exact .inl h
  · exact .inr ⟨b, List.mem_cons_of_mem _ hb, h⟩
theorem foldl_ge (dr r : Int) : ∀ (l : List An) (o : Int), o ≤ l.foldl (fun o b => if o < begA dr r b then begA dr r b else o) o ∧ ∀ a ∈ l, begA dr r a ≤ l.foldl (fun o b => if o < begA dr r b then begA dr r b else o) o
 | [], o => ⟨Int.le_refl _, fun _ h => absurd h (List.not_mem_nil)⟩
 | a :: l, o => by
  simp only [List.foldl_cons]
  obtain ⟨h1, h2⟩ := foldl_ge dr r l (if o < begA dr r a then begA dr r a else o)
  refine ⟨?_, fun b hb => ?_⟩
  · refine Int.le_trans ?_ h1
    split <;> omega
  · rcases List.mem_cons.1 hb with rfl | hb
    · refine Int.le_trans ?_ h1
      split <;> omega
    · exact h2 b hb
theorem begN_mem (dr r : Int) (l : List An) (h : l ≠ []) : ∃ a ∈ l, begN dr r l = begA dr r a := by
 cases l with
 | nil => exact absurd rfl h
 | cons a l =>
  rcases foldl_mem dr r l (begA dr r a) with h | ⟨b, hb, h⟩
  · exact ⟨a, List.mem_cons_self, h⟩
  · exact ⟨b, List.mem_cons_of_mem _ hb, h⟩
theorem begN_ge (dr r : Int) (l : List An) : ∀ a ∈ l, begA dr r a ≤ begN dr r l := by
 cases l with
 | nil => exact fun _ h => absurd h List.not_mem_nil
 | cons a l =>
  intro b hb
  rcases List.mem_cons.1 hb with rfl | hb
  · exact (foldl_ge dr r l _).1
  · exact (foldl_ge dr r l _).2 b hb
theorem begA_step (dr r : Int) (a : An) (h0 : 0 ≤ dr) : begA dr r a + (1000000 - dr) ≤ begA dr (r + 1) a ∧ begA dr (r + 1) a ≤ begA dr r a + (1000000 + dr) := by
 unfold begA
 have e1 : (r + 1 - a.a) * (1000000 + dr) = (r - a.a) * (1000000 + dr) + (1000000 + dr) := by rw [show r + 1 - a.a = (r - a.a) + 1 by omega, Int.add_mul, Int.one_mul]
 have e2 : (r + 1 - a.a) * (1000000 - dr) = (r - a.a) * (1000000 - dr) + (1000000 - dr) := by rw [show r + 1 - a.a = (r - a.a) + 1 by omega, Int.add_mul, Int.one_mul]
 by_cases h1 : r + 1 < a.a
 · rw [if_pos h1, if_pos (by omega : r < a.a), e1]
   omega
 · rw [if_neg h1, e2]
   by_cases h2 : r < a.a
   · have e : r - a.a = -1 := by omega
     rw [if_pos h2, e]
     omega
   · rw [if_neg h2]
     omega
theorem begN_step1 (dr r : Int) (l : List An) (h0 : 0 ≤ dr) (hl : l ≠ []) : begN dr r l + (1000000 - dr) ≤ begN dr (r + 1) l ∧ begN dr (r + 1) l ≤ begN dr r l + (1000000 + dr) := by
 constructor
 · obtain ⟨a, ha, e⟩ := begN_mem dr r l hl
   have h1 := begN_ge dr (r + 1) l a ha
   have h2 := (begA_step dr r a h0).1
   omega
 · obtain ⟨a, ha, e⟩ := begN_mem dr (r + 1) l hl
   have h1 := begN_ge dr r l a ha
   have h2 := (begA_step dr r a h0).2
   omega
theorem begN_steps (dr r : Int) (l : List An) (h0 : 0 ≤ dr) (hl : l ≠ []) : ∀ k : Nat, begN dr r l + k * (1000000 - dr) ≤ begN dr (r + k) l ∧ begN dr (r + k) l ≤ begN dr r l + k * (1000000 + dr)
 | 0 => by simp
 | k + 1 => by
  obtain ⟨h1, h2⟩ := begN_steps dr r l h0 hl k
  obtain ⟨h3, h4⟩ := begN_step1 dr (r + k) l h0 hl
  have e : r + ((k + 1 : Nat) : Int) = r + k + 1 := by omega
  have e1 : ((k + 1 : Nat) : Int) * (1000000 - dr) = k * (1000000 - dr) + (1000000 - dr) := by
   rw [show ((k + 1 : Nat) : Int) = (k : Int) + 1 by omega, Int.add_mul, Int.one_mul]
  have e2 : ((k + 1 : Nat) : Int) * (1000000 + dr) = k * (1000000 + dr) + (1000000 + dr) := by
   rw [show ((k + 1 : Nat) : Int) = (k : Int) + 1 by omega, Int.add_mul, Int.one_mul]
  rw [e, e1, e2]
  omega
theorem begN_mono (dr r s : Int) (l : List An) (h0 : 0 ≤ dr) (h1 : dr ≤ 1000) (hl : l ≠ []) (h : r ≤ s) : begN dr r l ≤ begN dr s l := by
 obtain ⟨k, rfl⟩ : ∃ k : Nat, s = r + k := ⟨(s - r).toNat, by omega⟩
 have := (begN_steps dr r l h0 hl k).1
 have h2 : 0 ≤ (k : Int) * (1000000 - dr) := Int.mul_nonneg (by omega) (by omega)
 omega
def IsRead (c : Cl) (t r : Int) : Prop := begN c.dr r c.an ≤ t ∧ t < begN c.dr (r + 1) c.an
theorem isRead_one {c : Cl} {t r s : Int} (h0 : 0 ≤ c.dr) (h1 : c.dr ≤ 1000) (hl : c.an ≠ []) (hr : IsRead c t r) (hs : IsRead c t s) : r = s := by
 rcases Int.lt_trichotomy r s with h | h | h
 · have := begN_mono c.dr (r + 1) s c.an h0 h1 hl (by omega)
   have h2 := hr.2
   have h3 := hs.1
   omega
 · exact h
 · have := begN_mono c.dr (s + 1) r c.an h0 h1 hl (by omega)
   have h2 := hs.2
   have h3 := hr.1
   omega
theorem anB_of {a : An} (h : anB a = true) : (0 ≤ a.a ∧ a.a ≤ 1000001) ∧ -17592186044416 ≤ a.t ∧ a.t ≤ 17592186044416 := by
 unfold anB at h
 rw [Bool.and_eq_true] at h
 exact ⟨of_inB h.1, of_inB h.2⟩
theorem ckB_of {c : Cl} (h : ckB c = true) : (∀ a ∈ c.an, anB a = true) ∧ (0 ≤ c.dr ∧ c.dr ≤ 1000) ∧ c.an.length ≤ 24 ∧ c.an ≠ [] := by
 unfold ckB at h
 rw [Bool.and_eq_true, Bool.and_eq_true] at h
 obtain ⟨⟨h1, h2⟩, h3⟩ := h
 have h4 := of_inB h3
 refine ⟨List.all_eq_true.1 h1, of_inB h2, by omega, ?_⟩
 rintro h
 rw [h] at h4
 simp at h4
theorem begA_low {dr : Int} {a : An} (h0 : 0 ≤ dr) (h1 : dr ≤ 1000) (ha : anB a = true) : begA dr (-134217728) a ≤ -17592186044416 ∧ 17592186044416 < begA dr 134217728 a := by
 obtain ⟨⟨h2, h3⟩, h4, h5⟩ := anB_of ha
 unfold begA
 rw [if_pos (by omega), if_neg (by omega)]
 constructor
 · have : (134217728 + a.a) * (1000000 + dr) ≥ 134217728 * 1000000 := by
    refine Int.le_trans (Int.mul_le_mul_of_nonneg_left (show (1000000 : Int) ≤ 1000000 + dr by omega) (by decide)) (Int.mul_le_mul_of_nonneg_right (by omega) (by omega))
   have e : (-134217728 - a.a) * (1000000 + dr) = -((134217728 + a.a) * (1000000 + dr)) := by rw [← Int.neg_mul]; congr 1; omega
   rw [e]
   omega
 · have : (134217728 - a.a) * (1000000 - dr) ≥ 133217727 * 999000 := by
    refine Int.le_trans (Int.mul_le_mul_of_nonneg_left (show (999000 : Int) ≤ 1000000 - dr by omega) (by decide)) (Int.mul_le_mul_of_nonneg_right (by omega) (by omega))
   omega
theorem begN_low {c : Cl} (h : ckB c = true) : begN c.dr (-134217728) c.an ≤ -17592186044416 ∧ 17592186044416 < begN c.dr 134217728 c.an := by
 obtain ⟨h1, ⟨h2, h3⟩, _, h5⟩ := ckB_of h
 constructor
 · obtain ⟨a, ha, e⟩ := begN_mem c.dr (-134217728) c.an h5
   rw [e]
   exact (begA_low h2 h3 (h1 a ha)).1
 · obtain ⟨a, ha, e⟩ := begN_mem c.dr 134217728 c.an h5
   exact Int.lt_of_lt_of_le (begA_low h2 h3 (h1 a ha)).2 (begN_ge _ _ _ a ha)
theorem mul_bd {x y X Y : Int} (h1 : -X ≤ x) (h2 : x ≤ X) (h3 : -Y ≤ y) (h4 : y ≤ Y) (hX : 0 ≤ X) : -(X * Y) ≤ x * y ∧ x * y ≤ X * Y := by
 have hY : 0 ≤ Y := by omega
 rcases Int.le_total 0 x with hx | hx <;> rcases Int.le_total 0 y with hy | hy
 · have a1 := Int.mul_nonneg hx hy
   have a2 := Int.mul_le_mul h2 h4 hy hX
   have a3 := Int.mul_nonneg hX hY
   omega
 · have a1 := Int.mul_nonneg hx (show 0 ≤ -y by omega)
   have a2 := Int.mul_le_mul h2 (show -y ≤ Y by omega) (by omega) hX
   have a3 := Int.mul_nonneg hX hY
   rw [Int.mul_neg] at a1 a2
   omega
 · have a1 := Int.mul_nonneg (show 0 ≤ -x by omega) hy
   have a2 := Int.mul_le_mul (show -x ≤ X by omega) h4 hy hX
   have a3 := Int.mul_nonneg hX hY
   rw [Int.neg_mul] at a1 a2
   omega
 · have a1 := Int.mul_nonneg (show 0 ≤ -x by omega) (show 0 ≤ -y by omega)
   have a2 := Int.mul_le_mul (show -x ≤ X by omega) (show -y ≤ Y by omega) (by omega) hX
   have a3 := Int.mul_nonneg hX hY
   rw [Int.neg_mul_neg] at a1 a2
   omega
theorem begA_bd {dr r : Int} {a : An} (h0 : 0 ≤ dr) (h1 : dr ≤ 1000) (ha : anB a = true) (hr : -134217728 ≤ r) (hr2 : r ≤ 134217728) :
 (-135359951000000 ≤ (r - a.a) * (1000000 + dr) ∧ (r - a.a) * (1000000 + dr) ≤ 135359951000000) ∧ (-135359951000000 ≤ (r - a.a) * (1000000 - dr) ∧ (r - a.a) * (1000000 - dr) ≤ 135359951000000) := by
 obtain ⟨⟨h2, h3⟩, h4, h5⟩ := anB_of ha
 have b1 := mul_bd (x := r - a.a) (y := 1000000 + dr) (X := 135217729) (Y := 1001000) (by omega) (by omega) (by omega) (by omega) (by decide)
 have b2 := mul_bd (x := r - a.a) (y := 1000000 - dr) (X := 135217729) (Y := 1001000) (by omega) (by omega) (by omega) (by omega) (by decide)
 generalize (r - a.a) * (1000000 + dr) = p at *
 generalize (r - a.a) * (1000000 - dr) = q at *
 omega
end Go.Proofs.YtamefmojocegkaaDoor

namespace Go.Proofs.YtamefmojocegkaaDoor
open Go Go.Proofs Go.RowKit Go.Lib
theorem at_an8 (g o n c k : Nat) (hk : k < n) (w : World) : (Instr.indexAt 48 (.slice (some ⟨g, o, none⟩) n c) (.int .i64 (k : Int))).run Tryd.prog w = .ok (.pointer (some ⟨g, o + 2 * k, none⟩)) w := KA.at_ g o n c k hk w
theorem RL.an {W : World} {ad : Option Addr} {l : List An} (h : RL KA W ad l) (k : Nat) (hk : k < l.length) : ∃ b o, ad = some ⟨b, o, none⟩ ∧ b < W.heap.size ∧ ∀ W', Below W.heap.size W W' → W'.cell? ⟨b, o + 2 * k, none⟩ = some (.int .i64 l[k].a) ∧ W'.cell? ⟨b, o + 2 * k + 1, none⟩ = some (.int .i64 l[k].t) := by
 obtain ⟨b, o, h1, h2, h3⟩ := h.at_ k hk
 refine ⟨b, o, h1, h2, fun W' hb => ?_⟩
 have := h3 W' hb
 exact ⟨this 0 (by decide), this 1 (by decide)⟩
theorem cell_alloc_old8 (W : World) (o : Obj) (b i : Nat) (h : b < W.heap.size) : (W.alloc o).cell? ⟨b, i, none⟩ = W.cell? ⟨b, i, none⟩ := World.cell?_of_block (a := ⟨b, i, none⟩) (Below.heap_alloc W o b h)
theorem beginsR_any (v : Value) (c : Cl) (r : Int) (w : World) (hc : CkAt w v c) (hv : ckB c = true) (hr : -134217728 ≤ r) (hr2 : r ≤ 134217728) :
 Calls Tryd.prog 56 #[v, .int .i64 r] w fun e w' => e = .returned (.int .i64 (begN c.dr r c.an)) ∧ Below w.heap.size w w' := by
 obtain ⟨ad, cp, rfl, hI⟩ := hc
 obtain ⟨hall, ⟨hd0, hd1⟩, hlen, hne⟩ := ckB_of hv
 obtain ⟨dr, l⟩ := c
 dsimp only at *
 clear hv
 have HST := Lib.hid (fun k hk => begN_step dr r l k hk)
 have HAL := Lib.hid hall
 have HC := Lib.hid (fun k hk => hI.an k hk)
 clear hall hI hne
 go_enter Tryd.func56, Tryd.ntmps56
 go_wp2_with fail
 go_loopw [5, 6] (fun o i wr => ∃ k : Nat, k ≤ l.length ∧ i = .int .i64 k ∧ o = .int .i64 (begN dr r (l.take k)) ∧ Hid (Below w.heap.size w wr) ∧ Hid (wr.cell? ⟨w.heap.size, 0, none⟩ = some (.int .i64 dr) ∧ wr.cell? ⟨w.heap.size, 1, none⟩ = some (.slice ad l.length cp) ∧ w.heap.size < wr.heap.size)) (fun _ i _ => l.length - (RowKit.intOf i).toNat)
 case atStart => exact ⟨0, Nat.zero_le _, rfl, rfl, Lib.hid ((Below.refl _ _).alloc (Nat.le_refl _) _), Lib.hid ⟨by rw [cell_of_row _ w.heap.size 0 _ _ _ (heap_alloc_new w _)]; rfl, by rw [cell_of_row _ w.heap.size 1 _ _ _ (heap_alloc_new w _)]; rfl, by simp⟩⟩
 case round =>
  obtain ⟨k, hk, rfl, rfl, HB, HK⟩ := hrel
  by_cases hlt : k < l.length
  · have hki : (k : Int) < (l.length : Int) := by omega
    obtain ⟨b, o, rfl, _, e2⟩ := HC.out k hlt
    have hik := fun W => at_an8 b o l.length cp k hlt W
    obtain ⟨c0, c1⟩ := e2 wr HB.out
    obtain ⟨k0, k1, k2⟩ := HK.out
    have HA := HAL.out l[k] (List.getElem_mem hlt)
    have HS := HST.out k hlt
    have HLT := Lib.hid hlt
    generalize l[k] = x at *
    generalize begN dr r (l.take k) = bo at *
    have HSH := Lib.hid HS
    clear HS
    obtain ⟨⟨m1, m2⟩, m3, m4⟩ := begA_bd (r := r) hd0 hd1 HA hr hr2
    obtain ⟨⟨a1, a2⟩, a3, a4⟩ := anB_of HA
    have HN := Lib.hid (show begN dr r (l.take (k + 1)) = bo ∨ begN dr r (l.take (k + 1)) = begA dr r x by have := HSH.out; split at this <;> simp [this])
    clear e2 hlt HA
    by_cases hra : r < x.a
    · skip
      have HBA := Lib.hid (show begA dr r x = x.t + (r - x.a) * (1000000 + dr) by unfold begA; rw [if_pos hra])
      rcases Nat.eq_zero_or_pos k with hk0 | hk0
      · subst hk0
        have HF := Lib.hid (show begN dr r (l.take (0 + 1)) = x.t + (r - x.a) * (1000000 + dr) by have := HSH.out; rw [if_pos (.inl rfl)] at this; rw [this, HBA.out])
        simp only [Nat.mul_zero, Nat.add_zero] at c0 c1 hik
        go_wp2_with fail
        go_roundw
        case rel => exact ⟨0 + 1, HLT.out, by go_num, by rw [HF.out], Lib.hid (HB.out.alloc HB.out.size _), Lib.hid ⟨(cell_alloc_old8 wr _ _ _ k2).trans k0, (cell_alloc_old8 wr _ _ _ k2).trans k1, by simp; omega⟩⟩
        case measure => have h9 := HLT.out; simp [RowKit.intOf]; omega
      · have kz : ((k : Int) == 0) = false := by rw [beq_eq_false_iff_ne]; omega
        by_cases hlt : bo < x.t + (r - x.a) * (1000000 + dr)
        · have HF := Lib.hid (show begN dr r (l.take (k + 1)) = x.t + (r - x.a) * (1000000 + dr) by have := HSH.out; rw [HBA.out, if_pos (.inr hlt)] at this; exact this)
          go_wp2_with fail
          go_roundw
          case rel => exact ⟨k + 1, HLT.out, by go_num, by rw [HF.out], Lib.hid (HB.out.alloc HB.out.size _), Lib.hid ⟨(cell_alloc_old8 wr _ _ _ k2).trans k0, (cell_alloc_old8 wr _ _ _ k2).trans k1, by simp; omega⟩⟩
          case measure => have h9 := HLT.out; simp [RowKit.intOf]; omega
        · have HF := Lib.hid (show begN dr r (l.take (k + 1)) = bo by have := HSH.out; rw [HBA.out, if_neg (by omega)] at this; exact this)
          go_wp2_with fail
          go_roundw
          case rel => exact ⟨k + 1, HLT.out, by go_num, by rw [HF.out], Lib.hid (HB.out.alloc HB.out.size _), Lib.hid ⟨(cell_alloc_old8 wr _ _ _ k2).trans k0, (cell_alloc_old8 wr _ _ _ k2).trans k1, by simp; omega⟩⟩
          case measure => have h9 := HLT.out; simp [RowKit.intOf]; omega
    · skip
      have HBA := Lib.hid (show begA dr r x = x.t + (r - x.a) * (1000000 - dr) by unfold begA; rw [if_neg hra])
      rcases Nat.eq_zero_or_pos k with hk0 | hk0
      · subst hk0
        have HF := Lib.hid (show begN dr r (l.take (0 + 1)) = x.t + (r - x.a) * (1000000 - dr) by have := HSH.out; rw [if_pos (.inl rfl)] at this; rw [this, HBA.out])
        simp only [Nat.mul_zero, Nat.add_zero] at c0 c1 hik
        go_wp2_with fail
        go_roundw
        case rel => exact ⟨0 + 1, HLT.out, by go_num, by rw [HF.out], Lib.hid (HB.out.alloc HB.out.size _), Lib.hid ⟨(cell_alloc_old8 wr _ _ _ k2).trans k0, (cell_alloc_old8 wr _ _ _ k2).trans k1, by simp; omega⟩⟩
        case measure => have h9 := HLT.out; simp [RowKit.intOf]; omega
      · have kz : ((k : Int) == 0) = false := by rw [beq_eq_false_iff_ne]; omega
        by_cases hlt : bo < x.t + (r - x.a) * (1000000 - dr)
        · have HF := Lib.hid (show begN dr r (l.take (k + 1)) = x.t + (r - x.a) * (1000000 - dr) by have := HSH.out; rw [HBA.out, if_pos (.inr hlt)] at this; exact this)
          go_wp2_with fail
          go_roundw
          case rel => exact ⟨k + 1, HLT.out, by go_num, by rw [HF.out], Lib.hid (HB.out.alloc HB.out.size _), Lib.hid ⟨(cell_alloc_old8 wr _ _ _ k2).trans k0, (cell_alloc_old8 wr _ _ _ k2).trans k1, by simp; omega⟩⟩
          case measure => have h9 := HLT.out; simp [RowKit.intOf]; omega
        · have HF := Lib.hid (show begN dr r (l.take (k + 1)) = bo by have := HSH.out; rw [HBA.out, if_neg (by omega)] at this; exact this)
          go_wp2_with fail
          go_roundw
          case rel => exact ⟨k + 1, HLT.out, by go_num, by rw [HF.out], Lib.hid (HB.out.alloc HB.out.size _), Lib.hid ⟨(cell_alloc_old8 wr _ _ _ k2).trans k0, (cell_alloc_old8 wr _ _ _ k2).trans k1, by simp; omega⟩⟩
          case measure => have h9 := HLT.out; simp [RowKit.intOf]; omega
  · obtain rfl : k = l.length := by omega
    have HF := Lib.hid (show begN dr r (l.take l.length) = begN dr r l by rw [List.take_length])
    have hki : ¬ (l.length : Int) < (l.length : Int) := by omega
    obtain ⟨k0, k1, k2⟩ := HK.out
    go_wp2
    go_ret
    exact ⟨rfl, HB.out⟩
theorem validClockR_any (v : Value) (c : Cl) (w : World) (hc : CkAt w v c) (hl : c.an.length ≤ maxLen) :
 Calls Tryd.prog 30 #[v] w fun e w' => e = .returned (.bool (ckB c)) ∧ Below w.heap.size w w' := by
 obtain ⟨ad, cp, rfl, hI⟩ := hc
 obtain ⟨dr, l⟩ := c
 unfold maxLen at hl
 dsimp only at *
 obtain ⟨B, hB⟩ : ∃ B, ckB ⟨dr, l⟩ = B := ⟨_, rfl⟩
 rw [hB]
 have HNO := Lib.hid (fun (a : An) (h : a ∈ l) (h2 : anB a = false) => show B = false by
  rw [← hB]; unfold ckB
  have : l.all anB = false := List.all_eq_false.2 ⟨a, h, by simp [h2]⟩
  rw [this]; rfl)
 have HYES := Lib.hid (fun (h : ∀ a ∈ l, anB a = true) => show B = (inB dr 0 1000 && inB (l.length : Int) 1 24) by
  rw [← hB]; unfold ckB
  have : l.all anB = true := List.all_eq_true.2 h
  rw [this]; rfl)
 have HC := Lib.hid (fun k hk => hI.an k hk)
 clear hB hI
 go_enter Tryd.func30, Tryd.ntmps30
 go_wp2_with fail
 go_loop [3] (fun i => ∃ k : Nat, k ≤ l.length ∧ i = .int .i64 k ∧ Hid (∀ j (hj : j < l.length), j < k → anB l[j] = true)) (fun i => l.length - (RowKit.intOf i).toNat)
 case atStart => exact ⟨0, Nat.zero_le _, rfl, Lib.hid (fun j _ h => absurd h (Nat.not_lt_zero _))⟩
 case round =>
  obtain ⟨k, hk, rfl, HK⟩ := hrel
  by_cases hlt : k < l.length
  · have hki : (k : Int) < (l.length : Int) := by omega
    obtain ⟨b, o, rfl, _, e2⟩ := HC.out k hlt
    have hik := fun W => at_an8 b o l.length cp k hlt W
    obtain ⟨c0, c1⟩ := e2 _ ((Below.refl _ w).alloc (Nat.le_refl _) (.cells #[.int .i64 dr, .slice (some ⟨b, o, none⟩) l.length cp] 50))
    have HLT := Lib.hid hlt
    have HX := Lib.hid (fun h : anB l[k] = false => HNO.out l[k] (List.getElem_mem hlt) h)
    have HY := Lib.hid (show anB l[k] = true → ∀ j (hj : j < l.length), j < k + 1 → anB l[j] = true from fun h j hj hjk => by
     rcases Nat.lt_or_ge j k with h9 | h9
     · exact HK.out j hj h9
     · have : j = k := by omega
       subst this
       exact h)
    generalize l[k] = x at *
    clear e2 hlt
    cases h1 : inB x.a 0 1000001 with
    | false =>
     have HZ := Lib.hid (HX.out (by unfold anB; rw [h1]; rfl))
     go_wp2_with (go_at_call 42; ((with_reducible refine (in_any _ _ _ _).mono ?_); rintro e w' ⟨rfl, rfl⟩))
     go_ret
     exact ⟨by rw [HZ.out]; rfl, (Below.refl _ _).alloc (Nat.le_refl _) _⟩
    | true =>
     cases h2 : inB x.t (-17592186044416) 17592186044416 with
     | false =>
      have HZ := Lib.hid (HX.out (by unfold anB; rw [h1, h2]; rfl))
      go_wp2_with (go_at_call 42; ((with_reducible refine (in_any _ _ _ _).mono ?_); rintro e w' ⟨rfl, rfl⟩))
      go_ret
      exact ⟨by rw [HZ.out]; rfl, (Below.refl _ _).alloc (Nat.le_refl _) _⟩
     | true =>
      have HZ := Lib.hid (HY.out (by unfold anB; rw [h1, h2]; rfl))
      go_wp2_with (go_at_call 42; ((with_reducible refine (in_any _ _ _ _).mono ?_); rintro e w' ⟨rfl, rfl⟩))
      go_round
      case rel => exact ⟨k + 1, HLT.out, by go_num, HZ⟩
      case measure => have h9 := HLT.out; simp [RowKit.intOf]; omega
  · obtain rfl : k = l.length := by omega
    have HF := Lib.hid (HYES.out (fun x hx => by obtain ⟨i, h1, rfl⟩ := List.getElem_of_mem hx; exact HK.out i h1 h1))
    have hki : ¬ (l.length : Int) < (l.length : Int) := by omega
    cases h1 : inB dr 0 1000 with
    | false =>
     go_wp2_with (go_at_call 42; ((with_reducible refine (in_any _ _ _ _).mono ?_); rintro e w' ⟨rfl, rfl⟩))
     go_ret
     exact ⟨by rw [HF.out, h1]; rfl, (Below.refl _ _).alloc (Nat.le_refl _) _⟩
    | true =>
     cases h2 : inB (l.length : Int) 1 24 with
     | false =>
      go_wp2_with (go_at_call 42; ((with_reducible refine (in_any _ _ _ _).mono ?_); rintro e w' ⟨rfl, rfl⟩))
      go_ret
      exact ⟨by rw [HF.out, h1, h2]; rfl, (Below.refl _ _).alloc (Nat.le_refl _) _⟩
     | true =>
      go_wp2_with (go_at_call 42; ((with_reducible refine (in_any _ _ _ _).mono ?_); rintro e w' ⟨rfl, rfl⟩))
      go_ret
      exact ⟨by rw [HF.out, h1, h2]; rfl, (Below.refl _ _).alloc (Nat.le_refl _) _⟩
end Go.Proofs.YtamefmojocegkaaDoor

namespace Go.Proofs.YtamefmojocegkaaDoor
open Go Go.Proofs Go.RowKit Go.Lib
def readB (c : Cl) (t : Int) : Bool := ckB c && inB t (-17592186044416) 17592186044416
open Classical in
noncomputable def readV (c : Cl) (t : Int) : Int := if readB c t = true then (if h : ∃ r, IsRead c t r then Classical.choose h else 0) else 0
def readE (c : Cl) (t : Int) : Int := if readB c t = true then 0 else 80
theorem readV_of {c : Cl} {t r : Int} (hb : readB c t = true) (h : IsRead c t r) : readV c t = r := by
 have hv := hb
 unfold readB at hv
 rw [Bool.and_eq_true] at hv
 obtain ⟨_, ⟨h0, h1⟩, _, hne⟩ := ckB_of hv.1
 unfold readV
 rw [if_pos hb, dif_pos ⟨r, h⟩]
 exact isRead_one h0 h1 hne (Classical.choose_spec (⟨r, h⟩ : ∃ r, IsRead c t r)) h
theorem half8 {lo hi : Int} (h : lo + 2 ≤ hi) : lo < (lo + hi).tdiv 2 ∧ (lo + hi).tdiv 2 < hi := by
 rcases Int.lt_or_le (lo + hi) 0 with h3 | h3
 · have e : (lo + hi).tdiv 2 = -((-(lo + hi)).tdiv 2) := by rw [Int.neg_tdiv, Int.neg_neg]
   rw [e, Int.tdiv_eq_ediv_of_nonneg (by omega)]
   omega
 · rw [Int.tdiv_eq_ediv_of_nonneg h3]
   omega
theorem readingR_any (v : Value) (c : Cl) (t : Int) (w : World) (hc : CkAt w v c) (hl : c.an.length ≤ maxLen) :
 Calls Tryd.prog 28 #[v, .int .i64 t] w fun e w' => e = .returned (.tuple #[.int .i64 (readV c t), .int .i64 (readE c t)]) ∧ Below w.heap.size w w' := by
 have HCK := Lib.hid (fun W (b : Below w.heap.size w W) => hc.below b)
 obtain ⟨ad, cp, rfl, hI⟩ := hc
 have HML := Lib.hid hl
 have CV := Lib.hid (fun W (h : CkAt W (.agg #[.int .i64 c.dr, .slice ad c.an.length cp]) c) => validClockR_any _ c W h HML.out)
 obtain ⟨RV, hRV⟩ : ∃ RV, readV c t = RV := ⟨_, rfl⟩
 obtain ⟨RE, hRE⟩ : ∃ RE, readE c t = RE := ⟨_, rfl⟩
 rw [hRV, hRE]
 have HNO := Lib.hid (fun h : readB c t = false => show RV = 0 ∧ RE = 80 by rw [← hRV, ← hRE]; unfold readV readE; simp [h])
 have HYES := Lib.hid (fun (h : readB c t = true) (r : Int) (h2 : IsRead c t r) => show RV = r ∧ RE = 0 by rw [← hRV, ← hRE]; exact ⟨readV_of h h2, by unfold readE; rw [if_pos h]⟩)
 have HX := Lib.hid (fun o => (Below.refl w.heap.size w).alloc (Nat.le_refl _) o)
 clear hl hI hRV hRE
 go_enter Tryd.func28, Tryd.ntmps28
 go_wp2_with fail
 refine (CV.out _ (HCK.out _ (HX.out _))).mono ?_
 rintro e w1 ⟨rfl, hb⟩
 have HB := Lib.hid ((HX.out _).trans (hb.mono (by simp)))
 obtain ⟨k0, k1⟩ : w1.cell? ⟨w.heap.size, 0, none⟩ = some (.int .i64 c.dr) ∧ w1.cell? ⟨w.heap.size, 1, none⟩ = some (.slice ad c.an.length cp) := by
  refine ⟨(hb.cell (p := ⟨w.heap.size, 0, none⟩) (by simp)).trans ?_, (hb.cell (p := ⟨w.heap.size, 1, none⟩) (by simp)).trans ?_⟩
  · rw [cell_of_row _ w.heap.size 0 _ _ _ (heap_alloc_new w _)]; rfl
  · rw [cell_of_row _ w.heap.size 1 _ _ _ (heap_alloc_new w _)]; rfl
 have hz : w.heap.size < w1.heap.size := by have := hb.size; simp at this; omega
 clear hb
 cases hv : ckB c with
 | false =>
  have HF := Lib.hid (HNO.out (by unfold readB; rw [hv]; rfl))
  go_wp2_with fail
  go_ret2
  exact ⟨by rw [HF.out.1, HF.out.2]; rfl, HB.out⟩
 | true =>
  have HV := Lib.hid hv
  clear hv
  cases ht : inB t (-17592186044416) 17592186044416 with
  | false =>
   have HF := Lib.hid (HNO.out (by unfold readB; rw [HV.out, ht]; rfl))
   go_wp2_with (go_at_call 42; ((with_reducible refine (in_any _ _ _ _).mono ?_); rintro e w' ⟨rfl, rfl⟩))
   go_ret2
   exact ⟨by rw [HF.out.1, HF.out.2]; rfl, HB.out⟩
  | true =>
   have HF := Lib.hid (HYES.out (by unfold readB; rw [HV.out, ht]; rfl))
   obtain ⟨t1, t2⟩ := of_inB ht
   obtain ⟨l1, l2⟩ := begN_low HV.out
   go_wp2_with (go_at_call 42; ((with_reducible refine (in_any _ _ _ _).mono ?_); rintro e w' ⟨rfl, rfl⟩))
   go_loopw [6, 7] (fun lo hi wr => ∃ x y : Int, lo = .int .i64 x ∧ hi = .int .i64 y ∧ x < y ∧ -134217728 ≤ x ∧ y ≤ 134217728 ∧ Hid (begN c.dr x c.an ≤ t ∧ t < begN c.dr y c.an) ∧ Hid (Below w.heap.size w wr) ∧ Hid (wr.cell? ⟨w.heap.size, 0, none⟩ = some (.int .i64 c.dr) ∧ wr.cell? ⟨w.heap.size, 1, none⟩ = some (.slice ad c.an.length cp) ∧ w.heap.size < wr.heap.size)) (fun lo hi _ => (RowKit.intOf hi - RowKit.intOf lo).toNat)
   case atStart => exact ⟨_, _, rfl, rfl, by decide, by decide, by decide, Lib.hid ⟨by omega, by omega⟩, HB, Lib.hid ⟨k0, k1, hz⟩⟩
   case round =>
    obtain ⟨x, y, rfl, rfl, hxy, hx, hy, HXY, HB2, HK⟩ := hrel
    obtain ⟨j0, j1, j2⟩ := HK.out
    clear k0 k1
    by_cases hlt : x + 2 ≤ y
    · have hki : decide (1 < y - x) = true := decide_eq_true (by omega)
      obtain ⟨m1, m2⟩ := half8 hlt
      go_wp2_with fail
      generalize (x + y).tdiv 2 = m at *
      refine (beginsR_any _ c m _ (HCK.out _ HB2.out) HV.out (by omega) (by omega)).mono ?_
      rintro e w2 ⟨rfl, hb⟩
      have HB3 := Lib.hid (below_up8 HB2.out hb)
      have HK3 := Lib.hid (show w2.cell? ⟨w.heap.size, 0, none⟩ = some (.int .i64 c.dr) ∧ w2.cell? ⟨w.heap.size, 1, none⟩ = some (.slice ad c.an.length cp) ∧ w.heap.size < w2.heap.size from
       ⟨(hb.cell (p := ⟨w.heap.size, 0, none⟩) j2).trans j0, (hb.cell (p := ⟨w.heap.size, 1, none⟩) j2).trans j1, by have := hb.size; omega⟩)
      clear hb j0 j1
      by_cases hle : begN c.dr m c.an ≤ t
      · have HM := Lib.hid hle
        go_wp2_with fail
        go_roundw
        case rel => exact ⟨m, y, rfl, rfl, m2, by omega, hy, Lib.hid ⟨HM.out, HXY.out.2⟩, HB3, HK3⟩
        case measure => simp [RowKit.intOf]; omega
      · have HM := Lib.hid hle
        go_wp2_with fail
        go_roundw
        case rel => exact ⟨x, m, rfl, rfl, m1, hx, by omega, Lib.hid ⟨HXY.out.1, by have := HM.out; omega⟩, HB3, HK3⟩
        case measure => simp [RowKit.intOf]; omega
    · obtain rfl : y = x + 1 := by omega
      have HR := Lib.hid (HF.out x HXY.out)
      have hki : decide (1 < x + 1 - x) = false := decide_eq_false (by omega)
      go_wp2_with fail
      go_ret2
      exact ⟨by rw [HR.out.1, HR.out.2]; rfl, HB2.out⟩
end Go.Proofs.YtamefmojocegkaaDoor

namespace Go.Proofs.YtamefmojocegkaaDoor
open Go Go.Proofs Go.RowKit Go.Lib
theorem isIn_u (n lo hi : Int) (w : World) :
 Calls Tryd.prog 40 #[.int .i64 n, .int .i64 lo, .int .i64 hi] w fun e w' => e = .returned (.bool (inB n lo hi)) ∧ w' = w := by
 obtain ⟨B, hB⟩ : ∃ B, inB n lo hi = B := ⟨_, rfl⟩
 rw [hB]
 have HB := Lib.hid hB
 clear hB
 by_cases h1 : lo ≤ n
 · by_cases h2 : n ≤ hi
   · have HF := Lib.hid (show B = true by rw [← HB.out]; exact decide_eq_true ⟨h1, h2⟩)
     go_enter Tryd.func40, Tryd.ntmps40
     go_wp2
     go_ret
     exact ⟨by rw [HF.out]; rfl, rfl⟩
   · have HF := Lib.hid (show B = false by rw [← HB.out]; exact decide_eq_false (by omega))
     go_enter Tryd.func40, Tryd.ntmps40
     go_wp2
     go_ret
     exact ⟨by rw [HF.out]; rfl, rfl⟩
 · have h3 : decide (lo ≤ n) = false := decide_eq_false h1
   have HF := Lib.hid (show B = false by rw [← HB.out]; exact decide_eq_false (by omega))
   go_enter Tryd.func40, Tryd.ntmps40
   go_wp2
   go_ret
   exact ⟨by rw [HF.out]; rfl, rfl⟩
def tmB (t : Int) : Bool := inB t (-17592186044416) 17592186044416
theorem isTime_u (t : Int) (w : World) : Calls Tryd.prog 54 #[.int .i64 t] w fun e w' => e = .returned (.bool (tmB t)) ∧ w' = w := by
 have HC := Lib.hid (fun W => isIn_u t (-17592186044416) 17592186044416 W)
 go_enter Tryd.func54, Tryd.ntmps54
 go_wp2_with fail
 refine (HC.out _).mono ?_
 rintro e z ⟨rfl, rfl⟩
 go_wp2_with fail
 go_ret
 exact ⟨rfl, rfl⟩
theorem validClock1_u (x : An) (w : World) : Calls Tryd.prog 58 #[.agg #[.int .i64 x.a, .int .i64 x.t]] w fun e w' => e = .returned (.bool (!anB x)) ∧ Below w.heap.size w w' := by
 have HC := Lib.hid (fun W => isIn_u x.a 0 1000001 W); have HD := Lib.hid (fun W => isTime_u x.t W)
 have HB := Lib.hid (fun o => (Below.refl w.heap.size w).alloc (Nat.le_refl _) o)
 have HV := Lib.hid (show anB x = (inB x.a 0 1000001 && tmB x.t) from rfl)
 obtain ⟨R, hR⟩ : ∃ R, (!anB x) = R := ⟨_, rfl⟩
 rw [hR]
 have HR := Lib.hid (show R = !(inB x.a 0 1000001 && tmB x.t) by rw [← hR, HV.out])
 generalize inB x.a 0 1000001 = b1 at *
 generalize tmB x.t = b2 at *
 clear hR
 go_enter Tryd.func58, Tryd.ntmps58
 cases b1 with
 | false =>
  go_wp2_with (first | (go_at_call 40; refine (HC.out _).mono ?_; rintro e z ⟨rfl, rfl⟩))
  go_ret
  exact ⟨by rw [HR.out]; rfl, HB.out _⟩
 | true =>
  go_wp2_with (first | (go_at_call 40; refine (HC.out _).mono ?_; rintro e z ⟨rfl, rfl⟩) | (go_at_call 54; refine (HD.out _).mono ?_; rintro e z ⟨rfl, rfl⟩))
  go_ret
  exact ⟨by rw [HR.out]; cases b2 <;> rfl, HB.out _⟩
def idxN {T : Type} (p : T → Bool) : List T → Nat → Int
 | [], _ => -1
 | x :: l, k => if p x then (k : Int) else idxN p l (k + 1)
theorem idxN_step {T : Type} (p : T → Bool) {l : List T} {k : Nat} (h : k < l.length) : idxN p (l.drop k) k = if p l[k] then (k : Int) else idxN p (l.drop (k + 1)) (k + 1) := by
 rw [List.drop_eq_getElem_cons h]
 rfl
theorem idxN_any {T : Type} (p : T → Bool) : ∀ (l : List T) (k : Nat), decide (0 ≤ idxN p l k) = l.any p
 | [], k => by simp [idxN]
 | x :: l, k => by
  unfold idxN
  cases h : p x with
  | true => rw [if_pos rfl, List.any_cons, h, Bool.true_or]; exact decide_eq_true (Int.natCast_nonneg _)
  | false => rw [if_neg (by decide), idxN_any p l (k + 1), List.any_cons, h, Bool.false_or]
theorem indexAn_u (ad : Option Addr) (c : Nat) (l : List An) (hl : l.length ≤ maxLen) (w : World) (hI : RL KA w ad l) :
 Calls Tryd.prog 77 #[.slice ad l.length c, .func (.func 58) #[] #[]] w fun e w' => e = .returned (.int .i64 (idxN (fun x => !anB x) l 0)) ∧ Below w.heap.size w w' := by
 unfold maxLen at hl
 have HC := Lib.hid (fun k hk => hI.an k hk)
 have HST := Lib.hid (fun k h => idxN_step (fun x => !anB x) (l := l) (k := k) h)
 have HN := Lib.hid (show idxN (fun x => !anB x) (l.drop l.length) l.length = -1 by rw [List.drop_length]; rfl)
 have H0 := Lib.hid (show idxN (fun x => !anB x) l 0 = idxN (fun x => !anB x) (l.drop 0) 0 from rfl)
 have HF := Lib.hid (fun x W => validClock1_u x W)
 generalize idxN (fun x => !anB x) l 0 = O at *
 clear hI
 go_enter Tryd.func77, Tryd.ntmps77
 go_wp2_with fail
 go_loopw [8] (fun i wr => ∃ k : Nat, k ≤ l.length ∧ i = .int .i64 k ∧ Hid (O = idxN (fun x => !anB x) (l.drop k) k) ∧ Hid (Below w.heap.size w wr)) (fun i _ => l.length - (RowKit.intOf i).toNat)
 case atStart => exact ⟨0, Nat.zero_le _, rfl, H0, Lib.hid (Below.refl _ _)⟩
 case round =>
  obtain ⟨k, hk, rfl, HK, HB⟩ := hrel
  by_cases hlt : k < l.length
  · have hki : (k : Int) < (l.length : Int) := by omega
    obtain ⟨b, o, rfl, _, e2⟩ := HC.out k hlt
    have hik := fun W => at_an8 b o l.length c k hlt W
    obtain ⟨c0, c1⟩ := e2 wr HB.out
    have hst := HST.out k hlt
    have HLT := Lib.hid hlt
    generalize l[k]'hlt = x at *
    have CB := Lib.hid (fun W => HF.out x W)
    cases hb : (!anB x) with
    | true =>
     have HO := Lib.hid (show O = (k : Int) by rw [HK.out, hst, hb]; rfl)
     rw [hb] at CB
     clear hst hb e2 hlt
     go_wp2_with fail
     refine (CB.out _).mono ?_
     rintro e z ⟨rfl, hz⟩
     have HZ := Lib.hid (below_up8 HB.out hz)
     clear hz c0 c1
     go_wp2_with fail
     go_ret
     exact ⟨by rw [HO.out]; rfl, HZ.out⟩
    | false =>
     have HO := Lib.hid (show O = idxN (fun x => !anB x) (l.drop (k + 1)) (k + 1) by rw [HK.out, hst, hb]; rfl)
     rw [hb] at CB
     clear hst hb e2 hlt
     go_wp2_with fail
     refine (CB.out _).mono ?_
     rintro e z ⟨rfl, hz⟩
     have HZ := Lib.hid (below_up8 HB.out hz)
     clear hz c0 c1
     go_wp2_with fail
     go_roundw
     case rel => exact ⟨k + 1, HLT.out, by go_num, HO, HZ⟩
     case measure => have := HLT.out; simp [RowKit.intOf]; omega
  · have hke : k = l.length := by omega
    have HO := Lib.hid (show O = -1 by rw [HK.out, hke, HN.out])
    have hki : ¬ (k : Int) < (l.length : Int) := by omega
    clear hke hlt
    go_wp2_with fail
    go_ret
    exact ⟨by rw [HO.out]; rfl, HB.out⟩
theorem containsAn_u (ad : Option Addr) (c : Nat) (l : List An) (hl : l.length ≤ maxLen) (w : World) (hI : RL KA w ad l) :
 Calls Tryd.prog 57 #[.slice ad l.length c, .func (.func 58) #[] #[]] w fun e w' => e = .returned (.bool (l.any fun x => !anB x)) ∧ Below w.heap.size w w' := by
 have HC := Lib.hid (indexAn_u ad c l hl w hI)
 have HA := Lib.hid (idxN_any (fun x => !anB x) l 0)
 generalize idxN (fun x => !anB x) l 0 = O at *
 generalize (l.any fun x => !anB x) = R at *
 clear hI hl
 go_enter Tryd.func57, Tryd.ntmps57
 go_wp2_with fail
 refine (HC.out).mono ?_
 rintro e z ⟨rfl, hz⟩
 have HZ := Lib.hid hz
 clear hz
 go_wp2_with fail
 go_ret
 exact ⟨by rw [← HA.out]; rfl, HZ.out⟩
theorem validClock_u (v : Value) (x : Cl) (w : World) (hc : CkAt w v x) (hl : x.an.length ≤ maxLen) :
 Calls Tryd.prog 29 #[v] w fun e w' => e = .returned (.bool (ckB x)) ∧ Below w.heap.size w w' := by
 obtain ⟨ad, cp, rfl, hI⟩ := hc
 obtain ⟨R, hR⟩ : ∃ R, ckB x = R := ⟨_, rfl⟩
 rw [hR]
 have HV := Lib.hid (show R = ((!(x.an.any fun a => !anB a)) && inB x.dr 0 1000 && inB x.an.length 1 24) by
  rw [← hR]
  unfold ckB
  congr 2
  rw [List.not_any_eq_all_not]
  congr 1
  funext a
  simp)
 have HD := Lib.hid (fun W => isIn_u x.dr 0 1000 W); have HE := Lib.hid (fun W => isIn_u (x.an.length : Nat) 1 24 W)
 have HK := Lib.hid (fun W (b : Below w.heap.size w W) => containsAn_u ad cp x.an hl W (hI.below b))
 have HB := Lib.hid (fun o => (Below.refl w.heap.size w).alloc (Nat.le_refl _) o)
 generalize (x.an.any fun a => !anB a) = b3 at *
 generalize inB x.dr 0 1000 = b1 at *
 generalize inB (x.an.length : Nat) 1 24 = b2 at *
 clear hI hR hl
 go_enter Tryd.func29, Tryd.ntmps29
 cases b1 with
 | false =>
  go_wp2_with (first | (go_at_call 40; (first | (with_reducible refine (HD.out _).mono ?_) | (with_reducible refine (HE.out _).mono ?_)); rintro e z ⟨rfl, rfl⟩))
  go_ret
  exact ⟨by rw [HV.out]; simp, HB.out _⟩
 | true =>
  cases b2 with
  | false =>
   go_wp2_with (first | (go_at_call 40; (first | (with_reducible refine (HD.out _).mono ?_) | (with_reducible refine (HE.out _).mono ?_)); rintro e z ⟨rfl, rfl⟩))
   go_ret
   exact ⟨by rw [HV.out]; simp, HB.out _⟩
  | true =>
   go_wp2_with (first | (go_at_call 40; (first | (with_reducible refine (HD.out _).mono ?_) | (with_reducible refine (HE.out _).mono ?_)); rintro e z ⟨rfl, rfl⟩) | (go_at_call 57; refine (HK.out _ (HB.out _)).mono ?_; rintro e z ⟨rfl, hz⟩; have HZ := Lib.hid ((HB.out _).trans (hz.mono (by simp))); clear hz))
   go_ret
   exact ⟨by rw [HV.out]; cases b3 <;> rfl, HZ.out⟩
end Go.Proofs.YtamefmojocegkaaDoor

namespace Go.Proofs.YtamefmojocegkaaDoor
open Go Go.Proofs Go.RowKit Go.Lib
def lkT (i : Nat) : Int := [2, 0, 0, 3, 99, 0, 4, 99, 0, 5, 99, 99, 6, 99, 99, 7, 9, 0].getD i 0
def HasLk (W : World) : Prop := ∀ i, i < 18 → W.cell? ⟨0, i, none⟩ = some (.int .i64 (lkT i))
structure Rdy (W : World) : Prop where
 tab : HasLk W
 lt : 0 < W.heap.size
theorem Rdy.below {W W' : World} (h : Rdy W) (b : Below W.heap.size W W') : Rdy W' :=
 ⟨fun i hi => (b.cell (p := ⟨0, i, none⟩) h.lt).trans (h.tab i hi), Nat.lt_of_lt_of_le h.lt b.size⟩
theorem Rdy.up {n : Nat} {W W' : World} (h : Rdy W) (b : Below n W W') (hn : 0 < n) : Rdy W' :=
 ⟨fun i hi => (b.cell (p := ⟨0, i, none⟩) hn).trans (h.tab i hi), Nat.lt_of_lt_of_le h.lt b.size⟩
def linkB (ml mn : Int) (x : Ev) : Bool := inB x.lk 0 ml && inB x.gn 0 mn && x.op == 0 && x.vr == 0 && x.pe == 0
def begB (x : Ev) : Bool := inB x.lk (-1) 9 && x.lk != x.sp && x.gn == 0 && inB x.op 0 11 && inB x.vr 0 9 && inB x.pe (-1) 19
def tstB (x : Ev) : Bool :=
 if x.kd = 1 then begB x else if x.kd = 2 then linkB 0 0 x else if x.kd = 3 then linkB 99 0 x else if x.kd = 4 then linkB 99 0 x else if x.kd = 5 then linkB 99 99 x else if x.kd = 6 then linkB 99 99 x else if x.kd = 7 then linkB 9 0 x else false
def basB (x : Ev) : Bool := inB x.ag 0 5 && inB x.sq 0 999 && inB x.tm 0 1000000 && inB x.tr 0 999 && inB x.sp 0 9 && inB x.bt 0 1000
theorem inB_same (n k : Int) : inB n k k = (n == k) := by
 unfold inB
 rw [Bool.eq_iff_iff]
 simp
 omega
theorem evB_tst (x : Ev) : evB x = (tstB x && basB x) := by
 have hz := inB_same
 unfold evB tstB basB linkB begB
 rw [Bool.eq_iff_iff]
 by_cases h1 : x.kd = 1
 · rw [h1]; simp; constructor <;> (rintro h; simp_all)
 by_cases h2 : x.kd = 2
 · rw [h2]; simp [hz]; constructor <;> (rintro h; simp_all)
 by_cases h3 : x.kd = 3
 · rw [h3]; simp [hz]; constructor <;> (rintro h; simp_all)
 by_cases h4 : x.kd = 4
 · rw [h4]; simp [hz]; constructor <;> (rintro h; simp_all)
 by_cases h5 : x.kd = 5
 · rw [h5]; simp; constructor <;> (rintro h; simp_all)
 by_cases h6 : x.kd = 6
 · rw [h6]; simp; constructor <;> (rintro h; simp_all)
 by_cases h7 : x.kd = 7
 · rw [h7]; simp [hz]; constructor <;> (rintro h; simp_all)
 simp [h1, h2, h3, h4, h5, h6, h7]
end Go.Proofs.YtamefmojocegkaaDoor

namespace Go.Proofs.YtamefmojocegkaaDoor
open Go Go.Proofs Go.RowKit Go.Lib
structure Fl where
 dr : List Int
 lat : Int
 lia : Int
 sv : List Int
 tm : List Int
def Fl.fit (f : Fl) : Prop := f.dr.length ≤ 140737488355328 ∧ f.sv.length ≤ 140737488355328 ∧ f.tm.length ≤ 140737488355328
def FlAt (W : World) (v : Value) (f : Fl) : Prop := ∃ a1 c1 a2 c2 a3 c3, v = .agg #[.slice a1 f.dr.length c1, .int .i64 f.lat, .int .i64 f.lia, .slice a2 f.sv.length c2, .slice a3 f.tm.length c3] ∧ RL KI W a1 f.dr ∧ RL KI W a2 f.sv ∧ RL KI W a3 f.tm
theorem FlAt.below {W W' : World} {v : Value} {f : Fl} (h : FlAt W v f) (b : Below W.heap.size W W') : FlAt W' v f := by
 obtain ⟨a1, c1, a2, c2, a3, c3, e, h1, h2, h3⟩ := h
 exact ⟨a1, c1, a2, c2, a3, c3, e, h1.below b, h2.below b, h3.below b⟩
def flB (f : Fl) : Bool :=
 (inB f.dr.length 1 6 && allB f.dr 1000 && inB f.lat 0 1000000 && inB f.lia 0 2 && decide (f.lia < (f.dr.length : Int))) &&
 (inB f.tm.length 1 8 && allB f.tm 3 && inB f.sv.length 1 12 && allB f.sv ((f.tm.length : Int) - 1))
def folB (a b : Ev) : Bool :=
 (a.kd == 3 && b.kd == 4 && a.lk == b.lk) || (a.kd == 5 && b.kd == 6 && a.lk == b.lk && a.gn == b.gn) || (a.kd == 6 && b.kd == 5 && a.lk == b.lk && a.gn + 1 == b.gn) || (a.kd == 1 && b.kd == 1 && b.lk == a.sp)
def folN (lat : Int) (a b : Ev) : Int := if a.kd == 3 && b.kd == 4 && a.lk == b.lk then lat else 0
def Ev.fit (a : Ev) : Prop := -9223372036854775808 ≤ a.gn ∧ a.gn < 9223372036854775807
end Go.Proofs.YtamefmojocegkaaDoor

namespace Go.Proofs.YtamefmojocegkaaDoor
open Go Go.Proofs Go.RowKit Go.Lib
def shB (dr d s t : Int) : Bool := !decide (t < s) && !(decide (1 ≤ d) && decide (t - s ≤ (d - 1) * (1000000 - dr))) && decide (t - s < (d + 1) * (1000000 + dr))
def Fl.drOf (f : Fl) (ag : Int) : Int := f.dr.getD ag.toNat 0
def timesB (n : Nat) (x : List Int) : Bool := x.all (fun v => inB v (-17592186044416) 17592186044416) && decide (x.length = n)
end Go.Proofs.YtamefmojocegkaaDoor
