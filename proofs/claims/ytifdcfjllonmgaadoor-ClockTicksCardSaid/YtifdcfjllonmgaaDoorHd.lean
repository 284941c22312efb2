/-
  Layer 8: the kinds of rows; fleets; the contracts of the reference's all and Valid.
-/
import Derived.Test.YtifdcfjllonmgaaDoorHc
import Derived.Test.YtifdcfjllonmgaaDoorHb
namespace Go.Proofs.YtifdcfjllonmgaaDoor
open Go Go.Proofs Go.RowKit Go.Lib

/-- A block of memory reads as these values, and may be written. -/
def CellsAt (W : World) (B : Nat) (vs : List Value) : Prop := ∀ i (h : i < vs.length), W.cell? ⟨B, i, none⟩ = some vs[i] ∧ W.frozen? ⟨B, i, none⟩ = false
theorem cellsAt_of {W : World} {B : Nat} {vs : List Value} {t : TypeId} (h : W.heap[B]? = some (.cells vs.toArray t)) : CellsAt W B vs := fun i hi => by
  simp [World.cell?, World.frozen?, h, hi]
theorem CellsAt.below {W W' : World} {B : Nat} {v : Value} {vs : List Value} (h : CellsAt W B (v :: vs)) (b : Below W.heap.size W W') : CellsAt W' B (v :: vs) := fun i hi => by
  have l := World.block_lt_of_cell? W ⟨B, 0, none⟩ (h 0 (Nat.zero_lt_succ _)).1
  exact ⟨(b.cell (p := ⟨B, i, none⟩) l).trans (h i hi).1, (b.frozen (p := ⟨B, i, none⟩) l).trans (h i hi).2⟩
theorem CellsAt.far {W : World} {A B i : Nat} {v : Value} {vs : List Value} (h : CellsAt W B vs) (hne : A ≠ B) : CellsAt (W.setCell ⟨A, i, none⟩ v) B vs := fun j hj =>
  ⟨(World.cell?_setCell_other W ⟨A, i, none⟩ ⟨B, j, none⟩ v (by intro e; injection e with e1 e2; exact hne e1)).trans (h j hj).1, by simp [(h j hj).2]⟩
theorem CellsAt.drew {W : World} {B : Nat} {vs : List Value} (h : CellsAt W B vs) : CellsAt W.drew B vs := fun i hi => h i hi
theorem CellsAt.put {W : World} {B : Nat} {vs : List Value} (h : CellsAt W B vs) (i : Nat) (v : Value) : CellsAt (W.setCell ⟨B, i, none⟩ v) B (vs.set i v) := fun j hj => by
  have hj' : j < vs.length := by simpa using hj
  refine ⟨?_, by simp [(h j hj').2]⟩
  by_cases e : i = j
  · subst e
    rw [List.getElem_set_self]
    exact World.cell?_setCell_same W ⟨B, i, none⟩ v (h i hj').1
  · rw [List.getElem_set_ne e]
    exact (World.cell?_setCell_other W ⟨B, i, none⟩ ⟨B, j, none⟩ v (by intro h2; injection h2 with e1 e2; exact e e2)).trans (h j hj').1
theorem cellsAt_new {W : World} {B : Nat} {vs : List Value} {t : TypeId} (h : B = W.heap.size) : CellsAt (W.alloc (.cells vs.toArray t)) B vs := by subst h; exact cellsAt_of (heap_alloc_new _ _)
theorem CellsAt.news {W : World} {g : Nat} {vs : List Value} (h : CellsAt W g vs) : ∀ j u, vs[j]? = some u → W.cell? ((⟨g, 0, none⟩ : Addr).add j) = some u := by
  intro j u hj
  have hlt : j < vs.length := by
    rcases Nat.lt_or_ge j vs.length with h | h
    · exact h
    · rw [List.getElem?_eq_none h] at hj; cases hj
  rw [add_at8, Nat.zero_add, (h j hlt).1]
  rw [List.getElem?_eq_getElem hlt] at hj
  exact hj
/-! ### the kinds -/
def KI : RowK Int where
  n := 1
  bytes := 8
  et := 3
  st := 22
  zero := .int .i64 0
  cs := fun x => [.int .i64 x]
  len := fun _ => rfl
  one := fun x u h => by simp at h; subst h; rfl
  pos := by decide
  bb := by decide
  und := by kernel_rfl
  elem := by kernel_rfl
  info := by kernel_rfl
  zs := rfl
theorem Ev.one {x : Ev} : ∀ u ∈ x.cells, u.oneCell' = true := by
  intro u hu
  simp [Ev.cells] at hu
  rcases hu with rfl | rfl | rfl | rfl | rfl | rfl | rfl | rfl | rfl | rfl | rfl | rfl <;> rfl
def zEv : Value := .agg #[.int .i64 0, .int .i64 0, .int .i64 0, .int .i64 0, .int .i64 0, .int .i64 0, .int .i64 0, .int .i64 0, .int .i64 0, .int .i64 0, .int .i64 0, .int .i64 0]
def KE : RowK Ev where
  n := 12
  bytes := 96
  et := 46
  st := 25
  zero := zEv
  cs := Ev.cells
  len := fun _ => rfl
  one := fun _ => Ev.one
  pos := by decide
  bb := by decide
  und := by kernel_rfl
  elem := by kernel_rfl
  info := by kernel_rfl
  zs := rfl
/-- An event with the time at which it happens. -/
structure Hp where
  e : Ev
  t : Int
def Hp.cells (x : Hp) : List Value := x.e.cells ++ [.int .i64 x.t]
def KH : RowK Hp where
  n := 13
  bytes := 104
  et := 99
  st := 74
  zero := .agg #[.int .i64 0, .int .i64 0, .int .i64 0, .int .i64 0, .int .i64 0, .int .i64 0, .int .i64 0, .int .i64 0, .int .i64 0, .int .i64 0, .int .i64 0, .int .i64 0, .int .i64 0]
  cs := Hp.cells
  len := fun _ => rfl
  one := fun x u hu => by
    simp [Hp.cells] at hu
    rcases hu with hu | rfl
    · exact Ev.one u hu
    · rfl
  pos := by decide
  bb := by decide
  und := by kernel_rfl
  elem := by kernel_rfl
  info := by kernel_rfl
  zs := rfl
/-- A constraint as it lies in memory. -/
structure C4 where
  (f t w a : Int)
def C4.cells (c : C4) : List Value := [.int .i64 c.f, .int .i64 c.t, .int .i64 c.w, .int .i64 c.a]
def KC : RowK C4 where
  n := 4
  bytes := 32
  et := 64
  st := 36
  zero := .agg #[.int .i64 0, .int .i64 0, .int .i64 0, .int .i64 0]
  cs := C4.cells
  len := fun _ => rfl
  one := fun x u hu => by
    simp [C4.cells] at hu
    rcases hu with rfl | rfl | rfl | rfl <;> rfl
  pos := by decide
  bb := by decide
  und := by kernel_rfl
  elem := by kernel_rfl
  info := by kernel_rfl
  zs := rfl
/-- An anchor. -/
structure An where
  (a t : Int)
def An.cells (x : An) : List Value := [.int .i64 x.a, .int .i64 x.t]
def KA : RowK An where
  n := 2
  bytes := 16
  et := 60
  st := 48
  zero := .agg #[.int .i64 0, .int .i64 0]
  cs := An.cells
  len := fun _ => rfl
  one := fun x u hu => by
    simp [An.cells] at hu
    rcases hu with rfl | rfl <;> rfl
  pos := by decide
  bb := by decide
  und := by kernel_rfl
  elem := by kernel_rfl
  info := by kernel_rfl
  zs := rfl
def KB : RowK Bool where
  n := 1
  bytes := 1
  et := 4
  st := 101
  zero := .bool false
  cs := fun x => [.bool x]
  len := fun _ => rfl
  one := fun x u h => by simp at h; subst h; rfl
  pos := by decide
  bb := by decide
  und := by kernel_rfl
  elem := by kernel_rfl
  info := by kernel_rfl
  zs := rfl
theorem RL.int {W : World} {ad : Option Addr} {l : List Int} (h : RL KI W ad l) (k : Nat) (hk : k < l.length) : ∃ b o, ad = some ⟨b, o, none⟩ ∧ b < W.heap.size ∧ ∀ W', Below W.heap.size W W' → W'.cell? ⟨b, o + k, none⟩ = some (.int .i64 l[k]) := by
  obtain ⟨b, o, h1, h2, h3⟩ := h.at_ k hk
  refine ⟨b, o, h1, h2, fun W' hb => ?_⟩
  have := h3 W' hb 0 (by decide)
  rw [show o + KI.n * k + 0 = o + k by show o + 1 * k + 0 = _; omega] at this
  exact this
theorem at_int8 (g o n c k : Nat) (hk : k < n) (w : World) : (Instr.indexAt 22 (.slice (some ⟨g, o, none⟩) n c) (.int .i64 (k : Int))).run Tryd.prog w = .ok (.pointer (some ⟨g, o + k, none⟩)) w := by
  have := KI.at_ g o n c k hk w
  rw [show o + KI.n * k = o + k by show o + 1 * k = _; omega] at this
  exact this
theorem at_ev8 (g o n c k : Nat) (hk : k < n) (w : World) : (Instr.indexAt 25 (.slice (some ⟨g, o, none⟩) n c) (.int .i64 (k : Int))).run Tryd.prog w = .ok (.pointer (some ⟨g, o + 12 * k, none⟩)) w := KE.at_ g o n c k hk w
/-- What twelve cells hold. -/
def EvCells (W : World) (b o : Nat) (x : Ev) : Prop :=
  W.cell? ⟨b, o, none⟩ = some (.int .i64 x.ag) ∧ W.cell? ⟨b, o + 1, none⟩ = some (.int .i64 x.sq) ∧ W.cell? ⟨b, o + 2, none⟩ = some (.int .i64 x.tm) ∧ W.cell? ⟨b, o + 3, none⟩ = some (.int .i64 x.kd) ∧ W.cell? ⟨b, o + 4, none⟩ = some (.int .i64 x.tr) ∧ W.cell? ⟨b, o + 5, none⟩ = some (.int .i64 x.sp) ∧
  W.cell? ⟨b, o + 6, none⟩ = some (.int .i64 x.lk) ∧ W.cell? ⟨b, o + 7, none⟩ = some (.int .i64 x.gn) ∧ W.cell? ⟨b, o + 8, none⟩ = some (.int .i64 x.op) ∧ W.cell? ⟨b, o + 9, none⟩ = some (.int .i64 x.vr) ∧ W.cell? ⟨b, o + 10, none⟩ = some (.int .i64 x.pe) ∧ W.cell? ⟨b, o + 11, none⟩ = some (.int .i64 x.bt)
theorem RL.ev {W : World} {ad : Option Addr} {l : List Ev} (h : RL KE W ad l) (k : Nat) (hk : k < l.length) : ∃ b o, ad = some ⟨b, o, none⟩ ∧ b < W.heap.size ∧ ∀ W', Below W.heap.size W W' → EvCells W' b (o + 12 * k) l[k] := by
  obtain ⟨b, o, h1, h2, h3⟩ := h.at_ k hk
  refine ⟨b, o, h1, h2, fun W' hb => ?_⟩
  have := h3 W' hb
  exact ⟨this 0 (by decide), this 1 (by decide), this 2 (by decide), this 3 (by decide), this 4 (by decide), this 5 (by decide), this 6 (by decide), this 7 (by decide), this 8 (by decide), this 9 (by decide), this 10 (by decide), this 11 (by decide)⟩
def allB (l : List Int) (hi : Int) : Bool := l.all fun x => inB x 0 hi
theorem below_drew8 (n : Nat) (w : World) (d : Nat) : Below n w (w.drewN d) := ⟨rfl, rfl, rfl, Nat.le_refl _, fun _ _ => rfl⟩
set_option maxRecDepth 100000 in
set_option maxHeartbeats 4000000 in
theorem allR_any (ad : Option Addr) (c : Nat) (l : List Int) (hi : Int) (hl : l.length ≤ maxLen) (w : World) (hI : RL KI w ad l) :
    Calls Tryd.prog 43 #[.slice ad l.length c, .int .i64 hi] w fun e w' => e = .returned (.bool (allB l hi)) ∧ w = w' := by
  unfold maxLen at hl
  obtain ⟨B, hB⟩ : ∃ B, allB l hi = B := ⟨_, rfl⟩
  rw [hB]
  have HYES := Lib.hid (fun h : ∀ x ∈ l, inB x 0 hi = true => show B = true by rw [← hB]; exact List.all_eq_true.2 h)
  have HNO := Lib.hid (fun (x : Int) (h : x ∈ l) (h2 : inB x 0 hi = false) => show B = false by rw [← hB]; exact List.all_eq_false.2 ⟨x, h, by simp [h2]⟩)
  have HC := Lib.hid (fun k hk => hI.int k hk)
  clear hB hI
  go_enter Tryd.func43, Tryd.ntmps43
  go_wp2_with fail
  go_loop [5] (fun i => ∃ k : Nat, k ≤ l.length ∧ i = .int .i64 k ∧ Hid (∀ j (hj : j < l.length), j < k → inB l[j] 0 hi = true)) (fun i => l.length - (RowKit.intOf i).toNat)
  case atStart => exact ⟨0, Nat.zero_le _, rfl, Lib.hid (fun j _ h => absurd h (Nat.not_lt_zero _))⟩
  case round =>
    obtain ⟨k, hk, rfl, HK⟩ := hrel
    by_cases hlt : k < l.length
    · have hki : (k : Int) < (l.length : Int) := by omega
      obtain ⟨b, o, e1, _, e2⟩ := HC.out k hlt
      have hik := fun W => at_int8 b o l.length c k hlt W
      have c0 := e2 w (Below.refl _ _)
      have HLT := Lib.hid hlt
      have HX := Lib.hid (fun h : inB l[k] 0 hi = false => HNO.out l[k] (List.getElem_mem hlt) h)
      have HY := Lib.hid (show inB l[k] 0 hi = true → ∀ j (hj : j < l.length), j < k + 1 → inB l[j] 0 hi = true from fun h j hj hjk => by
        rcases Nat.lt_or_ge j k with h9 | h9
        · exact HK.out j hj h9
        · have : j = k := by omega
          subst this
          exact h)
      rw [e1]
      generalize l[k] = x at *
      clear e2 hlt
      cases hx : inB x 0 hi with
      | true =>
        have HZ := Lib.hid (HY.out hx)
        go_wp2_with (go_at_call 42; refine (in_any _ _ _ _).mono ?_; rintro e w' ⟨rfl, rfl⟩)
        go_round
        case rel => exact ⟨k + 1, HLT.out, by go_num, HZ⟩
        case measure => have h9 := HLT.out; simp [RowKit.intOf]; omega
      | false =>
        have HZ := Lib.hid (HX.out hx)
        go_wp2_with (go_at_call 42; refine (in_any _ _ _ _).mono ?_; rintro e w' ⟨rfl, rfl⟩)
        go_ret
        exact ⟨by rw [HZ.out]; rfl, rfl⟩
    · obtain rfl : k = l.length := by omega
      have HF := Lib.hid (HYES.out (fun x hx => by obtain ⟨i, h1, rfl⟩ := List.getElem_of_mem hx; exact HK.out i h1 h1))
      have hki : ¬ (l.length : Int) < (l.length : Int) := by omega
      go_wp2
      go_ret
      exact ⟨by rw [HF.out]; rfl, rfl⟩
end Go.Proofs.YtifdcfjllonmgaaDoor
