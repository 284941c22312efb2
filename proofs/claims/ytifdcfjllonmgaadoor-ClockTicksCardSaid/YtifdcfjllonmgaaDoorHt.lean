/-
  Layer 8: the maker of traces: its state, plain and in memory.
-/
import Derived.Test.YtifdcfjllonmgaaDoorHs
namespace Go.Proofs.YtifdcfjllonmgaaDoor
open Go Go.Proofs Go.RowKit Go.Lib

/-- What the maker holds. -/
structure Mk where
  (id now : Int)
  out : List Hp
  ags : List Int
  pars : List Int
  opn : List Bool
  hol : List Int
  (msg g0 g1 g2 : Int)
  (t0 t1 t2 : Bool)
/-- The fleet's cells in it. -/
structure Fv where
  a1 : Option Addr
  (n1 c1 : Nat)
  (lat lia : Int)
  a2 : Option Addr
  (n2 c2 : Nat)
  a3 : Option Addr
  (n3 c3 : Nat)
def Mk.cells (F : Fv) (s : Mk) (vo va vp vq vh : Value) : List Value :=
  [.slice F.a1 F.n1 F.c1, .int .i64 F.lat, .int .i64 F.lia, .slice F.a2 F.n2 F.c2, .slice F.a3 F.n3 F.c3, .int .i64 s.id, .int .i64 s.now, vo, va, vp, vq, vh, .int .i64 s.msg, .int .i64 s.g0, .int .i64 s.g1, .int .i64 s.g2, .bool s.t0, .bool s.t1, .bool s.t2]
/-- No block stands twice. -/
def Apart (l : List (Option Nat)) : Prop := ∀ (i j x : Nat), l[i]? = some (some x) → l[j]? = some (some x) → i = j
theorem Apart.ne {l : List (Option Nat)} (h : Apart l) (i j : Nat) (x : Nat) (hi : l[i]? = some (some x)) (hij : i ≠ j) {o : Option Nat} (hj : l[j]? = some o) : o ≠ some x := by
  rintro rfl
  exact hij (h i j x hi hj)
theorem Apart.set {l : List (Option Nat)} (h : Apart l) (i : Nat) (o : Option Nat) (ho : l[i]? = some o ∨ ∃ x, o = some x ∧ ∀ (j y : Nat), l[j]? = some (some y) → y < x) : Apart (l.set i o) := by
  intro p q x hp hq
  by_cases hpi : p = i <;> by_cases hqi : q = i
  · omega
  · subst hpi
    rw [List.getElem?_set_ne (Ne.symm hqi)] at hq
    have hlt : p < l.length := by
      rcases Nat.lt_or_ge p l.length with h1 | h1
      · exact h1
      · rw [List.getElem?_eq_none (by rw [List.length_set]; exact h1)] at hp; cases hp
    rw [List.getElem?_set_self hlt] at hp
    injection hp with hp
    subst hp
    rcases ho with ho | ⟨y, e, hy⟩
    · exact h _ _ _ ho hq
    · injection e with e; subst e; have := hy _ _ hq; omega
  · subst hqi
    rw [List.getElem?_set_ne (Ne.symm hpi)] at hp
    have hlt : q < l.length := by
      rcases Nat.lt_or_ge q l.length with h1 | h1
      · exact h1
      · rw [List.getElem?_eq_none (by rw [List.length_set]; exact h1)] at hq; cases hq
    rw [List.getElem?_set_self hlt] at hq
    injection hq with hq
    subst hq
    rcases ho with ho | ⟨y, e, hy⟩
    · exact h _ _ _ hp ho
    · injection e with e; subst e; have := hy _ _ hp; omega
  · rw [List.getElem?_set_ne (Ne.symm hpi)] at hp
    rw [List.getElem?_set_ne (Ne.symm hqi)] at hq
    exact h _ _ _ hp hq
structure MkP (W : World) (base B : Nat) (F : Fv) (s : Mk) (vo va vp vq vh : Value) : Prop where
  cells : CellsAt W B (s.cells F vo va vp vq vh)
  hb : base ≤ B
  ro : Own KH W base vo s.out
  ra : Own KI W base va s.ags
  rp : Own KI W base vp s.pars
  rq : Own KB W base vq s.opn
  rh : Own KI W base vh s.hol
  ap : Apart [some B, vo.ownBlock, va.ownBlock, vp.ownBlock, vq.ownBlock, vh.ownBlock]
theorem MkP.lt {W : World} {base B : Nat} {F : Fv} {s : Mk} {vo va vp vq vh : Value} (h : MkP W base B F s vo va vp vq vh) : B < W.heap.size := World.block_lt_of_cell? W ⟨B, 0, none⟩ (h.cells 0 (by simp [Mk.cells])).1
theorem MkP.all_lt {W : World} {base B : Nat} {F : Fv} {s : Mk} {vo va vp vq vh : Value} (h : MkP W base B F s vo va vp vq vh) : ∀ (j y : Nat), [some B, vo.ownBlock, va.ownBlock, vp.ownBlock, vq.ownBlock, vh.ownBlock][j]? = some (some y) → base ≤ y ∧ y < W.heap.size := by
  intro j y hj
  match j with
  | 0 => injection hj with e; injection e with e; subst e; exact ⟨h.hb, h.lt⟩
  | 1 => injection hj with e; exact h.ro.ge y e
  | 2 => injection hj with e; exact h.ra.ge y e
  | 3 => injection hj with e; exact h.rp.ge y e
  | 4 => injection hj with e; exact h.rq.ge y e
  | 5 => injection hj with e; exact h.rh.ge y e
  | j + 6 => cases hj
/-- Nothing of it has turned. -/
theorem MkP.up {n : Nat} {W W' : World} {base B : Nat} {F : Fv} {s : Mk} {vo va vp vq vh : Value} (h : MkP W base B F s vo va vp vq vh) (b : Below n W W') (hn : W.heap.size ≤ n) : MkP W' base B F s vo va vp vq vh :=
  ⟨h.cells.up b (Nat.lt_of_lt_of_le h.lt hn), h.hb, h.ro.below b hn, h.ra.below b hn, h.rp.below b hn, h.rq.below b hn, h.rh.below b hn, h.ap⟩
/-- A cell of the maker's own is stored. -/
theorem MkP.put {W : World} {base B : Nat} {F : Fv} {s : Mk} {vo va vp vq vh : Value} (h : MkP W base B F s vo va vp vq vh) (i : Nat) (u : Value) (s' : Mk) (he : (s.cells F vo va vp vq vh).set i u = s'.cells F vo va vp vq vh)
    (e1 : s'.out = s.out) (e2 : s'.ags = s.ags) (e3 : s'.pars = s.pars) (e4 : s'.opn = s.opn) (e5 : s'.hol = s.hol) : MkP (W.setCell ⟨B, i, none⟩ u) base B F s' vo va vp vq vh := by
  refine ⟨by rw [← he]; exact h.cells.put i u, h.hb, ?_, ?_, ?_, ?_, ?_, h.ap⟩
  · rw [e1]; exact h.ro.far (h.ap.ne 0 1 B rfl (by decide) rfl)
  · rw [e2]; exact h.ra.far (h.ap.ne 0 2 B rfl (by decide) rfl)
  · rw [e3]; exact h.rp.far (h.ap.ne 0 3 B rfl (by decide) rfl)
  · rw [e4]; exact h.rq.far (h.ap.ne 0 4 B rfl (by decide) rfl)
  · rw [e5]; exact h.rh.far (h.ap.ne 0 5 B rfl (by decide) rfl)
theorem own_grown8 {w w' : World} {base : Nat} {T : Type} {K : RowK T} {v : Value} {l : List T} {row : Option Nat} (h : Own K w base v l) (hg : w.grownBy w' row) (hne : ∀ j, v.ownBlock = some j → row ≠ some j) : Own K w' base v l :=
  own_move8 h fun j hj => hg.block j (h.ge j hj).2 (fun e => hne j hj e.symm)
theorem cells_grown8 {W W' : World} {B : Nat} {F : Fv} {s : Mk} {vo va vp vq vh : Value} {row : Option Nat} (h : CellsAt W B (s.cells F vo va vp vq vh)) (hg : W.grownBy W' row) (hne : some B ≠ row) : CellsAt W' B (s.cells F vo va vp vq vh) := CellsAt.grown h hg hne
/-- A row of it has grown (out). -/
theorem MkP.push_out {W W' : World} {base B : Nat} {F : Fv} {s : Mk} {vo va vp vq vh v' : Value} {x : Hp} (h : MkP W base B F s vo va vp vq vh) (ho : Own KH W' base v' (s.out ++ [x])) (hg : W.grownBy W' vo.ownBlock) (hk : v'.ownBlock = vo.ownBlock ∨ v'.ownBlock = some W.heap.size) :
    MkP (W'.setCell ⟨B, 7, none⟩ v') base B F { s with out := s.out ++ [x] } v' va vp vq vh := by
  have ap' : Apart [some B, v'.ownBlock, va.ownBlock, vp.ownBlock, vq.ownBlock, vh.ownBlock] := by
    have := h.ap.set 1 v'.ownBlock (by
      rcases hk with hk | hk
      · left; rw [hk]; rfl
      · right; exact ⟨_, hk, fun j y hj => (h.all_lt j y hj).2⟩)
    exact this
  have hc : CellsAt W' B (s.cells F vo va vp vq vh) := cells_grown8 h.cells hg (fun e => h.ap.ne 0 1 B rfl (by decide) rfl e.symm)
  exact ⟨hc.put 7 v', h.hb, ho.far (ap'.ne 0 1 B rfl (by decide) rfl), (own_grown8 h.ra hg (fun j e => by have := h.ap.ne 2 1 j (by show some _ = _; rw [e]) (by decide) rfl; exact this)).far (h.ap.ne 0 2 B rfl (by decide) rfl), (own_grown8 h.rp hg (fun j e => by have := h.ap.ne 3 1 j (by show some _ = _; rw [e]) (by decide) rfl; exact this)).far (h.ap.ne 0 3 B rfl (by decide) rfl), (own_grown8 h.rq hg (fun j e => by have := h.ap.ne 4 1 j (by show some _ = _; rw [e]) (by decide) rfl; exact this)).far (h.ap.ne 0 4 B rfl (by decide) rfl), (own_grown8 h.rh hg (fun j e => by have := h.ap.ne 5 1 j (by show some _ = _; rw [e]) (by decide) rfl; exact this)).far (h.ap.ne 0 5 B rfl (by decide) rfl), ap'⟩
/-- A row of it has grown (ags). -/
theorem MkP.push_ags {W W' : World} {base B : Nat} {F : Fv} {s : Mk} {vo va vp vq vh v' : Value} {x : Int} (h : MkP W base B F s vo va vp vq vh) (ho : Own KI W' base v' (s.ags ++ [x])) (hg : W.grownBy W' va.ownBlock) (hk : v'.ownBlock = va.ownBlock ∨ v'.ownBlock = some W.heap.size) :
    MkP (W'.setCell ⟨B, 8, none⟩ v') base B F { s with ags := s.ags ++ [x] } vo v' vp vq vh := by
  have ap' : Apart [some B, vo.ownBlock, v'.ownBlock, vp.ownBlock, vq.ownBlock, vh.ownBlock] := by
    have := h.ap.set 2 v'.ownBlock (by
      rcases hk with hk | hk
      · left; rw [hk]; rfl
      · right; exact ⟨_, hk, fun j y hj => (h.all_lt j y hj).2⟩)
    exact this
  have hc : CellsAt W' B (s.cells F vo va vp vq vh) := cells_grown8 h.cells hg (fun e => h.ap.ne 0 2 B rfl (by decide) rfl e.symm)
  exact ⟨hc.put 8 v', h.hb, (own_grown8 h.ro hg (fun j e => by have := h.ap.ne 1 2 j (by show some _ = _; rw [e]) (by decide) rfl; exact this)).far (h.ap.ne 0 1 B rfl (by decide) rfl), ho.far (ap'.ne 0 2 B rfl (by decide) rfl), (own_grown8 h.rp hg (fun j e => by have := h.ap.ne 3 2 j (by show some _ = _; rw [e]) (by decide) rfl; exact this)).far (h.ap.ne 0 3 B rfl (by decide) rfl), (own_grown8 h.rq hg (fun j e => by have := h.ap.ne 4 2 j (by show some _ = _; rw [e]) (by decide) rfl; exact this)).far (h.ap.ne 0 4 B rfl (by decide) rfl), (own_grown8 h.rh hg (fun j e => by have := h.ap.ne 5 2 j (by show some _ = _; rw [e]) (by decide) rfl; exact this)).far (h.ap.ne 0 5 B rfl (by decide) rfl), ap'⟩
/-- A row of it has grown (pars). -/
theorem MkP.push_pars {W W' : World} {base B : Nat} {F : Fv} {s : Mk} {vo va vp vq vh v' : Value} {x : Int} (h : MkP W base B F s vo va vp vq vh) (ho : Own KI W' base v' (s.pars ++ [x])) (hg : W.grownBy W' vp.ownBlock) (hk : v'.ownBlock = vp.ownBlock ∨ v'.ownBlock = some W.heap.size) :
    MkP (W'.setCell ⟨B, 9, none⟩ v') base B F { s with pars := s.pars ++ [x] } vo va v' vq vh := by
  have ap' : Apart [some B, vo.ownBlock, va.ownBlock, v'.ownBlock, vq.ownBlock, vh.ownBlock] := by
    have := h.ap.set 3 v'.ownBlock (by
      rcases hk with hk | hk
      · left; rw [hk]; rfl
      · right; exact ⟨_, hk, fun j y hj => (h.all_lt j y hj).2⟩)
    exact this
  have hc : CellsAt W' B (s.cells F vo va vp vq vh) := cells_grown8 h.cells hg (fun e => h.ap.ne 0 3 B rfl (by decide) rfl e.symm)
  exact ⟨hc.put 9 v', h.hb, (own_grown8 h.ro hg (fun j e => by have := h.ap.ne 1 3 j (by show some _ = _; rw [e]) (by decide) rfl; exact this)).far (h.ap.ne 0 1 B rfl (by decide) rfl), (own_grown8 h.ra hg (fun j e => by have := h.ap.ne 2 3 j (by show some _ = _; rw [e]) (by decide) rfl; exact this)).far (h.ap.ne 0 2 B rfl (by decide) rfl), ho.far (ap'.ne 0 3 B rfl (by decide) rfl), (own_grown8 h.rq hg (fun j e => by have := h.ap.ne 4 3 j (by show some _ = _; rw [e]) (by decide) rfl; exact this)).far (h.ap.ne 0 4 B rfl (by decide) rfl), (own_grown8 h.rh hg (fun j e => by have := h.ap.ne 5 3 j (by show some _ = _; rw [e]) (by decide) rfl; exact this)).far (h.ap.ne 0 5 B rfl (by decide) rfl), ap'⟩
/-- A row of it has grown (opn). -/
theorem MkP.push_opn {W W' : World} {base B : Nat} {F : Fv} {s : Mk} {vo va vp vq vh v' : Value} {x : Bool} (h : MkP W base B F s vo va vp vq vh) (ho : Own KB W' base v' (s.opn ++ [x])) (hg : W.grownBy W' vq.ownBlock) (hk : v'.ownBlock = vq.ownBlock ∨ v'.ownBlock = some W.heap.size) :
    MkP (W'.setCell ⟨B, 10, none⟩ v') base B F { s with opn := s.opn ++ [x] } vo va vp v' vh := by
  have ap' : Apart [some B, vo.ownBlock, va.ownBlock, vp.ownBlock, v'.ownBlock, vh.ownBlock] := by
    have := h.ap.set 4 v'.ownBlock (by
      rcases hk with hk | hk
      · left; rw [hk]; rfl
      · right; exact ⟨_, hk, fun j y hj => (h.all_lt j y hj).2⟩)
    exact this
  have hc : CellsAt W' B (s.cells F vo va vp vq vh) := cells_grown8 h.cells hg (fun e => h.ap.ne 0 4 B rfl (by decide) rfl e.symm)
  exact ⟨hc.put 10 v', h.hb, (own_grown8 h.ro hg (fun j e => by have := h.ap.ne 1 4 j (by show some _ = _; rw [e]) (by decide) rfl; exact this)).far (h.ap.ne 0 1 B rfl (by decide) rfl), (own_grown8 h.ra hg (fun j e => by have := h.ap.ne 2 4 j (by show some _ = _; rw [e]) (by decide) rfl; exact this)).far (h.ap.ne 0 2 B rfl (by decide) rfl), (own_grown8 h.rp hg (fun j e => by have := h.ap.ne 3 4 j (by show some _ = _; rw [e]) (by decide) rfl; exact this)).far (h.ap.ne 0 3 B rfl (by decide) rfl), ho.far (ap'.ne 0 4 B rfl (by decide) rfl), (own_grown8 h.rh hg (fun j e => by have := h.ap.ne 5 4 j (by show some _ = _; rw [e]) (by decide) rfl; exact this)).far (h.ap.ne 0 5 B rfl (by decide) rfl), ap'⟩
/-- A row of it has grown (hol). -/
theorem MkP.push_hol {W W' : World} {base B : Nat} {F : Fv} {s : Mk} {vo va vp vq vh v' : Value} {x : Int} (h : MkP W base B F s vo va vp vq vh) (ho : Own KI W' base v' (s.hol ++ [x])) (hg : W.grownBy W' vh.ownBlock) (hk : v'.ownBlock = vh.ownBlock ∨ v'.ownBlock = some W.heap.size) :
    MkP (W'.setCell ⟨B, 11, none⟩ v') base B F { s with hol := s.hol ++ [x] } vo va vp vq v' := by
  have ap' : Apart [some B, vo.ownBlock, va.ownBlock, vp.ownBlock, vq.ownBlock, v'.ownBlock] := by
    have := h.ap.set 5 v'.ownBlock (by
      rcases hk with hk | hk
      · left; rw [hk]; rfl
      · right; exact ⟨_, hk, fun j y hj => (h.all_lt j y hj).2⟩)
    exact this
  have hc : CellsAt W' B (s.cells F vo va vp vq vh) := cells_grown8 h.cells hg (fun e => h.ap.ne 0 5 B rfl (by decide) rfl e.symm)
  exact ⟨hc.put 11 v', h.hb, (own_grown8 h.ro hg (fun j e => by have := h.ap.ne 1 5 j (by show some _ = _; rw [e]) (by decide) rfl; exact this)).far (h.ap.ne 0 1 B rfl (by decide) rfl), (own_grown8 h.ra hg (fun j e => by have := h.ap.ne 2 5 j (by show some _ = _; rw [e]) (by decide) rfl; exact this)).far (h.ap.ne 0 2 B rfl (by decide) rfl), (own_grown8 h.rp hg (fun j e => by have := h.ap.ne 3 5 j (by show some _ = _; rw [e]) (by decide) rfl; exact this)).far (h.ap.ne 0 3 B rfl (by decide) rfl), (own_grown8 h.rq hg (fun j e => by have := h.ap.ne 4 5 j (by show some _ = _; rw [e]) (by decide) rfl; exact this)).far (h.ap.ne 0 4 B rfl (by decide) rfl), ho.far (ap'.ne 0 5 B rfl (by decide) rfl), ap'⟩
/-- An element of a row is stored (opn). -/
theorem MkP.set_opn {W : World} {base B g n c : Nat} {F : Fv} {s : Mk} {vo va vp vh : Value} {x : Bool} (h : MkP W base B F s vo va vp (.slice (some ⟨g, 0, none⟩) n c) vh) (i : Nat) (hi : i < s.opn.length) :
    MkP (W.setCell ⟨g, i, none⟩ (.bool x)) base B F { s with opn := s.opn.set i x } vo va vp (.slice (some ⟨g, 0, none⟩) n c) vh := by
  have hp := h.rq.put i hi 0 (by decide) x (.bool x) rfl
  rw [show KB.n * i + 0 = i by show 1 * i + 0 = i; omega] at hp
  exact ⟨h.cells.far (by have := h.ap.ne 4 0 g rfl (by decide) rfl; intro e; exact this (by rw [e])), h.hb, h.ro.far (by have := h.ap.ne 4 1 g rfl (by decide) rfl; exact this), h.ra.far (by have := h.ap.ne 4 2 g rfl (by decide) rfl; exact this), h.rp.far (by have := h.ap.ne 4 3 g rfl (by decide) rfl; exact this), hp.1, h.rh.far (by have := h.ap.ne 4 5 g rfl (by decide) rfl; exact this), h.ap⟩
/-- An element of a row is stored (hol). -/
theorem MkP.set_hol {W : World} {base B g n c : Nat} {F : Fv} {s : Mk} {vo va vp vq : Value} {x : Int} (h : MkP W base B F s vo va vp vq (.slice (some ⟨g, 0, none⟩) n c)) (i : Nat) (hi : i < s.hol.length) :
    MkP (W.setCell ⟨g, i, none⟩ (.int .i64 x)) base B F { s with hol := s.hol.set i x } vo va vp vq (.slice (some ⟨g, 0, none⟩) n c) := by
  have hp := h.rh.put i hi 0 (by decide) x (.int .i64 x) rfl
  rw [show KI.n * i + 0 = i by show 1 * i + 0 = i; omega] at hp
  exact ⟨h.cells.far (by have := h.ap.ne 5 0 g rfl (by decide) rfl; intro e; exact this (by rw [e])), h.hb, h.ro.far (by have := h.ap.ne 5 1 g rfl (by decide) rfl; exact this), h.ra.far (by have := h.ap.ne 5 2 g rfl (by decide) rfl; exact this), h.rp.far (by have := h.ap.ne 5 3 g rfl (by decide) rfl; exact this), h.rq.far (by have := h.ap.ne 5 4 g rfl (by decide) rfl; exact this), hp.1, h.ap⟩
def MkAt (W : World) (base B : Nat) (F : Fv) (s : Mk) : Prop := ∃ vo va vp vq vh, MkP W base B F s vo va vp vq vh
/-- An event is added. -/
def addM (s : Mk) (i : Nat) (e : Ev) : Mk := { s with out := s.out ++ [⟨{ e with tr := s.id, sp := i, ag := s.ags.getD i 0, bt := 10 + pick8 (7 * (s.out.length : Nat) + s.id) 90 }, s.now⟩], now := s.now + 1 }
/-- What is not too great. -/
def Mk.small (s : Mk) : Prop := (0 ≤ s.id ∧ s.id ≤ 999) ∧ (0 ≤ s.now ∧ s.now ≤ 1000000000000) ∧ s.out.length ≤ 1000 ∧ (0 ≤ s.msg ∧ s.msg ≤ 1000) ∧ (0 ≤ s.g0 ∧ s.g0 ≤ 1000) ∧ (0 ≤ s.g1 ∧ s.g1 ≤ 1000) ∧ (0 ≤ s.g2 ∧ s.g2 ≤ 1000)
def Done (W : World) (base B : Nat) (F : Fv) (s : Mk) (e : Ending) (w' : World) : Prop := e = .returned (.tuple #[]) ∧ MkAt w' base B F s ∧ Below base W w'
end Go.Proofs.YtifdcfjllonmgaaDoor
