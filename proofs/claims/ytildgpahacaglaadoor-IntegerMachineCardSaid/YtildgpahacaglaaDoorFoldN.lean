/-
  The contracts of package integer's fold over naturals, and of natural.times.
-/
import Derived.Test.YtildgpahacaglaaDoorTimes3
namespace Go.Proofs.YtildgpahacaglaaDoor
open Go Go.Proofs Go.RowKit Go.Lib

attribute [local go_sem] Oper.semAt_some

theorem holdI_kept {A B : World} {row : Option Nat} {ad : Option Addr} {cap : Nat} {l : List Nat} (h : HoldI A ad cap l) (hg : A.grownBy B row) (hr : ∀ r, row = some r → ∃ o : Obj, A.heap[r]? = some o ∧ o.isCells = false) : HoldI B ad cap l := by
  obtain ⟨h1, h2, h3⟩ := h
  refine ⟨h1, h2, h3.imp id ?_⟩
  rintro ⟨g, o, e, hlt, hn⟩
  exact ⟨g, o, e, Nat.lt_of_lt_of_le hlt hg.size, fun j hj => cell_kept (hn j hj) hg hr⟩
theorem natBox_own {β : Type} (b : Nat) (t : TypeId) (S : β → Nat) : Own (fun (s : β) W => ∃ ad m c, Boxed W b t (.slice ad m c) ∧ NatAt W ad m c (S s)) := by
  rintro s A B row ⟨ad, m, c, hb, hm, hh⟩ hg hr
  exact ⟨ad, m, c, hb.kept hg (fun e => by obtain ⟨o, ho, hc⟩ := hr b e.symm; rw [show A.heap[b]? = _ from hb] at ho; cases ho; cases hc), hm, holdI_kept hh hg hr⟩
theorem size_own {β : Type} (B k : Nat) : OwnFrom B (fun (_ : β) W => k ≤ W.heap.size) := fun _ _ _ _ h hg _ => Nat.le_trans h hg.size
/-- A store into a box that holds a slice leaves numbers as they lay. -/
theorem HoldI.storeBox {W : World} {ad : Option Addr} {c : Nat} {l : List Nat} (h : HoldI W ad c l) {B : Nat} {t : TypeId} {a : Option Addr} {m k : Nat} (hb : Boxed W B t (.slice a m k)) (v : Value) : HoldI (W.setCell ⟨B, 0, none⟩ v) ad c l := by
  obtain ⟨h1, h2, h3⟩ := h
  refine ⟨h1, h2, ?_⟩
  by_cases h0 : l = []
  · exact .inl h0
  · obtain ⟨g, o, rfl, hg, hn⟩ := h3.resolve_left h0
    right
    have hne : g ≠ B := by
      rintro rfl
      have h4 := hn 0 (List.length_pos_iff.2 h0)
      have h5 : W.heap[g]? = some (.cells #[.slice a m k] t (0, 0)) := hb
      simp only [World.cell?, h5] at h4
      by_cases ho : o = 0
      · subst ho; simp at h4
      · have : (#[Value.slice a m k] : Array Value)[o + 0]? = none := Array.getElem?_eq_none (by simp; omega)
        rw [this] at h4; cases h4
    exact ⟨g, o, rfl, by simpa using hg, hn.heq (Below.heap_setCell W ⟨B, 0, none⟩ v g hne)⟩
theorem calls_keep {R : Nat} {W W' : World} (h : Below W.heap.size W W') : KeepsFrom R W W' := keeps_same h.size h.block

set_option maxRecDepth 100000 in
set_option maxHeartbeats 4000000 in
theorem foldN_in (n N : Nat) (l : List Nat) (hl : l.length = N) (ad0 : Option Addr) (cap0 : Nat) (S : Nat → Nat) (ads : Option Addr) (ms cs : Nat) (w : World) (hh : HoldI w ad0 cap0 l) (hs0 : NatAt w ads ms cs (S 0)) (Bn : Nat)
    (hstep : ∀ k W ad m c, k < N → Below w.heap.size w W → NatAt W ad m c (S k) → Calls Tryd.prog 69 #[.slice ad m c, .int .i64 ((l.getD (N - 1 - k) 0 : Nat) : Int), .pointer (some ⟨Bn, 0, none⟩)] W (NatPost W (S (k + 1)))) :
    CallsIn Fence.wide n Tryd.prog 68 #[.slice ad0 N cap0, .slice ads ms cs, .func (.func 69) #[] #[.pointer (some ⟨Bn, 0, none⟩)]] w (NatPost w (S N)) := by
  have hN : N ≤ 1099511627776 := by have := hh.2.1; omega
  obtain ⟨W0, hW0⟩ : ∃ W0, ((w.alloc (.cells #[.slice ads ms cs] 49)).alloc (.cells #[.func (.func 69) #[] #[.pointer (some ⟨Bn, 0, none⟩)]] 64)).alloc (.cells #[.slice ad0 N cap0] 48) = W0 := ⟨_, rfl⟩
  have hsz : W0.heap.size = w.heap.size + 3 := by rw [← hW0]; simp
  have hbel : Below w.heap.size w W0 := by rw [← hW0]; exact (((Below.refl _ _).alloc (Nat.le_refl _) _).alloc (by simp) _).alloc (by simp; omega) _
  have hb0 : Boxed W0 w.heap.size 49 (.slice ads ms cs) := by rw [← hW0]; exact ((Boxed.new w _ _).alloc _).alloc _
  have hb1 : Boxed W0 (w.heap.size + 1) 64 (.func (.func 69) #[] #[.pointer (some ⟨Bn, 0, none⟩)]) := by
    rw [← hW0]
    have := Boxed.new (w.alloc (.cells #[.slice ads ms cs] 49)) 64 (.func (.func 69) #[] #[.pointer (some ⟨Bn, 0, none⟩)])
    rw [World.size_alloc] at this
    exact this.alloc _
  have hb2 : Boxed W0 (w.heap.size + 2) 48 (.slice ad0 N cap0) := by
    rw [← hW0]
    have := Boxed.new ((w.alloc (.cells #[.slice ads ms cs] 49)).alloc (.cells #[.func (.func 69) #[] #[.pointer (some ⟨Bn, 0, none⟩)]] 64)) 48 (.slice ad0 N cap0)
    rw [World.size_alloc, World.size_alloc] at this
    exact this
  have hH1 := hh.below hbel (Nat.le_refl _)
  have HW0 := Lib.hid hW0; have HB0 := Lib.hid hb0; have HB1 := Lib.hid hb1; have HB2 := Lib.hid hb2; have HBL := Lib.hid hbel; have HH1 := Lib.hid hH1; have HH := Lib.hid hh; have HL := Lib.hid hl; have HSTEP := Lib.hid hstep; have HS0 := Lib.hid hs0
  clear hW0 hb0 hb1 hb2 hbel hH1 hh hl hstep hs0
  refine callsIn_of_wp_marks Tryd.func68 rfl trivial ?_ rfl
  simp only [Tryd.ntmps68, List.size_toArray, List.length_cons, List.length_nil, Nat.reduceAdd, Nat.reduceSub, Array.replicate_succ, Array.replicate_zero, List.push_toArray, List.append_toArray, List.nil_append, List.cons_append]
  gi_wp2_with (refine ⟨trivial, (fun h => by cases h), ?_⟩; gi_at_call 86; refine (callsIn_wide.2 (backL_any _ _ _ _)).mono ?_; rintro e w' ⟨rfl, rfl⟩)
  rw [HW0.out]
  refine rangeFunc_nat (gf := 99) (lb := #[.pointer (some ⟨w.heap.size + 2, 0, none⟩)]) rfl (enters_of Tryd.func99 (by kernel_rfl) rfl)
    N (fun k => #[Value.int .i64 ((N - 1 - k : Nat) : Int), Value.int .i64 ((l.getD (N - 1 - k) 0 : Nat) : Int)]) (fun _ => rfl) (fun j => j < w.heap.size ∨ j = w.heap.size + 2) (fun j hj => by omega)
    ?seq (fun k W => (((∃ ad m c, Boxed W w.heap.size 49 (.slice ad m c) ∧ NatAt W ad m c (S k)) ∧ Boxed W (w.heap.size + 1) 64 (.func (.func 69) #[] #[.pointer (some ⟨Bn, 0, none⟩)])) ∧ w.heap.size + 3 ≤ W.heap.size) ∧ Below w.heap.size w W)
    (fun _ _ => False) ?own (fun _ _ _ _ h _ _ => h) ⟨⟨⟨⟨ads, ms, cs, HB0.out, HS0.out.below HBL.out (Nat.le_refl _)⟩, HB1.out⟩, by omega⟩, HBL.out⟩ ?round ?done (fun _ _ h _ => h.elim)
  case seq =>
    intro l' J Jx W hY hJ hold
    refine backL1_in (n - 1) l' (w.heap.size + 2) N cap0 hN l HL.out ad0 _ (.inr rfl) ?_ J Jx hY W ((World.cell?_of_block (hold (w.heap.size + 2) (by omega))).trans HB2.out.cell) ?_ hJ
    · rintro h0 g o rfl
      obtain ⟨g', o', e, hg, _⟩ := HH.out.at (by rw [HL.out]; exact h0)
      cases e
      exact .inl hg
    · exact HH1.out.same hold
  case own => exact OwnFrom.and (OwnFrom.and (OwnFrom.and ((natBox_own w.heap.size 49 S).from _) ((boxed_own _ _ _).from _)) (size_own _ _)) (ownFrom_below (Nat.le_refl _) (by omega))
  case round =>
    rintro l' k W W2 hk ⟨⟨⟨⟨ad, m, c, bx0, hna⟩, bx1⟩, hsw⟩, hbl⟩
    gi_wp2
    refine ⟨trivial, ?_⟩
    have cs := HSTEP.out k W2 ad m c hk hbl hna
    obtain ⟨d, hd⟩ : ∃ d, l.getD (N - 1 - k) 0 = d := ⟨_, rfl⟩
    rw [hd] at cs
    rw [show l[N - 1 - k]?.getD 0 = d by rw [← List.getD_eq_getElem?_getD]; exact hd]
    have c0 := bx0.cell
    have f0 := bx0.frozen
    have c1' := bx1.cell
    have CS := Lib.hid cs; have BX0 := Lib.hid bx0; have BX1 := Lib.hid bx1; have HBW := Lib.hid hbl
    clear cs bx0 bx1 hbl hd hna
    gi_wp2_with fail
    refine ⟨trivial, (fun h => by cases h), CallsIn.inRound l' ((callsIn_wide.2 CS.out).mono ?_)⟩
    rintro e w3 ⟨ad3, cap3, m3, rfl, hm3, hh3, hb3⟩
    have c03 := (hb3.cell (p := ⟨w.heap.size, 0, none⟩) BX0.out.lt).trans c0
    have bx3 : Boxed w3 w.heap.size 49 (.slice ad m c) := (hb3.block _ BX0.out.lt).trans BX0.out
    have bx13 : Boxed w3 (w.heap.size + 1) 64 (.func (.func 69) #[] #[.pointer (some ⟨Bn, 0, none⟩)]) := (hb3.block _ BX1.out.lt).trans BX1.out
    have f03 := bx3.frozen
    have BX3 := Lib.hid bx3; have BX13 := Lib.hid bx13; have HH3 := Lib.hid hh3; have HB3 := Lib.hid hb3
    clear bx3 bx13 hh3 hb3
    gi_wp2
    refine ⟨(calls_keep HB3.out).trans ((KeepsOthers.setCell _ _ _).from _), fun j hj => ?_, ⟨⟨⟨ad3, m3, cap3, BX3.out.set _, hm3, HH3.out.storeBox BX3.out _⟩, BX13.out.other (by omega) _⟩, by simpa using Nat.le_trans hsw HB3.out.size⟩, (HBW.out.trans (HB3.out.mono HBW.out.size)).setCell (p := ⟨w.heap.size, 0, none⟩) (Nat.le_refl _) _⟩
    · have hjl : j < W2.heap.size := by rcases hj with h | h <;> omega
      exact (Below.heap_setCell _ _ _ _ (by show j ≠ w.heap.size; rcases hj with h | h <;> omega)).trans (HB3.out.block j hjl)
  case done =>
    rintro W ⟨⟨⟨⟨ad, m, c, bx0, hna⟩, _⟩, _⟩, hbl⟩ hD
    have c0 := bx0.cell
    obtain ⟨hm, hh⟩ := hna
    have HH3 := Lib.hid hh; have HD2 := Lib.hid hD; have HBW := Lib.hid hbl
    clear hD bx0 hbl hh
    dsimp only
    gi_wp2
    refine ⟨by simp, .inl ⟨_, _, rfl, run_takeDeferred HD2.out, ?_⟩⟩
    exact ⟨_, results_tmp rfl _ _ _, ad, c, m, rfl, hm, holdI_kept HH3.out (grownBy_putObj' _ W0.heap.size (.deferred none)) (fun r e => by cases e; exact ⟨_, HD2.out, rfl⟩), below_collected HBW.out (by omega) HD2.out _⟩
end Go.Proofs.YtildgpahacaglaaDoor
