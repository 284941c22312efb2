/-
  The contracts of package integer's fold over ints, and of natural.word.
-/
import Derived.Test.YtildgpahacaglaaDoorFoldN
namespace Go.Proofs.YtildgpahacaglaaDoor
open Go Go.Proofs Go.RowKit Go.Lib

attribute [local go_sem] Oper.semAt_some

set_option maxRecDepth 100000 in
set_option maxHeartbeats 4000000 in
theorem foldI_in (n N : Nat) (l : List Nat) (hl : l.length = N) (ad0 : Option Addr) (cap0 : Nat) (S : Nat → Nat) (w : World) (hh : HoldI w ad0 cap0 l) (hstep : ∀ k W, k < N → Below w.heap.size w W → Calls Tryd.prog 90 #[.int .i64 ((S k : Nat) : Int), .int .i64 ((l.getD (N - 1 - k) 0 : Nat) : Int)] W fun e W' => e = .returned (.int .i64 ((S (k + 1) : Nat) : Int)) ∧ W = W') :
    CallsIn Fence.wide n Tryd.prog 89 #[.slice ad0 N cap0, .int .i64 ((S 0 : Nat) : Int), .func (.func 90) #[] #[]] w fun e w' => e = .returned (.int .i64 ((S N : Nat) : Int)) ∧ Below w.heap.size w w' := by
  have hN : N ≤ 1099511627776 := by have := hh.2.1; omega
  obtain ⟨W0, hW0⟩ : ∃ W0, ((w.alloc (.cells #[.int .i64 ((S 0 : Nat) : Int)] 3)).alloc (.cells #[.func (.func 90) #[] #[]] 39)).alloc (.cells #[.slice ad0 N cap0] 48) = W0 := ⟨_, rfl⟩
  have hsz : W0.heap.size = w.heap.size + 3 := by rw [← hW0]; simp
  have hbel : Below w.heap.size w W0 := by rw [← hW0]; exact (((Below.refl _ _).alloc (Nat.le_refl _) _).alloc (by simp) _).alloc (by simp; omega) _
  have hb0 : Boxed W0 w.heap.size 3 (.int .i64 ((S 0 : Nat) : Int)) := by rw [← hW0]; exact ((Boxed.new w _ _).alloc _).alloc _
  have hb1 : Boxed W0 (w.heap.size + 1) 39 (.func (.func 90) #[] #[]) := by
    rw [← hW0]
    have := Boxed.new (w.alloc (.cells #[.int .i64 ((S 0 : Nat) : Int)] 3)) 39 (.func (.func 90) #[] #[])
    rw [World.size_alloc] at this
    exact this.alloc _
  have hb2 : Boxed W0 (w.heap.size + 2) 48 (.slice ad0 N cap0) := by
    rw [← hW0]
    have := Boxed.new ((w.alloc (.cells #[.int .i64 ((S 0 : Nat) : Int)] 3)).alloc (.cells #[.func (.func 90) #[] #[]] 39)) 48 (.slice ad0 N cap0)
    rw [World.size_alloc, World.size_alloc] at this
    exact this
  have hH1 := hh.below hbel (Nat.le_refl _)
  have HW0 := Lib.hid hW0; have HB0 := Lib.hid hb0; have HB1 := Lib.hid hb1; have HB2 := Lib.hid hb2; have HBL := Lib.hid hbel; have HH1 := Lib.hid hH1; have HH := Lib.hid hh; have HL := Lib.hid hl; have HSTEP := Lib.hid hstep
  clear hW0 hb0 hb1 hb2 hbel hH1 hh hl hstep
  refine callsIn_of_wp_marks Tryd.func89 rfl trivial ?_ rfl
  simp only [Tryd.ntmps89, List.size_toArray, List.length_cons, List.length_nil, Nat.reduceAdd, Nat.reduceSub, Array.replicate_succ, Array.replicate_zero, List.push_toArray, List.append_toArray, List.nil_append, List.cons_append]
  gi_wp2_with (refine ⟨trivial, (fun h => by cases h), ?_⟩; gi_at_call 86; refine (callsIn_wide.2 (backL_any _ _ _ _)).mono ?_; rintro e w' ⟨rfl, rfl⟩)
  rw [HW0.out]
  refine rangeFunc_nat (gf := 99) (lb := #[.pointer (some ⟨w.heap.size + 2, 0, none⟩)]) rfl (enters_of Tryd.func99 (by kernel_rfl) rfl)
    N (fun k => #[Value.int .i64 ((N - 1 - k : Nat) : Int), Value.int .i64 ((l.getD (N - 1 - k) 0 : Nat) : Int)]) (fun _ => rfl) (fun j => j < w.heap.size ∨ j = w.heap.size + 2) (fun j hj => by omega)
    ?seq (fun k W => (((Boxed W w.heap.size 3 (.int .i64 ((S k : Nat) : Int))) ∧ Boxed W (w.heap.size + 1) 39 (.func (.func 90) #[] #[])) ∧ w.heap.size + 3 ≤ W.heap.size) ∧ Below w.heap.size w W)
    (fun _ _ => False) ?own (fun _ _ _ _ h _ _ => h) ⟨⟨⟨HB0.out, HB1.out⟩, by omega⟩, HBL.out⟩ ?round ?done (fun _ _ h _ => h.elim)
  case seq =>
    intro l' J Jx W hY hJ hold
    refine backL1_in (n - 1) l' (w.heap.size + 2) N cap0 hN l HL.out ad0 _ (.inr rfl) ?_ J Jx hY W ((World.cell?_of_block (hold (w.heap.size + 2) (by omega))).trans HB2.out.cell) ?_ hJ
    · rintro h0 g o rfl
      obtain ⟨g', o', e, hg, _⟩ := HH.out.at (by rw [HL.out]; exact h0)
      cases e
      exact .inl hg
    · exact HH1.out.same hold
  case own => exact OwnFrom.and (OwnFrom.and (OwnFrom.and ((boxed_own w.heap.size 3 (fun k => .int .i64 ((S k : Nat) : Int))).from _) ((boxed_own _ _ _).from _)) (size_own _ _)) (ownFrom_below (Nat.le_refl _) (by omega))
  case round =>
    rintro l' k W W2 hk ⟨⟨⟨bx0, bx1⟩, hsw⟩, hbl⟩
    gi_wp2
    refine ⟨trivial, ?_⟩
    have cs := fun W' (e : W2 = W') => HSTEP.out k W' hk (by rw [← e]; exact hbl)
    obtain ⟨d, hd⟩ : ∃ d, l.getD (N - 1 - k) 0 = d := ⟨_, rfl⟩
    rw [hd] at cs
    rw [show l[N - 1 - k]?.getD 0 = d by rw [← List.getD_eq_getElem?_getD]; exact hd]
    have c0 := bx0.cell
    have f0 := bx0.frozen
    have c1' := bx1.cell
    obtain ⟨q0, hq0⟩ : ∃ q, S k = q := ⟨_, rfl⟩
    obtain ⟨q1, hq1⟩ : ∃ q, S (k + 1) = q := ⟨_, rfl⟩
    rw [hq0] at c0 cs
    rw [hq1] at cs
    have CS := Lib.hid cs; have BX0 := Lib.hid bx0; have BX1 := Lib.hid bx1; have HBW := Lib.hid hbl; have HQ := Lib.hid hq1
    clear cs bx0 bx1 hbl hd hq0 hq1
    gi_wp2_with fail
    refine ⟨trivial, (fun h => by cases h), CallsIn.inRound l' ((callsIn_wide.2 (CS.out _ rfl)).mono ?_)⟩
    rintro e w3 ⟨rfl, rfl⟩
    gi_wp2
    refine ⟨(KeepsOthers.setCell _ _ _).from _, fun j hj => Below.heap_setCell _ _ _ _ (by show j ≠ w.heap.size; rcases hj with h | h <;> omega), ⟨⟨by rw [HQ.out]; exact BX0.out.set _, BX1.out.other (by omega) _⟩, by simpa using hsw⟩, HBW.out.setCell (p := ⟨w.heap.size, 0, none⟩) (Nat.le_refl _) _⟩
  case done =>
    rintro W ⟨⟨⟨bx0, _⟩, _⟩, hbl⟩ hD
    have c0 := bx0.cell
    have HD2 := Lib.hid hD; have HBW := Lib.hid hbl
    clear hD bx0 hbl
    dsimp only
    gi_wp2
    refine ⟨by simp, .inl ⟨_, _, rfl, run_takeDeferred HD2.out, ?_⟩⟩
    exact ⟨_, results_tmp rfl _ _ _, rfl, below_collected HBW.out (by omega) HD2.out _⟩

theorem valG_drop_le {l : List Nat} (h : IsGrp l) (k : Nat) : valG (l.drop k) ≤ valG l := by rw [valG_drop h]; exact Nat.div_le_self _ _
set_option maxRecDepth 100000 in
set_option maxHeartbeats 4000000 in
theorem times_any3 (x y : Nat) (ad1 ad2 : Option Addr) (c1 c2 n1 n2 : Nat) (w : World) (h1 : NatAt w ad1 n1 c1 x) (h2 : NatAt w ad2 n2 c2 y) (hn : n1 + n2 ≤ 900) :
    Calls Tryd.prog 47 #[.slice ad1 n1 c1, .slice ad2 n2 c2] w (NatPost w (x * y)) := by
  obtain ⟨e2, H2⟩ := h2
  have hb := grps_lt y
  have vb := valG_grps y
  obtain ⟨l, hl⟩ : ∃ l, grps y = l := ⟨_, rfl⟩
  rw [hl] at H2 e2 hb vb
  obtain ⟨S, hS⟩ : ∃ S : Nat → Nat, S = fun k => valG (l.drop (n2 - k)) * x := ⟨_, rfl⟩
  obtain ⟨w1, hw1⟩ : ∃ w1, w.alloc (.cells #[.slice ad1 n1 c1] 49) = w1 := ⟨_, rfl⟩
  have hbel : Below w.heap.size w w1 := by rw [← hw1]; exact (Below.refl _ _).alloc (Nat.le_refl _) _
  have hbx : Boxed w1 w.heap.size 49 (.slice ad1 n1 c1) := by rw [← hw1]; exact Boxed.new w _ _
  have hS0 : S 0 = 0 := by rw [hS]; simp only [Nat.sub_zero]; rw [List.drop_of_length_le (by omega)]; simp [valG]
  have hSN : S n2 = x * y := by rw [hS]; simp only [Nat.sub_self, List.drop_zero]; rw [vb, Nat.mul_comm]
  have hlen : ∀ k, (grps (S k)).length ≤ n1 + n2 := by
    intro k
    apply grps_length_le
    have a1 := (grps_length_iff n1 x).1 (by rw [h1.1]; exact Nat.le_refl _)
    have a2 := valG_lt hb
    rw [e2] at a2
    have a3 := valG_drop_le hb (n2 - k)
    rw [hS, Nat.pow_add, Nat.mul_comm (10000 ^ n1)]
    exact Nat.mul_lt_mul'' (Nat.lt_of_le_of_lt a3 a2) a1
  have hstep : ∀ k W ad m c, k < n2 → Below w1.heap.size w1 W → NatAt W ad m c (S k) → Calls Tryd.prog 69 #[.slice ad m c, .int .i64 ((l.getD (n2 - 1 - k) 0 : Nat) : Int), .pointer (some ⟨w.heap.size, 0, none⟩)] W (NatPost W (S (k + 1))) := by
    intro k W ad m c hk hb1 hna
    have hdl := getG_grp hb (n2 - 1 - k)
    have e : S (k + 1) = l.getD (n2 - 1 - k) 0 * x + 10000 * S k := by
      rw [hS]
      simp only
      have hv := valG_drop_cons (l := l) (k := n2 - 1 - k) (by omega)
      rw [show n2 - (k + 1) = n2 - 1 - k by omega, hv, show n2 - 1 - k + 1 = n2 - k by omega, Nat.add_mul, Nat.mul_assoc]
    rw [e]
    have hbx2 : Boxed W w.heap.size 49 (.slice ad1 n1 c1) := (hb1.block _ hbx.lt).trans hbx
    exact times1_any (S k) x _ hdl w.heap.size ad1 ad n1 c1 m c W hbx2.cell hbx2.lt (h1.below (hbel.trans (hb1.mono hbel.size)) (Nat.le_refl _)) hna (by have := hlen k; have := hna.1; omega) (by omega)
  have cf := foldN_in 0 n2 l e2 ad2 c2 S none 0 0 w1 (H2.below hbel (Nat.le_refl _)) (by rw [hS0]; exact ⟨rfl, HoldI.nil _ _ _⟩) w.heap.size hstep
  rw [hSN] at cf
  have CF := Lib.hid cf; have HB := Lib.hid hbel; have HW := Lib.hid hw1
  clear cf hstep hbel hbx hw1 H2 h1 hb vb hS0 hSN hlen hl e2 hS
  go_enter Tryd.func47, Tryd.ntmps47
  go_wp2_with fail
  rw [HW.out]
  refine (callsIn_wide.1 CF.out).mono ?_
  rintro e w2 ⟨ad, cap, m, rfl, hm, hh, hb⟩
  have HP := Lib.hid (NatPost.on (w := w) ⟨ad, cap, m, rfl, hm, hh, hb⟩ HB.out)
  clear hm hh hb
  go_wp2
  go_ret
  exact HP.out

set_option maxHeartbeats 2000000 in
theorem word1_any (s d : Nat) (h : s * 10000 + d < 1000000000000000000) (w : World) :
    Calls Tryd.prog 90 #[.int .i64 (s : Nat), .int .i64 (d : Nat)] w fun e w' => e = .returned (.int .i64 ((s * 10000 + d : Nat) : Int)) ∧ w = w' := by
  have h1 : (s : Int) * 10000 + (d : Int) < 1000000000000000000 := by omega
  have h2 : ((s * 10000 + d : Nat) : Int) = (s : Int) * 10000 + (d : Int) := by omega
  rw [h2]
  go_enter Tryd.func90, Tryd.ntmps90
  go_wp2
  go_ret
  exact ⟨rfl, rfl⟩
set_option maxRecDepth 100000 in
set_option maxHeartbeats 4000000 in
theorem word_any (y : Nat) (ad2 : Option Addr) (c2 n2 : Nat) (w : World) (h2 : NatAt w ad2 n2 c2 y) (hn : n2 ≤ 4) :
    Calls Tryd.prog 74 #[.slice ad2 n2 c2] w fun e w' => e = .returned (.int .i64 ((y : Nat) : Int)) ∧ Below w.heap.size w w' := by
  obtain ⟨e2, H2⟩ := h2
  have hb := grps_lt y
  have vb := valG_grps y
  obtain ⟨l, hl⟩ : ∃ l, grps y = l := ⟨_, rfl⟩
  rw [hl] at H2 e2 hb vb
  obtain ⟨S, hS⟩ : ∃ S : Nat → Nat, S = fun k => valG (l.drop (n2 - k)) := ⟨_, rfl⟩
  have hS0 : S 0 = 0 := by rw [hS]; simp only [Nat.sub_zero]; rw [List.drop_of_length_le (by omega)]; simp [valG]
  have hSN : S n2 = y := by rw [hS]; simp only [Nat.sub_self, List.drop_zero]; exact vb
  have hy : y < 10000000000000000 := by
    have a2 := valG_lt hb
    rw [e2, vb] at a2
    exact Nat.lt_of_lt_of_le a2 (Nat.pow_le_pow_right (by decide) hn)
  have hstep : ∀ k W, k < n2 → Below w.heap.size w W → Calls Tryd.prog 90 #[.int .i64 ((S k : Nat) : Int), .int .i64 ((l.getD (n2 - 1 - k) 0 : Nat) : Int)] W fun e W' => e = .returned (.int .i64 ((S (k + 1) : Nat) : Int)) ∧ W = W' := by
    intro k W hk _
    have e : S (k + 1) = S k * 10000 + l.getD (n2 - 1 - k) 0 := by
      rw [hS]
      simp only
      have hv := valG_drop_cons (l := l) (k := n2 - 1 - k) (by omega)
      rw [show n2 - (k + 1) = n2 - 1 - k by omega, hv, show n2 - 1 - k + 1 = n2 - k by omega]
      omega
    have hle : S (k + 1) ≤ y := by rw [hS, ← vb]; exact valG_drop_le hb _
    rw [e] at hle ⊢
    exact word1_any _ _ (by omega) W
  have cf := foldI_in 0 n2 l e2 ad2 c2 S w H2 hstep
  rw [hSN, hS0] at cf
  have CF := Lib.hid (show CallsIn Fence.wide 0 Tryd.prog 89 #[.slice ad2 n2 c2, .int .i64 0, .func (.func 90) #[] #[]] w _ from cf)
  clear cf hstep H2 hb vb hS0 hSN hl e2 hS
  go_enter Tryd.func74, Tryd.ntmps74
  go_wp2_with fail
  refine (callsIn_wide.1 CF.out).mono ?_
  rintro e w2 ⟨rfl, b⟩
  go_wp2
  go_ret
  exact ⟨rfl, b⟩
end Go.Proofs.YtildgpahacaglaaDoor
