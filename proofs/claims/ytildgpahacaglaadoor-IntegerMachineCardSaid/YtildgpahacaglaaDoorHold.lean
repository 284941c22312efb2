/-
  Slices that hold digits or groups; the contract of the reference's trim.
-/
import Derived.Test.YtildgpahacaglaaDoorBase3
import Derived.Test.YtildgpahacaglaaDoorAlg
import Derived.Laws.MakeOwn
namespace Go.Proofs.YtildgpahacaglaaDoor
open Go Go.Proofs Go.RowKit Go.Lib

/-- What a slice of digits holds. -/
def HoldI (W : World) (ad : Option Addr) (cap : Nat) (l : List Nat) : Prop :=
  l.length ≤ cap ∧ l.length ≤ 1099511627776 ∧ (l = [] ∨ ∃ g o, ad = some ⟨g, o, none⟩ ∧ g < W.heap.size ∧ NumsAt .i64 W g o l)
theorem HoldI.below {n : Nat} {W W' : World} {ad : Option Addr} {cap : Nat} {l : List Nat} (h : HoldI W ad cap l) (hb : Below n W W') (hn : W.heap.size ≤ n) : HoldI W' ad cap l := by
  obtain ⟨h1, h2, h3⟩ := h
  refine ⟨h1, h2, h3.imp id ?_⟩
  rintro ⟨g, o, rfl, hlt, hs⟩
  exact ⟨g, o, rfl, Nat.lt_of_lt_of_le hlt hb.size, hs.below hb (by omega)⟩
theorem HoldI.nil (W : World) (ad : Option Addr) (cap : Nat) : HoldI W ad cap [] := ⟨Nat.zero_le _, by simp, .inl rfl⟩
theorem HoldI.at {W : World} {ad : Option Addr} {cap : Nat} {l : List Nat} (h : HoldI W ad cap l) (h0 : 0 < l.length) : ∃ g o, ad = some ⟨g, o, none⟩ ∧ g < W.heap.size ∧ NumsAt .i64 W g o l := by
  rcases h.2.2 with rfl | h
  · simp at h0
  · exact h
theorem HoldI.take {W : World} {ad : Option Addr} {cap : Nat} {l : List Nat} (h : HoldI W ad cap l) (k : Nat) : HoldI W ad cap (l.take k) := by
  obtain ⟨h1, h2, h3⟩ := h
  refine ⟨by rw [List.length_take]; omega, by rw [List.length_take]; omega, ?_⟩
  rcases h3 with rfl | ⟨g, o, rfl, hlt, hs⟩
  · left; simp
  · right
    refine ⟨g, o, rfl, hlt, fun j hj => ?_⟩
    have hj2 : j < k ∧ j < l.length := by rw [List.length_take] at hj; omega
    rw [hs j hj2.2]
    congr 3
    simp [List.getD_eq_getElem?_getD, hj2.1]
theorem OwnI.holds {W : World} {base : Nat} {v : Value} {p : List Nat} (h : OwnI W base v p) (n : Nat) (hn : p.length = n) (hl : n ≤ 1099511627776) : ∃ ad cap, v = .slice ad n cap ∧ HoldI W ad cap p := by
  by_cases h0 : 0 < n
  · obtain ⟨g, cap, hv, hc, _, hg, hs, _⟩ := h.form n hn h0
    exact ⟨_, cap, hv, by omega, by omega, .inr ⟨g, 0, rfl, hg, hs⟩⟩
  · have hp : p = [] := List.eq_nil_of_length_eq_zero (by omega)
    subst hp
    obtain rfl : n = 0 := by omega
    obtain ⟨_, ⟨rfl, _⟩ | ⟨g, cap, cur, rfl, hb, hh, _⟩⟩ := h
    · exact ⟨none, 0, rfl, HoldI.nil _ _ _⟩
    · exact ⟨_, cap, rfl, HoldI.nil _ _ _⟩
theorem int_elem : Tryd.prog.underlying 48 = some (.slice (Tryd.prog.elem 48)) := by kernel_rfl
theorem int_size (w : World) : (Go.sizeOf (Tryd.prog.elem 48)).run Tryd.prog w = .ok 1 w := by kernel_rfl
theorem sliceI_lo (b o n c k : Nat) (hk : k ≤ c) (w : World) :
    (Instr.slice 48 (.slice (some ⟨b, o, none⟩) n c) none (some (.int .i64 (k : Nat))) none).run Tryd.prog w = .ok (.slice (some ⟨b, o, none⟩) k c) w := by
  rw [run_slice_h w _ _ _ _ int_elem .i64 _ (by omega) (by omega), int_size]
  simp [Result.andThen, sliced, Addr.add]
theorem ret_slice {a : Option Addr} {n m c : Nat} (h : n = m) : Ending.returned (.slice a n c) = .returned (.slice a m c) := by rw [h]
def slen (v : Value) : Nat := match v with | .slice _ n _ => n | _ => 0
set_option maxRecDepth 100000 in
set_option maxHeartbeats 2000000 in
theorem trim_any (l : List Nat) (hd : IsDig l) (ad : Option Addr) (cap : Nat) (w : World) (hH : HoldI w ad cap l) (n : Nat) (hn : l.length = n) :
    Calls Tryd.prog 37 #[.slice ad n cap] w fun e w' => e = .returned (.slice ad (trimD l).length cap) ∧ w = w' := by
  have h40 : n ≤ 1099511627776 := by have := hH.2.1; omega
  have hcn : n ≤ cap := by have := hH.1; omega
  obtain ⟨T, hT⟩ : ∃ T, trimD l = T := ⟨_, rfl⟩
  rw [hT]
  have HT := Lib.hid hT; have HH := Lib.hid hH; have HN := Lib.hid hn
  clear hT hH hn
  go_enter Tryd.func37, Tryd.ntmps37
  go_wp2_with fail
  go_loop [0] (fun v => ∃ k : Nat, k ≤ n ∧ v = .slice ad k cap ∧ Hid (trimD (l.take k) = T)) (fun v => slen v)
  case atStart => exact ⟨n, Nat.le_refl _, rfl, (by rw [List.take_of_length_le (by rw [HN.out]; omega)]; exact HT.out : trimD (l.take n) = T)⟩
  case round =>
    obtain ⟨k, hk, rfl, ht⟩ := hrel
    by_cases h0 : k = 0
    · subst h0
      have hTn : 0 = T.length := by rw [← ht.out]; rfl
      have HTN := Lib.hid hTn
      have hz : ¬ (0 : Int) < ((0 : Nat) : Int) := by omega
      clear hTn
      go_wp2_with fail
      go_ret
      exact ⟨ret_slice HTN.out, rfl⟩
    · obtain ⟨j, rfl⟩ : ∃ j, k = j + 1 := ⟨k - 1, by omega⟩
      have hjl : j < l.length := by rw [HN.out]; omega
      obtain ⟨g, o, rfl, hg, hs⟩ := HH.out.at (by omega)
      have hcell := hs j hjl
      have hz := trim_step_zero l j hjl
      have hst := trim_step_stop hd j hjl
      have hlen : (l.take (j + 1)).length = j + 1 := by rw [List.length_take]; omega
      obtain ⟨x, hx⟩ : ∃ x, l.getD j 0 = x := ⟨_, rfl⟩
      rw [hx] at hcell hz hst
      have hpos : (0 : Int) < ((j + 1 : Nat) : Int) := by omega
      have hsl := fun w => sliceI_lo g o (j + 1) cap j (by omega) w
      have HZ := Lib.hid hz; have HST := Lib.hid hst; have HLN := Lib.hid hlen
      clear hz hst hlen hx hs hjl h0
      by_cases hx0 : x = 0
      · have e1 : ((x : Int) == 0) = true := by rw [beq_iff_eq]; omega
        have HX := Lib.hid hx0
        clear hx0
        go_wp2_with fail
        go_round
        case rel => exact ⟨j, by omega, rfl, (by rw [← HZ.out HX.out]; exact ht.out : trimD (l.take j) = T)⟩
        case measure => simp [slen]
      · have e1 : ((x : Int) == 0) = false := by rw [beq_eq_false_iff_ne]; omega
        have hTn : j + 1 = T.length := by rw [← ht.out, HST.out hx0]; exact HLN.out.symm
        have HTN := Lib.hid hTn
        have e2 : 0 < x := by omega
        clear hx0 hTn
        go_wp2_with fail
        go_ret
        exact ⟨ret_slice HTN.out, rfl⟩
theorem dr2 (w : World) (a b c : Nat) : ∃ k, ((w.drewN a).drewN b).drewN c = w.drewN k := ⟨a + (b + c), by rw [World.drewN_drewN, World.drewN_drewN]⟩
/-- A list of digits is returned, in a block that was made since. -/
def IntsPost (w : World) (l : List Nat) (e : Ending) (w' : World) : Prop := ∃ ad cap, e = .returned (.slice ad l.length cap) ∧ HoldI w' ad cap l ∧ Below w.heap.size w w' ∧ ∀ p, ad = some p → w.heap.size ≤ p.block
theorem own_hold {W : World} {base : Nat} {v : Value} {p : List Nat} (h : OwnI W base v p) (n : Nat) (hn : p.length = n) (hl : n ≤ 1099511627776) : ∃ ad cap, v = .slice ad n cap ∧ HoldI W ad cap p ∧ ∀ q, ad = some q → base ≤ q.block := by
  by_cases h0 : 0 < n
  · obtain ⟨g, cap, hv, hc, hb, hg, hs, _⟩ := h.form n hn h0
    refine ⟨_, cap, hv, ⟨by omega, by omega, .inr ⟨g, 0, rfl, hg, hs⟩⟩, ?_⟩
    intro q hq
    cases hq
    exact hb
  · have hp : p = [] := List.eq_nil_of_length_eq_zero (by omega)
    subst hp
    obtain rfl : n = 0 := by omega
    obtain ⟨_, ⟨rfl, _⟩ | ⟨g, cap, cur, rfl, hb, hh, _⟩⟩ := h
    · exact ⟨none, 0, rfl, HoldI.nil _ _ _, fun q hq => by cases hq⟩
    · exact ⟨_, cap, rfl, HoldI.nil _ _ _, fun q hq => by cases hq; exact hb⟩
theorem ints_of_own {w w' : World} {v : Value} {l : List Nat} (h : OwnI w' w.heap.size v l) (hb : Below w.heap.size w w') (hl : l.length ≤ 1099511627776) : IntsPost w l (.returned v) w' := by
  obtain ⟨ad, cap, rfl, hh, hn⟩ := own_hold h l.length rfl hl
  exact ⟨ad, cap, rfl, hh, hb, hn⟩
/-- A block that holds digits. -/
def IsI (W : World) (g : Nat) (l : List Nat) : Prop := W.heap[g]? = some (.cells (numVals .i64 l).toArray 3 (0, 0))
theorem IsI.cell {W : World} {g : Nat} {l : List Nat} (h : IsI W g l) (i : Nat) (hi : i < l.length) : W.cell? ⟨g, i, none⟩ = some (.int .i64 ((l.getD i 0 : Nat) : Int)) := by
  rw [cell_of_row W g i _ _ _ h]
  simp [numVals, hi]
theorem IsI.frozen {W : World} {g : Nat} {l : List Nat} (h : IsI W g l) (i : Nat) : W.frozen? ⟨g, i, none⟩ = false := frozen_of_row W g i _ _ h
theorem IsI.store {W : World} {g : Nat} {l : List Nat} (h : IsI W g l) (i v : Nat) (x : Int) (hx : x = (v : Nat)) : IsI (W.setCell ⟨g, i, none⟩ (.int .i64 x)) g (l.set i v) := by
  subst hx
  unfold IsI
  have e : (numVals .i64 (l.set i v)).toArray = (numVals .i64 l).toArray.setIfInBounds i (.int .i64 ((v : Nat) : Int)) := by simp [numVals, List.map_set]
  rw [e]
  exact heap_setCell_same W g i _ 3 _ h
theorem IsI.drewN {W : World} {g : Nat} {l : List Nat} (h : IsI W g l) (n : Nat) : IsI (W.drewN n) g l := by unfold IsI; rw [World.heap_drewN]; exact h
theorem IsI.below {n : Nat} {W W' : World} {g : Nat} {l : List Nat} (h : IsI W g l) (hb : Below n W W') (hg : g < n) : IsI W' g l := (hb.block g hg).trans h
theorem IsI.holds {W : World} {g : Nat} {l : List Nat} (h : IsI W g l) (hl : l.length ≤ 1099511627776) : HoldI W (some ⟨g, 0, none⟩) l.length l := by
  refine ⟨Nat.le_refl _, hl, .inr ⟨g, 0, rfl, ?_, fun j hj => by rw [Nat.zero_add]; exact h.cell j hj⟩⟩
  rcases Nat.lt_or_ge g W.heap.size with h1 | h1
  · exact h1
  · unfold IsI at h; rw [Array.getElem?_eq_none h1] at h; cases h
theorem made_zeros (n : Nat) : madeCells (Value.int .i64 0).cells (n * 1) = (numVals .i64 (List.replicate n 0)).toArray := by
  apply Array.ext
  · rw [size_madeCells]; simp [numVals]
  · intro i h1 h2
    simp [madeCells, numVals, Value.cells, Nat.mod_one]
theorem make_ints (n : Nat) (hn : n ≤ 1000000) (W : World) (z : Int) (hz : z = (n : Nat)) :
    (Instr.makeSlice 48 (.int .i64 z) (.int .i64 z)).run Tryd.prog W = .ok (.slice (some ⟨W.heap.size, 0, none⟩) n n) (W.alloc (.cells (numVals .i64 (List.replicate n 0)).toArray 3)) := by
  subst hz
  obtain ⟨i0, hi, hz0, hz1, hz2⟩ := info_parts info_i64
  have h := run_make (P := Tryd.prog) W 48 3 i0 (.int .i64 0) Tryd.underlying48 hi hz0 .i64 .i64 (n : Int) (n : Int) (by omega) (by omega) (by rw [hz2]; omega) (by omega)
  rw [hz1, Int.toNat_natCast, made_zeros] at h
  exact h
theorem IsI.lt {W : World} {g : Nat} {l : List Nat} (h : IsI W g l) : g < W.heap.size := by
  rcases Nat.lt_or_ge g W.heap.size with h1 | h1
  · exact h1
  · unfold IsI at h; rw [Array.getElem?_eq_none h1] at h; cases h
end Go.Proofs.YtildgpahacaglaaDoor
