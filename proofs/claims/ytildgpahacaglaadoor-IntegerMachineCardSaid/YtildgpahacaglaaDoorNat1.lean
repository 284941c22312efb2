/-
  The contracts of package integer's naturals: trimmed, followed.
-/
import Derived.Test.YtildgpahacaglaaDoorHold
import Derived.Test.YtildgpahacaglaaDoorGrp2
import Derived.Laws.CopyOwn
namespace Go.Proofs.YtildgpahacaglaaDoor
open Go Go.Proofs Go.RowKit Go.Lib

/-! ### The type natural -/
theorem nat_elem : Tryd.prog.underlying 49 = some (.slice (Tryd.prog.elem 49)) := by kernel_rfl
set_option maxRecDepth 100000 in
theorem nat_size (w : World) : (Go.sizeOf (Tryd.prog.elem 49)).run Tryd.prog w = .ok 1 w := by kernel_rfl
set_option maxRecDepth 100000 in
theorem atN (g o n c i : Nat) (z : Int) (hz : z = (i : Nat)) (hi : i < n) (w : World) :
    (Instr.indexAt 49 (.slice (some ⟨g, o, none⟩) n c) (.int .i64 z)).run Tryd.prog w = .ok (.pointer (some ⟨g, o + i, none⟩)) w := by
  subst hz
  rw [run_indexAt_slice w 49 _ _ _ _ _ Tryd.underlying49, if_pos (by omega)]
  simp [nat_size, add_at, Result.andThen]
theorem add0 (p : Addr) : p.add 0 = p := by
  obtain ⟨b, o, q⟩ := p
  unfold Addr.add
  split <;> simp_all
theorem sliceN_to (ad : Option Addr) (n c k : Nat) (z : Int) (hz : z = (k : Nat)) (hk : k ≤ c) (w : World) :
    (Instr.slice 49 (.slice ad n c) none (some (.int .i64 z)) none).run Tryd.prog w = .ok (.slice ad k c) w := by
  subst hz
  rw [run_slice_h w _ _ _ _ nat_elem .i64 _ (by omega) (by omega), nat_size]
  simp only [Result.andThen, sliced]
  have e : (ad.map fun x => x.add (0 * 1)) = ad := by cases ad <;> simp [add0]
  rw [e]
  simp
theorem sliceN_from (ad : Option Addr) (n c k : Nat) (z : Int) (hz : z = (k : Nat)) (hk : k ≤ n) (hc : n ≤ c) :
    ∃ ad', (∀ w, (Instr.slice 49 (.slice ad n c) (some (.int .i64 z)) none none).run Tryd.prog w = .ok (.slice ad' (n - k) (c - k)) w) ∧
      (∀ W l, l.length = n → HoldI W ad c l → HoldI W ad' (c - k) (l.drop k)) ∧ (k < c → ∀ g o, ad = some ⟨g, o, none⟩ → ad' = some ⟨g, o + k, none⟩) := by
  subst hz
  refine ⟨if c = k then ad else ad.map (·.add k), ?_, ?_, ?_⟩
  · intro w
    rw [run_slice_l w _ _ _ _ nat_elem .i64 _ (by omega) (by omega), nat_size]
    simp [Result.andThen, sliced]
  · rintro W l hl ⟨h1, h2, h3⟩
    refine ⟨by rw [List.length_drop]; omega, by rw [List.length_drop]; omega, ?_⟩
    by_cases hkn : k = n
    · left; rw [List.drop_of_length_le (by omega)]
    · rw [if_neg (by omega)]
      rcases h3 with rfl | ⟨g, o, rfl, hg, hs⟩
      · left; simp
      · right
        refine ⟨g, o + k, by simp [add_at], hg, ?_⟩
        intro j hj
        rw [List.length_drop] at hj
        have := hs (k + j) (by omega)
        rw [← Nat.add_assoc] at this
        rw [this]
        congr 3
        simp [List.getD_eq_getElem?_getD]
  · rintro hkc g o rfl
    rw [if_neg (by omega)]
    simp [add_at]
theorem make_nat (n : Nat) (hn : n ≤ 1000000) (W : World) (z : Int) (hz : z = (n : Nat)) :
    (Instr.makeSlice 49 (.int .i64 z) (.int .i64 z)).run Tryd.prog W = .ok (.slice (some ⟨W.heap.size, 0, none⟩) n n) (W.alloc (.cells (numVals .i64 (List.replicate n 0)).toArray 3)) := by
  subst hz
  obtain ⟨i0, hi, hz0, hz1, hz2⟩ := info_parts info_i64
  have h := run_make (P := Tryd.prog) W 49 3 i0 (.int .i64 0) Tryd.underlying49 hi hz0 .i64 .i64 (n : Int) (n : Int) (by omega) (by omega) (by rw [hz2]; omega) (by omega)
  rw [hz1, Int.toNat_natCast, made_zeros] at h
  exact h

/-- A natural is returned. -/
def NatPost (w : World) (n : Nat) (e : Ending) (w' : World) : Prop := ∃ ad cap m, e = .returned (.slice ad m cap) ∧ (grps n).length = m ∧ HoldI w' ad cap (grps n) ∧ Below w.heap.size w w'
theorem NatPost.on {w w1 w' : World} {n : Nat} {e : Ending} (h : NatPost w1 n e w') (hb : Below w.heap.size w w1) : NatPost w n e w' := by
  obtain ⟨ad, cap, m, h1, h2, h3, h4⟩ := h
  exact ⟨ad, cap, m, h1, h2, h3, hb.trans (h4.mono hb.size)⟩
/-- A natural is returned, in a block that was made since. -/
def NatNew (w : World) (n : Nat) (e : Ending) (w' : World) : Prop := ∃ g o cap m, e = .returned (.slice (some ⟨g, o, none⟩) m cap) ∧ (grps n).length = m ∧ HoldI w' (some ⟨g, o, none⟩) cap (grps n) ∧ Below w.heap.size w w' ∧ w.heap.size ≤ g
theorem NatNew.post {w : World} {n : Nat} (e : Ending) (w' : World) (h : NatNew w n e w') : NatPost w n e w' := by
  obtain ⟨g, o, cap, m, h1, h2, h3, h4, _⟩ := h
  exact ⟨_, cap, m, h1, h2, h3, h4⟩
/-- A natural lies here. -/
def NatAt (W : World) (ad : Option Addr) (m cap n : Nat) : Prop := (grps n).length = m ∧ HoldI W ad cap (grps n)
theorem NatAt.below {W W' : World} {ad : Option Addr} {m cap n : Nat} (h : NatAt W ad m cap n) {k : Nat} (hb : Below k W W') (hk : W.heap.size ≤ k) : NatAt W' ad m cap n := ⟨h.1, h.2.below hb hk⟩

set_option maxRecDepth 100000 in
set_option maxHeartbeats 2000000 in
theorem trimmed_any3 (l : List Nat) (hd : IsGrp l) (ad : Option Addr) (cap : Nat) (w : World) (hH : HoldI w ad cap l) (n : Nat) (hn : l.length = n) :
    Calls Tryd.prog 67 #[.slice ad n cap] w fun e w' => e = .returned (.slice ad (trimG l).length cap) ∧ w = w' := by
  have h40 : n ≤ 1099511627776 := by have := hH.2.1; omega
  have hcn : n ≤ cap := by have := hH.1; omega
  obtain ⟨T, hT⟩ : ∃ T, trimG l = T := ⟨_, rfl⟩
  rw [hT]
  have HT := Lib.hid hT; have HH := Lib.hid hH; have HN := Lib.hid hn
  clear hT hH hn
  go_enter Tryd.func67, Tryd.ntmps67
  go_wp2_with fail
  go_loop [3] (fun v => ∃ k : Nat, k ≤ n ∧ v = .int .i64 k ∧ Hid (trimG (l.take k) = T)) (fun v => (RowKit.intOf v).toNat)
  case atStart => exact ⟨n, Nat.le_refl _, rfl, (by rw [List.take_of_length_le (by rw [HN.out]; omega)]; exact HT.out : trimG (l.take n) = T)⟩
  case round =>
    obtain ⟨k, hk, rfl, ht⟩ := hrel
    have hsl := fun w => sliceN_to ad n cap k (k : Int) rfl (by omega) w
    by_cases h0 : k = 0
    · subst h0
      have hTn : 0 = T.length := by rw [← ht.out]; rfl
      have HTN := Lib.hid hTn
      have hz : ¬ (0 : Int) < ((0 : Nat) : Int) := by omega
      clear hTn
      go_wp2_with fail
      go_ret
      exact ⟨ret_slice HTN.out, rfl⟩
    · obtain ⟨j, rfl⟩ : ∃ j, k = j + 1 := ⟨k - 1, by omega⟩
      have hjl : j < l.length := by rw [HN.out]; omega
      obtain ⟨g, o, rfl, hg, hs⟩ := HH.out.at (by omega)
      have hcell := hs j hjl
      have hz := trimG_step_zero l j hjl
      have hst := trimG_step_stop hd j hjl
      have hlen : (l.take (j + 1)).length = j + 1 := by rw [List.length_take]; omega
      obtain ⟨x, hx⟩ : ∃ x, l.getD j 0 = x := ⟨_, rfl⟩
      rw [hx] at hcell hz hst
      have hpos : (0 : Int) < ((j + 1 : Nat) : Int) := by omega
      have hix := fun w => atN g o n cap j (((j + 1 : Nat) : Int) - 1) (by omega) (by omega) w
      have HZ := Lib.hid hz; have HST := Lib.hid hst; have HLN := Lib.hid hlen
      clear hz hst hlen hx hs hjl h0
      by_cases hx0 : x = 0
      · have e1 : ((x : Int) == 0) = true := by rw [beq_iff_eq]; omega
        have HX := Lib.hid hx0
        clear hx0
        go_wp2_with fail
        go_round
        case rel => exact ⟨j, by omega, by go_num, (by rw [← HZ.out HX.out]; exact ht.out : trimG (l.take j) = T)⟩
        case measure => simp [RowKit.intOf]
      · have e1 : ((x : Int) == 0) = false := by rw [beq_eq_false_iff_ne]; omega
        have hTn : j + 1 = T.length := by rw [← ht.out, HST.out hx0]; exact HLN.out.symm
        have HTN := Lib.hid hTn
        have e2 : 0 < x := by omega
        clear hx0 hTn
        go_wp2_with fail
        go_ret
        exact ⟨ret_slice HTN.out, rfl⟩
end Go.Proofs.YtildgpahacaglaaDoor
