/-
  Layer 8: what ClockShifted asks, plain: shifted times, a further believed agent, one event fewer.
-/
import Derived.Test.YtamefmojocegkaaDoorK08
namespace Go.Proofs.YtamefmojocegkaaDoor
open Go Go.Proofs Go.RowKit Go.Lib

/-! ### shifted times -/
theorem sh_shift (dr d s t e : Int) : shB dr d (s + e) (t + e) = shB dr d s t := by
  unfold shB
  rw [show t + e - (s + e) = t - s by omega, show decide (t + e < s + e) = decide (t < s) from decide_eq_decide.2 (by omega)]
theorem xD_shift {x : List Int} {e : Int} {i : Nat} (h : i < x.length) : xD (x.map (· + e)) i = xD x i + e := by
  rw [xD_of (by simpa using h), xD_of h]
  simp
theorem ag_shift1 {f : Fl} {l : List Ev} {x : List Int} {e m : Int} (hx : timesB l.length x = true) (hy : timesB l.length (x.map (· + e)) = true) : AgOk f l (x.map (· + e)) m ↔ AgOk f l x m := by
  have hl := (timesB_of hx).2
  have key : ∀ i j, i < l.length → j < l.length → (PairOk f l (x.map (· + e)) m i j ↔ PairOk f l x m i j) := fun i j hi hj => by
    unfold PairOk
    rw [xD_shift (by omega), xD_shift (by omega), sh_shift, show xD x j + e - (xD x i + e) = xD x j - xD x i by omega]
  unfold AgOk
  constructor
  · rintro ⟨h1, _, h3⟩
    exact ⟨h1, hx, fun i j hi hj => (key i j hi hj).1 (h3 i j hi hj)⟩
  · rintro ⟨h1, _, h3⟩
    exact ⟨h1, hy, fun i j hi hj => (key i j hi hj).2 (h3 i j hi hj)⟩
theorem ag_shift {f : Fl} {l : List Ev} {x : List Int} {e : Int} (hx : timesB l.length x = true) (hy : timesB l.length (x.map (· + e)) = true) (m : Int) : agB f l (x.map (· + e)) m = agB f l x m := by
  rw [Bool.eq_iff_iff]
  exact ⟨fun h => agB_yes ((ag_shift1 hx hy).1 (of_agB h)), fun h => agB_yes ((ag_shift1 hx hy).2 (of_agB h))⟩
theorem times_shift {x : List Int} {k : Nat} (hk : k = x.length) (hb : ∀ i, -200000000000 ≤ x.getD i 0 ∧ x.getD i 0 ≤ 200000000000) {e : Int} (e0 : -1000000 ≤ e) (e1 : e ≤ 1000000) : timesB k (x.map (· + e)) = true := by
  unfold timesB
  rw [Bool.and_eq_true]
  refine ⟨?_, by rw [List.length_map, hk]; simp⟩
  rw [List.all_eq_true]
  intro v hv
  obtain ⟨u, hu, rfl⟩ := List.mem_map.1 hv
  obtain ⟨i, hi, rfl⟩ := List.getElem_of_mem hu
  have := hb i
  rw [List.getD_eq_getElem?_getD, List.getElem?_eq_getElem hi] at this
  have : -200000000000 ≤ x[i] ∧ x[i] ≤ 200000000000 := this
  exact inB_yes (by omega) (by omega)
/-! ### a further believed agent -/
theorem bel_or0 : ∀ m : Fin 64, ∀ q : Fin 6, ∀ a : Fin 6, belB (m.val : Int) (a.val : Int) = true → belB (bits .or .i64 (m.val : Int) ((2 : Int) ^ q.val)) (a.val : Int) = true := by decide +kernel
theorem bel_or {m : Int} (m0 : 0 ≤ m) (m1 : m < 64) {q : Nat} (hq : q < 6) {a : Int} (a0 : 0 ≤ a) (a1 : a ≤ 5) (h : belB m a = true) : belB (bits .or .i64 m ((2 : Int) ^ q)) a = true := by
  obtain ⟨m', rfl⟩ := Int.eq_ofNat_of_zero_le m0
  obtain ⟨a', rfl⟩ := Int.eq_ofNat_of_zero_le a0
  exact bel_or0 ⟨m', by omega⟩ ⟨q, hq⟩ ⟨a', by omega⟩ h
theorem ag_more {f : Fl} {l : List Ev} {x : List Int} {m : Int} (m0 : 0 ≤ m) (m1 : m < 64) {q : Nat} (hq : q < 6) (h : agB f l x (bits .or .i64 m ((2 : Int) ^ q)) = true) : agB f l x m = true := by
  obtain ⟨h1, h2, h3⟩ := of_agB h
  have he := of_evsB h1
  refine agB_yes ⟨h1, h2, fun i j hi hj => ?_⟩
  have hp := h3 i j hi hj
  have gi := good_ag (ev_good he hi)
  have gj := good_ag (ev_good he hj)
  unfold PairOk at hp ⊢
  rcases hp with h | h | h | h
  · exact .inl h
  · refine .inr (.inl ?_)
    cases hb : belB m (evD l i).ag with
    | false => rfl
    | true => rw [bel_or m0 m1 hq gi.1 gi.2 hb] at h; cases h
  · refine .inr (.inr (.inl ?_))
    cases hb : belB m (evD l j).ag with
    | false => rfl
    | true => rw [bel_or m0 m1 hq gj.1 gj.2 hb] at h; cases h
  · exact .inr (.inr (.inr h))
/-! ### one event fewer -/
def cutK {α : Type} (l : List α) (k : Nat) : List α := l.take k ++ l.drop (k + 1)
def skipK (k i : Nat) : Nat := if i < k then i else i + 1
theorem cutK_len {α : Type} (l : List α) (k : Nat) (h : k < l.length) : (cutK l k).length = l.length - 1 := by
  unfold cutK
  rw [List.length_append, List.length_take, List.length_drop]
  omega
theorem cutK_get {α : Type} (l : List α) (k : Nat) (h : k < l.length) (i : Nat) : (cutK l k)[i]? = l[skipK k i]? := by
  unfold cutK skipK
  split
  · rename_i hi
    rw [List.getElem?_append_left (by rw [List.length_take]; omega), List.getElem?_take_of_lt hi]
  · rename_i hi
    rw [List.getElem?_append_right (by rw [List.length_take]; omega), List.getElem?_drop, List.length_take, show k + 1 + (i - min k l.length) = i + 1 by omega]
theorem evD_get (l : List Ev) (i j : Nat) (l' : List Ev) (h : l'[i]? = l[j]?) : evD l' i = evD l j := by
  unfold evD
  rw [List.getD_eq_getElem?_getD, List.getD_eq_getElem?_getD, h]
theorem evD_cut {l : List Ev} {k : Nat} (h : k < l.length) (i : Nat) : evD (cutK l k) i = evD l (skipK k i) := evD_get _ _ _ _ (cutK_get l k h i)
theorem xD_cut {x : List Int} {k : Nat} (h : k < x.length) (i : Nat) : xD (cutK x k) i = xD x (skipK k i) := by
  unfold xD
  rw [List.getD_eq_getElem?_getD, List.getD_eq_getElem?_getD, cutK_get x k h]
theorem cut_evs {f : Fl} {l : List Ev} (h : EvsOk f l) {k : Nat} (hk : k < l.length) : EvsOk f (cutK l k) := by
  have hl := cutK_len l k hk
  refine ⟨h.1, by have := h.2.1; omega, fun i hi => ?_⟩
  have hs : skipK k i < l.length := by unfold skipK; split <;> omega
  have hz : skipK k 0 < l.length := by unfold skipK; split <;> omega
  obtain ⟨s1, s2, s3, s4, _⟩ := h.2.2 _ hs
  obtain ⟨_, _, z3, _, _⟩ := h.2.2 _ hz
  unfold StepOk
  rw [evD_cut hk, evD_cut hk, evD_cut hk]
  refine ⟨s1, s2, by rw [s3, z3], s4, fun h0 => ?_⟩
  have hlt : skipK k (i - 1) < skipK k i := by unfold skipK; split <;> split <;> omega
  have := evs_sorted h _ hs _ hlt
  omega
theorem cut_times {n : Nat} {x : List Int} (h : timesB n x = true) {k : Nat} (hk : k < n) : timesB (n - 1) (cutK x k) = true := by
  have hl := (timesB_of h).2
  unfold timesB at h ⊢
  rw [Bool.and_eq_true, List.all_eq_true] at h ⊢
  refine ⟨fun v hv => h.1 v ?_, by rw [cutK_len x k (by omega), hl]; simp⟩
  unfold cutK at hv
  rcases List.mem_append.1 hv with hv | hv
  · exact List.mem_of_mem_take hv
  · exact List.mem_of_mem_drop hv
theorem ag_fewer {f : Fl} {l : List Ev} {x : List Int} {m : Int} {k : Nat} (hk : k < l.length) (h : agB f l x m = true) : agB f (cutK l k) (cutK x k) m = true := by
  obtain ⟨h1, h2, h3⟩ := of_agB h
  have he := of_evsB h1
  have hxl := (timesB_of h2).2
  refine agB_yes ⟨evsB_yes (cut_evs he hk), by rw [cutK_len l k hk]; exact cut_times h2 hk, fun i j hi hj => ?_⟩
  rw [cutK_len l k hk] at hi hj
  have hsi : skipK k i < l.length := by unfold skipK; split <;> omega
  have hsj : skipK k j < l.length := by unfold skipK; split <;> omega
  have hp := h3 _ _ hsi hsj
  unfold PairOk at hp ⊢
  rw [evD_cut hk, evD_cut hk, xD_cut (by omega), xD_cut (by omega)]
  rcases hp with h | h | h | h
  · refine .inl ?_
    unfold skipK at h
    split at h <;> split at h <;> omega
  · exact .inr (.inl h)
  · exact .inr (.inr (.inl h))
  · refine .inr (.inr (.inr ⟨fun e hij => h.1 e ?_, h.2⟩))
    unfold skipK
    split <;> split <;> omega
end Go.Proofs.YtamefmojocegkaaDoor
