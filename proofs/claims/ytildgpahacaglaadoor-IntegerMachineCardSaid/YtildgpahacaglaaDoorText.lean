/-
  The contracts of the reference's text, checked and Made.
-/
import Derived.Test.YtildgpahacaglaaDoorHold
import Derived.Test.YtildgpahacaglaaDoorDefs3
import Derived.Lib.ConvBytes
import Derived.Lib.SlBytesRow
namespace Go.Proofs.YtildgpahacaglaaDoor
open Go Go.Proofs Go.RowKit Go.Lib

theorem nums_bytes {W : World} {g : Nat} {L : List Nat} (h : NumsAt .u8 W g 0 L) (hL : ∀ x ∈ L, x < 256) : Bytes W g 0 (byteL L) := by
  intro i hi
  have hi2 : i < L.length := by rwa [byteL_size] at hi
  rw [h i hi2, byteL_get L hL i hi]
/-- The text's bytes after the digits from k on. -/
def digPart (l : List Nat) (k : Nat) : List Nat := (l.drop k).reverse.map (48 + ·)
theorem digPart_end (l : List Nat) : digPart l l.length = [] := by unfold digPart; simp
theorem digPart_step (l : List Nat) (j : Nat) (h : j < l.length) : digPart l j = digPart l (j + 1) ++ [48 + l.getD j 0] := by
  unfold digPart
  rw [List.drop_eq_getElem_cons h, List.reverse_cons, List.map_append]
  simp only [List.map_cons, List.map_nil, List.getD_eq_getElem?_getD, List.getElem?_eq_getElem h, Option.getD_some]
theorem digPart_length (l : List Nat) (k : Nat) : (digPart l k).length ≤ l.length := by unfold digPart; simp
theorem text_zero (neg : Bool) : textI (intD neg 0) = ⟨#[48]⟩ := by cases neg <;> rfl
theorem text_pos (neg : Bool) {n : Nat} (h : n ≠ 0) : textI (intD neg n) = byteL ((if neg then [45] else []) ++ digPart (digs n) 0) := by
  unfold textI
  rw [intD_abs]
  have h1 : textN n = digPart (digs n) 0 := by unfold textN digPart; rw [if_neg h]; rfl
  rw [h1]
  cases neg with
  | false =>
    rw [if_neg (by unfold intD; simp), if_neg (by simp)]
  | true =>
    rw [if_pos (by unfold intD; simp; omega), if_pos rfl]

set_option maxRecDepth 100000 in
set_option maxHeartbeats 8000000 in
theorem text_any (neg : Bool) (n : Nat) (ad : Option Addr) (cap m : Nat) (w : World) (h : HoldI w ad cap (digs n)) (hm : (digs n).length = m) :
    Calls Tryd.prog 36 #[.bool neg, .slice ad m cap] w fun e w' => e = .returned (.tuple #[.string (textI (intD neg n)), .bool (decide (m ≤ 200))]) ∧ Below w.heap.size w w' := by
  by_cases hn : n = 0
  · subst hn
    obtain rfl : m = 0 := hm.symm
    have ht := text_zero neg
    have HT := Lib.hid ht
    have hdt : decide (0 ≤ 200) = true := by decide
    rw [ht]
    clear h ht
    go_enter Tryd.func36, Tryd.ntmps36
    go_wp2_with fail
    go_ret2
    exact ⟨rfl, Below.refl _ _⟩
  · have ht := text_pos neg hn
    have hm0 : 0 < m := by rw [← hm, digs_pos hn]; simp
    have hd := digs_lt n
    obtain ⟨R, hR⟩ : ∃ R, textI (intD neg n) = R := ⟨_, rfl⟩
    rw [hR] at ht ⊢
    obtain ⟨l, hl⟩ : ∃ l, digs n = l := ⟨_, rfl⟩
    rw [hl] at ht h hm hd
    have hm40 : m ≤ 1099511627776 := by have := h.2.1; omega
    obtain ⟨g, o, rfl, hg, hs⟩ := h.at (by omega)
    have hz : ((m : Int) == 0) = false := by rw [beq_eq_false_iff_ne]; omega
    obtain ⟨pre, hpre⟩ : ∃ pre, (if neg then [45] else []) = pre := ⟨_, rfl⟩
    have hprel : pre.length ≤ 1 := by rw [← hpre]; cases neg <;> simp
    have hpreb : ∀ x ∈ pre, x < 256 := by rw [← hpre]; cases neg <;> simp
    rw [hpre] at ht
    have HT := Lib.hid ht; have HS := Lib.hid hs; have HM := Lib.hid hm; have HPB := Lib.hid hpreb; have HD := Lib.hid hd
    clear ht hs hm h hl hR hpreb hd hn
    cases neg with
    | false =>
      have hp0 : pre = [] := by rw [← hpre]; rfl
      subst hp0
      clear hpre
      go_enter Tryd.func36, Tryd.ntmps36
      go_wp2_with fail
      go_loopw [6, 7] (fun v i wr => ∃ k : Nat, k ≤ m ∧ i = .int .i64 ((k : Int) - 1) ∧ Hid (Own8 wr w.heap.size v ([] ++ digPart l k)) ∧ Hid (Below w.heap.size w wr)) (fun _ i _ => (RowKit.intOf i + 1).toNat)
      case atStart => exact ⟨m, Nat.le_refl _, rfl, (by rw [← HM.out, digPart_end]; exact Own8.nil _ _ : Own8 w w.heap.size _ ([] ++ digPart l m)), Below.refl _ _⟩
      case round =>
        obtain ⟨k, hk, rfl, hown, hbr⟩ := hrel
        by_cases hk0 : k = 0
        · subst hk0
          have hneg : ¬ (0 : Int) ≤ ((0 : Nat) : Int) - 1 := by omega
          have hll := digPart_length l 0
          rw [HM.out] at hll
          have hb256 : ∀ x ∈ ([] : List Nat) ++ digPart l 0, x < 256 := by
            intro x hx
            rcases List.mem_append.1 hx with h | h
            · exact HPB.out x h
            · unfold digPart at h
              rw [List.mem_map] at h
              obtain ⟨d, hd, rfl⟩ := h
              have := HD.out d (List.mem_of_mem_drop (List.mem_reverse.1 hd))
              omega
          have hne : 0 < (([] : List Nat) ++ digPart l 0).length := by rw [List.length_append]; unfold digPart; simp; rw [HM.out]; omega
          obtain ⟨L, hL⟩ : ∃ L, ([] : List Nat) ++ digPart l 0 = L := ⟨_, rfl⟩
          rw [hL] at hown hb256 hne
          have hLl : L.length ≤ 1099511627777 := by rw [← hL, List.length_append]; simp; omega
          obtain ⟨q, hq⟩ : ∃ q, L.length = q := ⟨_, rfl⟩
          obtain ⟨g2, cap2, rfl, _, _, _, hn2, _⟩ := hown.out.form q hq (by omega)
          have hconv := run_convert_whole (P := Tryd.prog) wr 72 5 9 Tryd.underlying72 Tryd.underlying5 Tryd.underlying9 g2 0 (byteL L) (nums_bytes hn2 hb256) cap2
          rw [byteL_size, hq] at hconv
          have hRL : R = byteL L := by rw [HT.out, hL]
          rw [← hRL] at hconv
          have hle : decide ((m : Int) ≤ 200) = decide (m ≤ 200) := by rw [decide_eq_decide]; omega
          have HLE := Lib.hid hle
          clear hll hb256 hne hL hown hn2 hRL hq hLl hle
          go_wp2_with fail
          go_ret2
          exact ⟨by simp; omega, hbr.out⟩
        · obtain ⟨j, rfl⟩ : ∃ j, k = j + 1 := ⟨k - 1, by omega⟩
          have hj : (((j + 1 : Nat) : Int) - 1) = (j : Int) := by omega
          rw [hj]
          have hj0 : (0 : Int) ≤ (j : Int) := by omega
          have hj1 : (j : Int) < (m : Int) := by omega
          have jl : j < l.length := by rw [HM.out]; omega
          have cc := (HS.out.below hbr.out hg) j jl
          have hstep := digPart_step l j jl
          have hx10 := getD_dig HD.out j
          have j1 := fun w => atI g o m cap j (j : Int) rfl (by omega) w
          have hsize := hbr.out.size
          have hll := digPart_length l (j + 1)
          rw [HM.out] at hll
          obtain ⟨x, hx⟩ : ∃ x, l.getD j 0 = x := ⟨_, rfl⟩
          rw [hx] at cc hstep hx10
          obtain ⟨D, hD⟩ : ∃ D, digPart l (j + 1) = D := ⟨_, rfl⟩
          rw [hD] at hown hstep hll
          have hql : (([] : List Nat) ++ D).length + 1 ≤ 17592186044416 := by rw [List.length_append]; simp; omega
          have hx10' : (x : Int) < 10 := by omega
          have HSTEP := Lib.hid hstep
          clear hstep hx hD jl hk0
          go_wp2_with (first | (at_builtin; refine walk_push8 (w0 := w) rfl _ _ rfl w.heap.size _ (([] : List Nat) ++ D) [48 + x] rfl (hown.out.alloc _) (hbr.out.alloc hsize _) (Nat.le_trans hsize (by simp)) wr.heap.size 0 1 1 rfl rfl (new_num1 .u8 wr _ (48 + x) (by go_num) _) hql ?_; intro v3 W3 ho3 hb3))
          go_roundw
          case rel => exact ⟨j, by omega, by go_num, by rw [HSTEP.out, ← List.append_assoc]; exact ho3, hb3⟩
          case measure => simp [RowKit.intOf]
    | true =>
      have hp0 : pre = [45] := by rw [← hpre]; rfl
      subst hp0
      clear hpre
      go_enter Tryd.func36, Tryd.ntmps36
      go_wp2_with (first | (at_builtin; refine walk_push8 (w0 := w) rfl _ _ rfl w.heap.size _ [] [45] rfl (Own8.nil _ _) ((Below.refl w.heap.size w).alloc (Nat.le_refl _) _) (by simp) w.heap.size 0 1 1 rfl rfl (new_num1 .u8 w _ 45 rfl _) (by simp) ?_; intro v0 W0 ho0 hb0))
      go_loopw [6, 7] (fun v i wr => ∃ k : Nat, k ≤ m ∧ i = .int .i64 ((k : Int) - 1) ∧ Hid (Own8 wr w.heap.size v ([45] ++ digPart l k)) ∧ Hid (Below w.heap.size w wr)) (fun _ i _ => (RowKit.intOf i + 1).toNat)
      case atStart => exact ⟨m, Nat.le_refl _, rfl, (by rw [← HM.out, digPart_end]; exact ho0 : Own8 W0 w.heap.size _ ([45] ++ digPart l m)), hb0⟩
      case round =>
        obtain ⟨k, hk, rfl, hown, hbr⟩ := hrel
        by_cases hk0 : k = 0
        · subst hk0
          have hneg : ¬ (0 : Int) ≤ ((0 : Nat) : Int) - 1 := by omega
          have hll := digPart_length l 0
          rw [HM.out] at hll
          have hb256 : ∀ x ∈ [45] ++ digPart l 0, x < 256 := by
            intro x hx
            rcases List.mem_append.1 hx with h | h
            · exact HPB.out x h
            · unfold digPart at h
              rw [List.mem_map] at h
              obtain ⟨d, hd, rfl⟩ := h
              have := HD.out d (List.mem_of_mem_drop (List.mem_reverse.1 hd))
              omega
          have hne : 0 < ([45] ++ digPart l 0).length := by rw [List.length_append]; unfold digPart; simp; rw [HM.out]; omega
          obtain ⟨L, hL⟩ : ∃ L, [45] ++ digPart l 0 = L := ⟨_, rfl⟩
          rw [hL] at hown hb256 hne
          have hLl : L.length ≤ 1099511627777 := by rw [← hL, List.length_append]; simp; omega
          obtain ⟨q, hq⟩ : ∃ q, L.length = q := ⟨_, rfl⟩
          obtain ⟨g2, cap2, rfl, _, _, _, hn2, _⟩ := hown.out.form q hq (by omega)
          have hconv := run_convert_whole (P := Tryd.prog) wr 72 5 9 Tryd.underlying72 Tryd.underlying5 Tryd.underlying9 g2 0 (byteL L) (nums_bytes hn2 hb256) cap2
          rw [byteL_size, hq] at hconv
          have hRL : R = byteL L := by rw [HT.out, hL]
          rw [← hRL] at hconv
          have hle : decide ((m : Int) ≤ 200) = decide (m ≤ 200) := by rw [decide_eq_decide]; omega
          have HLE := Lib.hid hle
          clear hll hb256 hne hL hown hn2 hRL hq hLl hle
          go_wp2_with fail
          go_ret2
          exact ⟨by simp; omega, hbr.out⟩
        · obtain ⟨j, rfl⟩ : ∃ j, k = j + 1 := ⟨k - 1, by omega⟩
          have hj : (((j + 1 : Nat) : Int) - 1) = (j : Int) := by omega
          rw [hj]
          have hj0 : (0 : Int) ≤ (j : Int) := by omega
          have hj1 : (j : Int) < (m : Int) := by omega
          have jl : j < l.length := by rw [HM.out]; omega
          have cc := (HS.out.below hbr.out hg) j jl
          have hstep := digPart_step l j jl
          have hx10 := getD_dig HD.out j
          have j1 := fun w => atI g o m cap j (j : Int) rfl (by omega) w
          have hsize := hbr.out.size
          have hll := digPart_length l (j + 1)
          rw [HM.out] at hll
          obtain ⟨x, hx⟩ : ∃ x, l.getD j 0 = x := ⟨_, rfl⟩
          rw [hx] at cc hstep hx10
          obtain ⟨D, hD⟩ : ∃ D, digPart l (j + 1) = D := ⟨_, rfl⟩
          rw [hD] at hown hstep hll
          have hql : ([45] ++ D).length + 1 ≤ 17592186044416 := by rw [List.length_append]; simp; omega
          have hx10' : (x : Int) < 10 := by omega
          have HSTEP := Lib.hid hstep
          clear hstep hx hD jl hk0
          go_wp2_with (first | (at_builtin; refine walk_push8 (w0 := w) rfl _ _ rfl w.heap.size _ ([45] ++ D) [48 + x] rfl (hown.out.alloc _) (hbr.out.alloc hsize _) (Nat.le_trans hsize (by simp)) wr.heap.size 0 1 1 rfl rfl (new_num1 .u8 wr _ (48 + x) (by go_num) _) hql ?_; intro v3 W3 ho3 hb3))
          go_roundw
          case rel => exact ⟨j, by omega, by go_num, by rw [HSTEP.out, ← List.append_assoc]; exact ho3, hb3⟩
          case measure => simp [RowKit.intOf]
end Go.Proofs.YtildgpahacaglaaDoor
