/-
  Slices of integers in memory; the contract of the reference's Choose.
-/
import Derived.Test.YtdolmahodhgfpaaDoorSeedC
namespace Go.Proofs.YtdolmahodhgfpaaDoor
open Go Go.Proofs Go.RowKit Go.Lib

/-- A slice reads as a list of integers. -/
def IntsL (W : World) (ad : Option Addr) (l : List Int) : Prop :=
  l = [] ∨ ∃ b o, ad = some ⟨b, o, none⟩ ∧ b < W.heap.size ∧ ∀ i (h : i < l.length), W.cell? ⟨b, o + i, none⟩ = some (.int .i64 l[i])
theorem IntsL.below {W W' : World} {ad : Option Addr} {l : List Int} (h : IntsL W ad l) (b : Below W.heap.size W W') : IntsL W' ad l := by
  rcases h with h | ⟨g, o, h1, h2, h3⟩
  · exact .inl h
  · exact .inr ⟨g, o, h1, Nat.lt_of_lt_of_le h2 b.size, fun i hi => (b.cell (p := ⟨g, o + i, none⟩) h2).trans (h3 i hi)⟩
theorem ints_elem6 : Tryd.prog.underlying 31 = some (.slice (Tryd.prog.elem 31)) := by kernel_rfl
theorem ints_cells6 (w : World) : (Go.sizeOf (Tryd.prog.elem 31)).run Tryd.prog w = .ok 1 w := by kernel_rfl
theorem at_ints6 (g o n c k : Nat) (hk : k < n) (w : World) : (Instr.indexAt 31 (.slice (some ⟨g, o, none⟩) n c) (.int .i64 (k : Int))).run Tryd.prog w = .ok (.pointer (some ⟨g, o + k, none⟩)) w := by
  rw [run_indexAt_slice w 31 _ _ _ _ _ ints_elem6, if_pos (by omega)]
  simp [ints_cells6, add_at, Result.andThen]
def sumK (l : List Int) (k : Nat) : Int := (l.take k).foldl (· + ·) 0
theorem sumK_step (l : List Int) (k : Nat) (h : k < l.length) : sumK l (k + 1) = sumK l k + l[k] := by
  unfold sumK
  rw [List.take_succ_eq_append_getElem h, List.foldl_append]
  rfl
theorem sumK_bound (l : List Int) (h : ∀ i (hi : i < l.length), 0 ≤ l[i] ∧ l[i] ≤ 1125899906842624) : ∀ k, k ≤ l.length → 0 ≤ sumK l k ∧ sumK l k ≤ 1125899906842624 * k
  | 0, _ => by unfold sumK; simp
  | k + 1, hk => by
    have ih := sumK_bound l h k (by omega)
    have hx := h k (by omega)
    rw [sumK_step l k (by omega)]
    omega
theorem chooseF_step {d : Int} {l : List Int} {a : Int} {k : Nat} (h : k < l.length) : chooseF d (l.drop k) a k = if d < a + l[k] then some k else chooseF d (l.drop (k + 1)) (a + l[k]) (k + 1) := by
  rw [List.drop_eq_getElem_cons h]
  rfl
theorem choose_ok {ws : List Int} {d : Int} (h1 : ws.length ≤ 200) (h2 : 0 ≤ d) (h3 : ∀ i (hi : i < ws.length), 0 ≤ ws[i] ∧ ws[i] ≤ 1125899906842624) : chooseO ws d = chooseF d ws 0 0 := by
  have hb : chooseB ws d = true := by
    unfold chooseB
    rw [decide_eq_true (show _ from ⟨h1, h2⟩), Bool.true_and, List.all_eq_true]
    intro x hx
    obtain ⟨i, hi, rfl⟩ := List.getElem_of_mem hx
    exact decide_eq_true (h3 i hi)
  unfold chooseO
  rw [if_pos hb]
theorem choose_bad {ws : List Int} {d : Int} (h : ¬ (ws.length ≤ 200 ∧ 0 ≤ d)) : chooseO ws d = none := by
  have hb : chooseB ws d = false := by unfold chooseB; rw [decide_eq_false h]; rfl
  unfold chooseO
  rw [hb]
  rfl
theorem choose_wrong {ws : List Int} {d : Int} {i : Nat} (hi : i < ws.length) (h : ¬ (0 ≤ ws[i] ∧ ws[i] ≤ 1125899906842624)) : chooseO ws d = none := by
  have hb : chooseB ws d = false := by
    unfold chooseB
    rw [Bool.and_eq_false_iff]
    right
    rw [List.all_eq_false]
    exact ⟨ws[i], List.getElem_mem hi, by rw [decide_eq_false h]; decide⟩
  unfold chooseO
  rw [hb]
  rfl
def chV (o : Option Nat) : Int := match o with | some k => (k : Int) | none => 0
def chE (o : Option Nat) : Int := match o with | some _ => 0 | none => 60
set_option maxRecDepth 100000 in
set_option maxHeartbeats 16000000 in
theorem chooseR_any (ad : Option Addr) (c : Nat) (l : List Int) (hl : l.length ≤ maxLen) (d : Int) (w : World) (hI : IntsL w ad l) : Calls Tryd.prog 26 #[.slice ad l.length c, .int .i64 d] w fun e w' => e = .returned (.tuple #[.int .i64 (chV (chooseO l d)), .int .i64 (chE (chooseO l d))]) ∧ w = w' := by
  unfold maxLen at hl
  by_cases h1 : 200 < l.length
  · rw [choose_bad (ws := l) (d := d) (fun h => by omega)]
    have k1 : (200 : Int) < (l.length : Int) := by omega
    clear hI
    go_enter Tryd.func26, Tryd.ntmps26
    go_wp2
    go_ret2
    exact ⟨rfl, rfl⟩
  · by_cases h2 : d < 0
    · rw [choose_bad (ws := l) (d := d) (fun h => by omega)]
      have k1 : ¬ (200 : Int) < (l.length : Int) := by omega
      clear hI
      go_enter Tryd.func26, Tryd.ntmps26
      go_wp2
      go_ret2
      exact ⟨rfl, rfl⟩
    · have k1 : ¬ (200 : Int) < (l.length : Int) := by omega
      have HC := Lib.hid (fun k (hk : k < l.length) => show ∃ b o, ad = some ⟨b, o, none⟩ ∧ w.cell? ⟨b, o + k, none⟩ = some (.int .i64 l[k]) from by
        rcases hI with h | ⟨b, o, e1, _, e3⟩
        · subst h; exact absurd hk (Nat.not_lt_zero _)
        · exact ⟨b, o, e1, e3 k hk⟩)
      have HBAD := Lib.hid (fun i hi h => choose_wrong (ws := l) (d := d) (i := i) hi h)
      have HOK := Lib.hid (fun h => choose_ok (ws := l) (d := d) (by omega) (by omega) h)
      have HSB := Lib.hid (fun h => sumK_bound l h)
      have HL := Lib.hid (show l.length ≤ 200 by omega)
      obtain ⟨O, hO⟩ : ∃ x, chooseO l d = x := ⟨_, rfl⟩
      rw [hO] at HBAD HOK ⊢
      clear hI hO
      go_enter Tryd.func26, Tryd.ntmps26
      go_wp2_with fail
      go_loop [6] (fun i => ∃ k : Nat, k ≤ l.length ∧ i = .int .i64 k ∧ Hid (∀ j (hj : j < l.length), j < k → 0 ≤ l[j] ∧ l[j] ≤ 1125899906842624)) (fun i => 200 - (RowKit.intOf i).toNat)
      case atStart => exact ⟨0, Nat.zero_le _, rfl, Lib.hid (fun j _ h => absurd h (Nat.not_lt_zero _))⟩
      case round =>
        obtain ⟨k, hk, rfl, HK⟩ := hrel
        by_cases hlt : k < l.length
        · have hki : (k : Int) < (l.length : Int) := by omega
          obtain ⟨b, o, e1, e2⟩ := HC.out k hlt
          have hik := fun W => at_ints6 b o l.length c k hlt W
          have hl200 := HL.out
          have HLT := Lib.hid hlt
          have HX := Lib.hid (fun h => HBAD.out k hlt h)
          have HY := Lib.hid (show (0 ≤ l[k] ∧ l[k] ≤ 1125899906842624) → ∀ j (hj : j < l.length), j < k + 1 → 0 ≤ l[j] ∧ l[j] ≤ 1125899906842624 from fun h j hj hjk => by
            rcases Nat.lt_or_ge j k with h9 | h9
            · exact HK.out j hj h9
            · have : j = k := by omega
              subst this
              exact h)
          rw [e1]
          generalize l[k] = x at *
          by_cases h3 : x < 0
          · have HO := Lib.hid (HX.out (fun h => by omega))
            go_wp2
            go_ret2
            exact ⟨by rw [HO.out]; rfl, rfl⟩
          · by_cases h4 : 1125899906842624 < x
            · have HO := Lib.hid (HX.out (fun h => by omega))
              go_wp2
              go_ret2
              exact ⟨by rw [HO.out]; rfl, rfl⟩
            · have HZ := Lib.hid (HY.out ⟨by omega, by omega⟩)
              go_wp2_with fail
              go_round
              case rel => exact ⟨k + 1, HLT.out, by go_num, HZ⟩
              case measure => simp [RowKit.intOf]; omega
        · obtain rfl : k = l.length := by omega
          have HALL := Lib.hid (fun j hj => HK.out j hj hj)
          have HF := Lib.hid (HOK.out HALL.out)
          have HSB2 := Lib.hid (HSB.out HALL.out)
          clear HOK HBAD
          have hki : ¬ (l.length : Int) < (l.length : Int) := by omega
          go_wp2_with fail
          go_loop [7, 8] (fun a i => ∃ k : Nat, k ≤ l.length ∧ i = .int .i64 k ∧ a = .int .i64 (sumK l k) ∧ Hid (O = chooseF d (l.drop k) (sumK l k) k)) (fun _ i => 200 - (RowKit.intOf i).toNat)
          case atStart => exact ⟨0, Nat.zero_le _, rfl, rfl, HF⟩
          case round =>
            obtain ⟨k, hk, rfl, rfl, HK2⟩ := hrel
            have hs := HSB2.out k hk
            by_cases hlt : k < l.length
            · have hki2 : (k : Int) < (l.length : Int) := by omega
              obtain ⟨b, o, e1, e2⟩ := HC.out k hlt
              have hik := fun W => at_ints6 b o l.length c k hlt W
              have hx := HALL.out k hlt
              have hl200 := HL.out
              have HST := Lib.hid (HK2.out.trans (chooseF_step (d := d) (a := sumK l k) hlt))
              have HSM := Lib.hid (sumK_step l k hlt)
              have HLT := Lib.hid hlt
              rw [e1]
              generalize hxx : l[k] = x at *
              clear hxx
              generalize hss : sumK l k = a at *
              clear hss
              by_cases hd : d < a + x
              · have h9 := HST.out
                rw [if_pos hd] at h9
                have H9 := Lib.hid h9
                clear h9
                go_wp2
                go_ret2
                exact ⟨by rw [H9.out]; rfl, rfl⟩
              · have h9 := HST.out
                rw [if_neg hd, ← HSM.out] at h9
                have H9 := Lib.hid h9
                clear h9
                go_wp2_with fail
                go_round
                case rel => exact ⟨k + 1, HLT.out, by go_num, congrArg (Value.int .i64) HSM.out.symm, H9⟩
                case measure => simp [RowKit.intOf]; omega
            · obtain rfl : k = l.length := by omega
              have h9 := HK2.out
              rw [List.drop_length] at h9
              have H9 := Lib.hid h9
              clear h9
              have hki2 : ¬ (l.length : Int) < (l.length : Int) := by omega
              go_wp2
              go_ret2
              exact ⟨by rw [H9.out]; rfl, rfl⟩
end Go.Proofs.YtdolmahodhgfpaaDoor
