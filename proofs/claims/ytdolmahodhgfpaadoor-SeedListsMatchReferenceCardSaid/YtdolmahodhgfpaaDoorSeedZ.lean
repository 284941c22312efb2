/-
  The contracts of slices.IndexFunc and ContainsFunc at integers, and of Choose.
-/
import Derived.Test.YtdolmahodhgfpaaDoorSeedY
namespace Go.Proofs.YtdolmahodhgfpaaDoor
open Go Go.Proofs Go.RowKit Go.Lib

/-! ### a weight that is none -/
/-- The index of the first integer that is no weight, or -1. -/
def badI : List Int → Nat → Int
  | [], _ => -1
  | x :: l, k => if badB x then (k : Int) else badI l (k + 1)
theorem badI_step {l : List Int} {k : Nat} (h : k < l.length) : badI (l.drop k) k = if badB l[k] then (k : Int) else badI (l.drop (k + 1)) (k + 1) := by
  rw [List.drop_eq_getElem_cons h]
  rfl
theorem badI_all : ∀ (l : List Int) (k : Nat), (0 ≤ badI l k) ↔ l.all (fun x => decide (0 ≤ x ∧ x ≤ 1125899906842624)) = false
  | [], k => by simp [badI]
  | x :: l, k => by
    unfold badI badB
    cases h : decide (0 ≤ x ∧ x ≤ 1125899906842624) with
    | false =>
      rw [Bool.not_false, if_pos rfl, List.all_cons, h, Bool.false_and]
      exact ⟨fun _ => rfl, fun _ => Int.natCast_nonneg _⟩
    | true =>
      rw [Bool.not_true, if_neg (by decide), badI_all l (k + 1), List.all_cons, h, Bool.true_and]
set_option maxRecDepth 100000 in
set_option maxHeartbeats 4000000 in
theorem indexBad_u (ad : Option Addr) (c : Nat) (l : List Int) (hl : l.length ≤ 1000000) (w : World) (hI : IntsL w ad l) :
    Calls Tryd.prog 43 #[.slice ad l.length c, .func (.func 42) #[] #[]] w fun e w' => e = .returned (.int .i64 (badI l 0)) ∧ w = w' := by
  have HC := Lib.hid (fun k (hk : k < l.length) => show ∃ b o, ad = some ⟨b, o, none⟩ ∧ w.cell? ⟨b, o + k, none⟩ = some (.int .i64 l[k]) from by
    rcases hI with h | ⟨b, o, e1, _, e3⟩
    · subst h; exact absurd hk (Nat.not_lt_zero _)
    · exact ⟨b, o, e1, e3 k hk⟩)
  have HST := Lib.hid (fun k h => badI_step (l := l) (k := k) h)
  have HL := Lib.hid hl
  have HN := Lib.hid (show badI (l.drop l.length) l.length = -1 by rw [List.drop_length]; rfl)
  have H0 := Lib.hid (show badI l 0 = badI (l.drop 0) 0 from rfl)
  generalize badI l 0 = O at *
  clear hI
  go_enter Tryd.func43, Tryd.ntmps43
  go_wp2_with fail
  go_loop [8] (fun i => ∃ k : Nat, k ≤ l.length ∧ i = .int .i64 k ∧ Hid (O = badI (l.drop k) k)) (fun i => l.length - (RowKit.intOf i).toNat)
  case atStart => exact ⟨0, Nat.zero_le _, rfl, H0⟩
  case round =>
    obtain ⟨k, hk, rfl, HK⟩ := hrel
    by_cases hlt : k < l.length
    · have hki : (k : Int) < (l.length : Int) := by omega
      obtain ⟨b, o, e1, e2⟩ := HC.out k hlt
      have hik := fun W => at_ints6 b o l.length c k hlt W
      have hst := HST.out k hlt
      have HLT := Lib.hid hlt
      rw [e1]
      generalize l[k] = x at *
      have CB := Lib.hid (fun W => isNoWeight_u x W)
      cases hb : badB x with
      | true =>
        have HO := Lib.hid (show O = (k : Int) by rw [HK.out, hst, hb]; rfl)
        have CB2 := Lib.hid (fun W => by have c := CB.out W; rw [hb] at c; exact c)
        clear hst hb CB
        go_wp2_with fail
        refine (CB2.out _).mono ?_
        rintro e z ⟨rfl, rfl⟩
        go_wp2
        go_ret
        exact ⟨by rw [HO.out]; rfl, rfl⟩
      | false =>
        have HO := Lib.hid (show O = badI (l.drop (k + 1)) (k + 1) by rw [HK.out, hst, hb]; rfl)
        have CB2 := Lib.hid (fun W => by have c := CB.out W; rw [hb] at c; exact c)
        clear hst hb CB
        go_wp2_with fail
        refine (CB2.out _).mono ?_
        rintro e z ⟨rfl, rfl⟩
        go_wp2
        go_round
        case rel => exact ⟨k + 1, HLT.out, by go_num, HO⟩
        case measure => have := HLT.out; simp [RowKit.intOf]; omega
    · obtain rfl : k = l.length := by omega
      have HO := Lib.hid (show O = -1 by rw [HK.out, HN.out])
      have hki : ¬ (l.length : Int) < (l.length : Int) := by omega
      go_wp2
      go_ret
      exact ⟨by rw [HO.out]; rfl, rfl⟩
set_option maxRecDepth 100000 in
set_option maxHeartbeats 4000000 in
theorem contains_u (ad : Option Addr) (c : Nat) (l : List Int) (hl : l.length ≤ 1000000) (w : World) (hI : IntsL w ad l) :
    Calls Tryd.prog 41 #[.slice ad l.length c, .func (.func 42) #[] #[]] w fun e w' => e = .returned (.bool (decide (0 ≤ badI l 0))) ∧ w = w' := by
  have C := Lib.hid (indexBad_u ad c l hl w hI)
  clear hI
  go_enter Tryd.func41, Tryd.ntmps41
  go_wp2_with fail
  refine C.out.mono ?_
  rintro e z ⟨rfl, rfl⟩
  go_wp2
  go_ret
  exact ⟨rfl, rfl⟩

/-! ### the sum of the weights -/
theorem chooseAdd_u (x S d : Int) (Bs Bd : Nat) (hne : Bs ≠ Bd) (w : World) (hs : w.cell? ⟨Bs, 0, none⟩ = some (.int .i64 S)) (hf : w.frozen? ⟨Bs, 0, none⟩ = false) (hd : w.cell? ⟨Bd, 0, none⟩ = some (.int .i64 d))
    (h1 : 0 ≤ S) (h2 : S ≤ 1125899906842624000) (h3 : 0 ≤ x) (h4 : x ≤ 1125899906842624) :
    Calls Tryd.prog 44 #[.int .i64 x, .pointer (some ⟨Bs, 0, none⟩), .pointer (some ⟨Bd, 0, none⟩)] w fun e w' => e = .returned (.bool (decide (d < S + x))) ∧ w.setCell ⟨Bs, 0, none⟩ (.int .i64 (S + x)) = w' := by
  have hs2 : (w.setCell ⟨Bs, 0, none⟩ (.int .i64 (S + x))).cell? ⟨Bs, 0, none⟩ = some (.int .i64 (S + x)) := World.cell?_setCell_same _ _ _ hs
  have hd2 : (w.setCell ⟨Bs, 0, none⟩ (.int .i64 (S + x))).cell? ⟨Bd, 0, none⟩ = some (.int .i64 d) := (World.cell?_setCell_other _ _ _ _ (fun e => hne (by injection e))).trans hd
  go_enter Tryd.func44, Tryd.ntmps44
  go_wp2
  go_ret
  exact ⟨rfl, rfl⟩
def chI (o : Option Nat) : Int := match o with | some k => (k : Int) | none => -1
set_option maxRecDepth 100000 in
set_option maxHeartbeats 4000000 in
theorem indexSum_u (ad : Option Addr) (c : Nat) (l : List Int) (hl : l.length ≤ 200) (hw : ∀ i (hi : i < l.length), 0 ≤ l[i] ∧ l[i] ≤ 1125899906842624) (d : Int) (Bs Bd : Nat) (hne : Bs ≠ Bd) (w0 w : World) (hI : IntsL w0 ad l) (hBs : w0.heap.size ≤ Bs) (hB : Below w0.heap.size w0 w)
    (hs : w.cell? ⟨Bs, 0, none⟩ = some (.int .i64 0)) (hf : w.frozen? ⟨Bs, 0, none⟩ = false) (hd : w.cell? ⟨Bd, 0, none⟩ = some (.int .i64 d)) :
    Calls Tryd.prog 43 #[.slice ad l.length c, .func (.func 44) #[] #[.pointer (some ⟨Bs, 0, none⟩), .pointer (some ⟨Bd, 0, none⟩)]] w fun e w' => e = .returned (.int .i64 (chI (chooseF d l 0 0))) ∧ Below w0.heap.size w0 w' := by
  have HC := Lib.hid (fun k (hk : k < l.length) W (hW : Below w0.heap.size w0 W) => show ∃ b o, ad = some ⟨b, o, none⟩ ∧ W.cell? ⟨b, o + k, none⟩ = some (.int .i64 l[k]) from by
    rcases hI with h | ⟨b, o, e1, e2, e3⟩
    · subst h; exact absurd hk (Nat.not_lt_zero _)
    · exact ⟨b, o, e1, (hW.cell (p := ⟨b, o + k, none⟩) e2).trans (e3 k hk)⟩)
  have HST := Lib.hid (fun a k h => chooseF_step (d := d) (l := l) (a := a) (k := k) h)
  have HSB := Lib.hid (fun k h => sumK_bound l hw k h)
  have HSS := Lib.hid (fun k h => sumK_step l k h)
  have HL := Lib.hid hl; have HW := Lib.hid hw; have HNE := Lib.hid hne; have HBS := Lib.hid hBs; have HB0 := Lib.hid hB
  have HN := Lib.hid (show ∀ a, chooseF d (l.drop l.length) a l.length = none from fun a => by rw [List.drop_length]; rfl)
  have H0 := Lib.hid (show chooseF d l 0 0 = chooseF d (l.drop 0) (sumK l 0) 0 from rfl)
  have HS0 := Lib.hid (show w.cell? ⟨Bs, 0, none⟩ = some (.int .i64 (sumK l 0)) from hs)
  generalize chooseF d l 0 0 = O at *
  clear hI hl hw hne hBs hB hs
  go_enter Tryd.func43, Tryd.ntmps43
  go_wp2_with fail
  go_loopw [8] (fun i wr => ∃ k : Nat, k ≤ l.length ∧ i = .int .i64 k ∧ Hid (O = chooseF d (l.drop k) (sumK l k) k) ∧ Hid (wr.cell? ⟨Bs, 0, none⟩ = some (.int .i64 (sumK l k))) ∧ Hid (wr.frozen? ⟨Bs, 0, none⟩ = false) ∧ Hid (wr.cell? ⟨Bd, 0, none⟩ = some (.int .i64 d)) ∧ Hid (Below w0.heap.size w0 wr)) (fun i _ => l.length - (RowKit.intOf i).toNat)
  case atStart => exact ⟨0, Nat.zero_le _, rfl, H0, HS0, Lib.hid hf, Lib.hid hd, HB0⟩
  case round =>
    clear hf hd HS0 HB0
    obtain ⟨k, hk, rfl, HK, HCS, HCF, HCD, HBW⟩ := hrel
    by_cases hlt : k < l.length
    · have hki : (k : Int) < (l.length : Int) := by omega
      obtain ⟨b, o, e1, e2⟩ := HC.out k hlt wr HBW.out
      have hik := fun W => at_ints6 b o l.length c k hlt W
      have hst := HST.out (sumK l k) k hlt
      have hwk := HW.out k hlt
      have hsb := HSB.out k hk
      have hss := HSS.out k hlt
      have hl2 := HL.out
      have HLT := Lib.hid hlt
      rw [e1]
      generalize l[k] = x at *
      obtain ⟨S, hS⟩ : ∃ S, sumK l k = S := ⟨_, rfl⟩
      rw [hS] at hst hsb hss HCS
      have CB := Lib.hid (chooseAdd_u x S d Bs Bd HNE.out wr HCS.out HCF.out HCD.out hsb.1 (by omega) hwk.1 hwk.2)
      have HKS := Lib.hid (show O = if d < S + x then some k else chooseF d (l.drop (k + 1)) (S + x) (k + 1) from by rw [HK.out, hS]; exact hst)
      have HSS2 := Lib.hid hss
      have HC2 := Lib.hid (show (wr.setCell ⟨Bs, 0, none⟩ (.int .i64 (S + x))).cell? ⟨Bs, 0, none⟩ = some (.int .i64 (sumK l (k + 1))) by rw [hss]; exact World.cell?_setCell_same _ _ _ HCS.out)
      have HF2 := Lib.hid (show (wr.setCell ⟨Bs, 0, none⟩ (.int .i64 (S + x))).frozen? ⟨Bs, 0, none⟩ = false by rw [World.frozen?_setCell]; exact HCF.out)
      have HD2 := Lib.hid (show (wr.setCell ⟨Bs, 0, none⟩ (.int .i64 (S + x))).cell? ⟨Bd, 0, none⟩ = some (.int .i64 d) from (World.cell?_setCell_other _ _ _ _ (fun e => HNE.out (by injection e))).trans HCD.out)
      have HB2 := Lib.hid (HBW.out.setCell (p := ⟨Bs, 0, none⟩) HBS.out (.int .i64 (S + x)))
      clear hst hwk hsb hss hS HK
      by_cases hdx : d < S + x
      · have HO := Lib.hid (show O = some k by rw [HKS.out, if_pos hdx])
        have CB2 := Lib.hid (by have c := CB.out; rw [decide_eq_true hdx] at c; exact c)
        clear hdx CB
        go_wp2_with fail
        refine CB2.out.mono ?_
        rintro e z ⟨rfl, rfl⟩
        go_wp2
        go_ret
        exact ⟨by rw [HO.out]; rfl, HB2.out⟩
      · have HO := Lib.hid (show O = chooseF d (l.drop (k + 1)) (sumK l (k + 1)) (k + 1) by rw [HKS.out, if_neg hdx, HSS2.out])
        have CB2 := Lib.hid (by have c := CB.out; rw [decide_eq_false hdx] at c; exact c)
        clear hdx CB
        go_wp2_with fail
        refine CB2.out.mono ?_
        rintro e z ⟨rfl, rfl⟩
        go_wp2
        go_roundw
        case rel => exact ⟨k + 1, HLT.out, by go_num, HO, HC2, HF2, HD2, HB2⟩
        case measure => have := HLT.out; simp [RowKit.intOf]; omega
    · obtain rfl : k = l.length := by omega
      have HO := Lib.hid (show O = none by rw [HK.out, HN.out])
      have hki : ¬ (l.length : Int) < (l.length : Int) := by omega
      go_wp2
      go_ret
      exact ⟨by rw [HO.out]; rfl, HBW.out⟩

theorem choose_bad2 {l : List Int} {d : Int} (h : 0 ≤ badI l 0) : chooseO l d = none := by
  have h2 := (badI_all l 0).1 h
  unfold chooseO chooseB
  rw [h2, Bool.and_false]
  rfl
theorem choose_good2 {l : List Int} (h : ¬ 0 ≤ badI l 0) : ∀ i (hi : i < l.length), 0 ≤ l[i] ∧ l[i] ≤ 1125899906842624 := by
  intro i hi
  have h2 : l.all (fun x => decide (0 ≤ x ∧ x ≤ 1125899906842624)) = true := by
    cases hb : l.all (fun x => decide (0 ≤ x ∧ x ≤ 1125899906842624)) with
    | true => rfl
    | false => exact absurd ((badI_all l 0).2 hb) h
  exact of_decide_eq_true (List.all_eq_true.1 h2 _ (List.getElem_mem hi))
set_option maxRecDepth 100000 in
set_option maxHeartbeats 4000000 in
theorem choose_u (ad : Option Addr) (c : Nat) (l : List Int) (hl : l.length ≤ maxLen) (d : Int) (w : World) (hI : IntsL w ad l) (_hR : Ready w) : Calls Tryd.prog 25 #[.slice ad l.length c, .int .i64 d] w fun e w' => e = .returned (.tuple #[.int .i64 (chV (chooseO l d)), .int .i64 (chE (chooseO l d))]) ∧ Below w.heap.size w w' := by
  unfold maxLen at hl
  clear _hR
  obtain ⟨W0, hW0⟩ : ∃ V, w.alloc (.cells #[.int .i64 d] 3) = V := ⟨_, rfl⟩
  have hB0 : Below w.heap.size w W0 := by rw [← hW0]; exact (Below.refl _ _).alloc (Nat.le_refl _) _
  have hI0 := hI.below hB0
  have hD0 := box_cell6 (show W0.heap[w.heap.size]? = some (.cells #[.int .i64 d] 3 (0, 0)) by rw [← hW0]; exact heap_alloc_new w _)
  have HW0 := Lib.hid hW0
  by_cases h1 : 200 < l.length
  · have HO := Lib.hid (choose_bad (ws := l) (d := d) (fun h => by omega))
    have k1 : (200 : Int) < (l.length : Int) := by omega
    clear hI hI0 hD0 hB0 hW0
    go_enter Tryd.func25, Tryd.ntmps25
    go_wp2
    go_ret2
    exact ⟨by rw [HO.out]; rfl, (Below.refl _ _).alloc (Nat.le_refl _) _⟩
  · have k1 : ¬ (200 : Int) < (l.length : Int) := by omega
    have cc := contains_u ad c l (by omega) W0 hI0
    by_cases h2 : 0 ≤ badI l 0
    · have HO := Lib.hid (choose_bad2 (l := l) (d := d) h2)
      rw [decide_eq_true h2, ← hW0] at cc
      have CC := Lib.hid cc
      clear hI hI0 hD0 hB0 hW0 cc h2
      go_enter Tryd.func25, Tryd.ntmps25
      go_wp2_with fail
      refine CC.out.mono ?_
      rintro e z ⟨rfl, rfl⟩
      go_wp2
      go_ret2
      exact ⟨by rw [HO.out]; rfl, (Below.refl _ _).alloc (Nat.le_refl _) _⟩
    · rw [decide_eq_false h2, ← hW0] at cc
      have CC := Lib.hid cc
      have hgood := choose_good2 h2
      by_cases h3 : d < 0
      · have HO := Lib.hid (choose_bad (ws := l) (d := d) (fun h => by omega))
        clear hI hI0 hD0 hB0 hW0 cc h2 hgood
        go_enter Tryd.func25, Tryd.ntmps25
        go_wp2_with fail
        refine CC.out.mono ?_
        rintro e z ⟨rfl, rfl⟩
        go_wp2
        go_ret2
        exact ⟨by rw [HO.out]; rfl, (Below.refl _ _).alloc (Nat.le_refl _) _⟩
      · have HO := Lib.hid (choose_ok (ws := l) (d := d) (by omega) (by omega) hgood)
        obtain ⟨W1, hW1⟩ : ∃ V, W0.alloc (.cells #[.int .i64 0] 3) = V := ⟨_, rfl⟩
        have hz0 : W0.heap.size = w.heap.size + 1 := by rw [← hW0]; simp
        have hS1 := box_cell6 (show W1.heap[W0.heap.size]? = some (.cells #[.int .i64 0] 3 (0, 0)) by rw [← hW1]; exact heap_alloc_new W0 _)
        have hB1 : Below W0.heap.size W0 W1 := by rw [← hW1]; exact (Below.refl _ _).alloc (Nat.le_refl _) _
        have hD1 : W1.cell? ⟨w.heap.size, 0, none⟩ = some (.int .i64 d) := (hB1.cell (p := ⟨w.heap.size, 0, none⟩) (by show w.heap.size < _; omega)).trans hD0.1
        have ci := indexSum_u ad c l (by omega) hgood d W0.heap.size w.heap.size (by omega) w W1 hI (by omega) (hB0.trans (hB1.mono (by omega))) hS1.1 hS1.2 hD1
        rw [hz0, ← hW1, ← hW0] at ci
        have CI := Lib.hid ci
        clear hI hI0 hD0 hB0 hW0 cc h2 hgood hW1 hz0 hS1 hB1 hD1 ci HW0
        generalize chooseF d l 0 0 = O at *
        go_enter Tryd.func25, Tryd.ntmps25
        go_wp2_with fail
        refine CC.out.mono ?_
        rintro e z ⟨rfl, rfl⟩
        go_wp2_with fail
        refine CI.out.mono ?_
        rintro e z ⟨rfl, hb⟩
        have HB := Lib.hid hb
        clear hb
        cases O with
        | none =>
          have hm : chI none = -1 := rfl
          rw [hm]
          go_wp2
          go_ret2
          exact ⟨by rw [HO.out]; rfl, HB.out⟩
        | some k =>
          have hm : chI (some k) = (k : Int) := rfl
          have hm0 : ¬ ((k : Int) < 0) := by omega
          rw [hm]
          go_wp2
          go_ret2
          exact ⟨by rw [HO.out]; rfl, HB.out⟩
theorem reduce_u (raw b : Int) (w : World) (_hR : Ready w) : Calls Tryd.prog 15 #[.int .i64 raw, .int .i64 b] w fun e w' => e = .returned (.tuple #[.int .i64 (redV raw b), .bool (redB raw b)]) ∧ Below w.heap.size w w' :=
  (reduce_p raw b w).mono fun _ _ h => ⟨h.1, h.2 ▸ Below.refl _ _⟩
end Go.Proofs.YtdolmahodhgfpaaDoor
