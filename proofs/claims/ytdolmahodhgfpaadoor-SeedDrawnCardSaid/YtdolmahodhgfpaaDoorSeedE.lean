/-
  The contract of the reference's Same.
-/
import Derived.Test.YtdolmahodhgfpaaDoorSeedD
import Derived.BigQuiet
import Derived.Deep.QuietTactic
namespace Go.Proofs.YtdolmahodhgfpaaDoor
open Go Go.Proofs Go.RowKit Go.Lib

theorem same_step {l m : List Int} {k : Nat} (hl : k < l.length) (hm : k < m.length) (h : l.take k = m.take k) (e : l[k] = m[k]) : l.take (k + 1) = m.take (k + 1) := by
  rw [List.take_succ_eq_append_getElem hl, List.take_succ_eq_append_getElem hm, h, e]
set_option maxRecDepth 100000 in
set_option maxHeartbeats 16000000 in
theorem sameR_any (ad : Option Addr) (c : Nat) (l : List Int) (bd : Option Addr) (c2 : Nat) (m : List Int) (hl : l.length ≤ 1000000) (hm : m.length ≤ 1000000) (w : World) (hI : IntsL w ad l) (hJ : IntsL w bd m) : Calls Tryd.prog 24 #[.slice ad l.length c, .slice bd m.length c2] w fun e w' => e = .returned (.bool (decide (l = m))) ∧ Below w.heap.size w w' := by
  by_cases h1 : l.length = m.length
  · have HC := Lib.hid (fun k (hk : k < l.length) => show ∃ b o, ad = some ⟨b, o, none⟩ ∧ ∀ W, Below w.heap.size w W → W.cell? ⟨b, o + k, none⟩ = some (.int .i64 l[k]) from by
      rcases hI with h | ⟨b, o, e1, e2, e3⟩
      · subst h; exact absurd hk (Nat.not_lt_zero _)
      · exact ⟨b, o, e1, fun W hb => (hb.cell (p := ⟨b, o + k, none⟩) e2).trans (e3 k hk)⟩)
    have HD := Lib.hid (fun k (hk : k < m.length) => show ∃ b o, bd = some ⟨b, o, none⟩ ∧ ∀ W, Below w.heap.size w W → W.cell? ⟨b, o + k, none⟩ = some (.int .i64 m[k]) from by
      rcases hJ with h | ⟨b, o, e1, e2, e3⟩
      · subst h; exact absurd hk (Nat.not_lt_zero _)
      · exact ⟨b, o, e1, fun W hb => (hb.cell (p := ⟨b, o + k, none⟩) e2).trans (e3 k hk)⟩)
    have HL1 := Lib.hid h1
    have HLL := Lib.hid hl
    have k1 : ((l.length : Int) == (m.length : Int)) = true := by rw [h1]; simp
    have k2 : ((l.length : Int) != (m.length : Int)) = false := by rw [h1]; simp
    obtain ⟨n, hn⟩ : ∃ n, m.length = n := ⟨_, rfl⟩
    have hln : l.length = n := h1.trans hn
    have HN := Lib.hid hn; have HLN := Lib.hid hln
    rw [hln, hn]
    clear hI hJ h1 k1 k2 hm hln hn
    have hl2 : n ≤ 1000000 := by have := HLN.out; omega
    clear hl
    go_enter Tryd.func24, Tryd.ntmps24
    go_wp2_with fail
    go_loopw [5] (fun i wr => ∃ k : Nat, k ≤ n ∧ i = .int .i64 k ∧ Hid (l.take k = m.take k) ∧ Hid (Below w.heap.size w wr)) (fun i _ => n - (RowKit.intOf i).toNat)
    case atStart => exact ⟨0, Nat.zero_le _, rfl, Lib.hid rfl, Lib.hid (Below.refl _ _)⟩
    case round =>
      obtain ⟨k, hk, rfl, HT, HB⟩ := hrel
      by_cases hlt : k < n
      · have hki : (k : Int) < (n : Int) := by omega
        obtain ⟨b, o, e1, e2⟩ := HC.out k (by rw [HLN.out]; exact hlt)
        obtain ⟨b', o', e3, e4⟩ := HD.out k (by rw [HN.out]; exact hlt)
        have hik := fun W => at_ints6 b o n c k hlt W
        have hik2 := fun W => at_ints6 b' o' n c2 k hlt W
        have HST := Lib.hid (fun e => same_step (l := l) (m := m) (k := k) (by rw [HLN.out]; exact hlt) (by rw [HN.out]; exact hlt) HT.out e)
        have HNE := Lib.hid (show l[k]'(by rw [HLN.out]; exact hlt) ≠ m[k]'(by rw [HN.out]; exact hlt) → decide (l = m) = false from fun h => decide_eq_false (fun e => h (by simp only [e])))
        rw [e1, e3]
        have q1 := fun q => e2 (wr.drewN q) (HB.out.trans ⟨by first | rfl | simp, by first | rfl | simp, by first | rfl | simp, by first | exact Nat.le_refl _ | simp, fun k hk => by first | rfl | simp⟩)
        have q2 := fun q => e4 (wr.drewN q) (HB.out.trans ⟨by first | rfl | simp, by first | rfl | simp, by first | rfl | simp, by first | exact Nat.le_refl _ | simp, fun k hk => by first | rfl | simp⟩)
        have q3 := e2 wr HB.out
        have q4 := e4 wr HB.out
        generalize l[k]'(by rw [HLN.out]; exact hlt) = x at *
        generalize m[k]'(by rw [HN.out]; exact hlt) = y at *
        have HLT := Lib.hid hlt
        by_cases hxy : x = y
        · have f1 : (x != y) = false := by rw [hxy]; simp
          have HTT := Lib.hid (HST.out hxy)
          clear hxy
          go_wp2_with fail
          go_quiet (fail)
          go_wp2_with fail
          go_roundw
          case rel => exact ⟨k + 1, HLT.out, by go_num, HTT, Lib.hid (HB.out.trans ⟨by first | rfl | simp, by first | rfl | simp, by first | rfl | simp, by first | exact Nat.le_refl _ | simp, fun k hk => by first | rfl | simp⟩)⟩
          case measure => simp [RowKit.intOf]; omega
        · have f1 : (x != y) = true := by rw [bne_iff_ne]; exact hxy
          have HE := Lib.hid (HNE.out hxy)
          clear hxy
          go_wp2_with fail
          go_quiet (fail)
          go_wp2
          go_ret
          exact ⟨by rw [HE.out]; rfl, HB.out.trans ⟨by first | rfl | simp, by first | rfl | simp, by first | rfl | simp, by first | exact Nat.le_refl _ | simp, fun k hk => by first | rfl | simp⟩⟩
      · obtain rfl : k = n := by omega
        have hki : ¬ (k : Int) < (k : Int) := by omega
        have HE := Lib.hid (show decide (l = m) = true from decide_eq_true (by
          have := HT.out
          rwa [List.take_of_length_le (by rw [HLN.out]; exact Nat.le_refl _), List.take_of_length_le (by rw [HN.out]; exact Nat.le_refl _)] at this))
        go_wp2
        go_ret
        exact ⟨by rw [HE.out]; rfl, HB.out⟩
  · have HE := Lib.hid (show decide (l = m) = false from decide_eq_false (fun e => h1 (by rw [e])))
    have k1 : ((l.length : Int) == (m.length : Int)) = false := beq_eq_false_iff_ne.2 (by omega)
    have k2 : ((l.length : Int) != (m.length : Int)) = true := by rw [bne, k1]; rfl
    clear hI hJ
    go_enter Tryd.func24, Tryd.ntmps24
    go_wp2
    go_ret
    exact ⟨by rw [HE.out]; rfl, Below.refl _ _⟩
end Go.Proofs.YtdolmahodhgfpaaDoor
