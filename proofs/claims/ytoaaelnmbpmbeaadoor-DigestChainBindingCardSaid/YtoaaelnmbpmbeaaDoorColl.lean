/-
  The contract of the law's collide: do two lists hold different strings with one sum, at the same place.
-/
import Derived.Test.YtoaaelnmbpmbeaaDoorWay
namespace Go.Proofs.YtoaaelnmbpmbeaaDoor
open Go Go.Proofs Go.RowKit Go.Lib

theorem Below.on {n : Nat} {w W W' W2 : World} (h : Below n w W) (b : Below W'.heap.size W' W2) (hn : n ≤ W.heap.size) (ho : W'.os = W.os) (ht : W'.tape = W.tape) (hp : W'.output = W.output) (hh : W'.heap = W.heap) : Below n w W2 :=
  (below_same h ho ht hp hh).trans (b.mono (by rw [hh]; exact hn))
theorem ready_same {W W' : World} (h : Ready W) (ho : W'.os = W.os) (ht : W'.tape = W.tape) (hp : W'.output = W.output) (hh : W'.heap = W.heap) : Ready W' := h.below (below_same (Below.refl W.heap.size W) ho ht hp hh)
theorem collF_at : ∀ (a b : List ByteArray) (k : Nat) (h1 : k < a.length) (h2 : k < b.length), collB a[k] b[k] = true → collF a b = true
  | x :: a, y :: b, 0, _, _, h => by rw [collF_cons]; simp at h; rw [h]; rfl
  | x :: a, y :: b, k + 1, h1, h2, h => by
    rw [collF_cons, collF_at a b k (by simpa using h1) (by simpa using h2) (by simpa using h), Bool.or_true]
theorem collF_none : ∀ (a b : List ByteArray), (∀ k (h1 : k < a.length) (h2 : k < b.length), collB a[k] b[k] = false) → collF a b = false
  | [], b, _ => by simp [collF]
  | _ :: _, [], _ => by simp [collF]
  | x :: a, y :: b, h => by
    rw [collF_cons, collF_none a b fun k h1 h2 => by have := h (k + 1) (by simp; omega) (by simp; omega); simpa using this]
    have := h 0 (by simp) (by simp)
    simpa using this
def NoColl (a b : List ByteArray) (n : Nat) : Prop := ∀ k (h1 : k < a.length) (h2 : k < b.length), k < n → collB a[k] b[k] = false

set_option maxRecDepth 100000 in
set_option maxHeartbeats 4000000 in
theorem collide_any (a b : List ByteArray) (ad1 ad2 : Option Addr) (n1 n2 c1 c2 : Nat) (w : World) (h1 : Holds w ad1 c1 a) (h2 : Holds w ad2 c2 b) (hn1 : a.length = n1) (hn2 : b.length = n2) (hs1 : Small a) (hs2 : Small b) (hR : Ready w) :
    Calls Tryd.prog 35 #[.slice ad1 n1 c1, .slice ad2 n2 c2] w fun e w' => e = .returned (.bool (collF a b)) ∧ Below w.heap.size w w' := by
  have hlen1 : n1 ≤ 1099511627776 := by have := h1.2.1; omega
  have hlen2 : n2 ≤ 1099511627776 := by have := h2.2.1; omega
  have H1 := Lib.hid h1; have H2 := Lib.hid h2; have S1 := Lib.hid hs1; have S2 := Lib.hid hs2; have HR := Lib.hid hR; have N1 := Lib.hid hn1; have N2 := Lib.hid hn2
  clear h1 h2 hs1 hs2 hR hn1 hn2
  obtain ⟨r, hr⟩ : ∃ r, collF a b = r := ⟨_, rfl⟩
  rw [hr]
  have HRR := Lib.hid hr
  clear hr
  go_enter Tryd.func35, Tryd.ntmps35
  go_wp2_with fail
  go_loopw [5] (fun i wr => ∃ k : Nat, k ≤ n1 ∧ i = .int .i64 k ∧ Hid (NoColl a b k) ∧ Hid (Below w.heap.size w wr)) (fun i _ => n1 - (RowKit.intOf i).toNat)
  case atStart => exact ⟨0, by omega, rfl, (by intro k _ _ h; omega : NoColl a b 0), Below.refl _ _⟩
  case round =>
    obtain ⟨k, hk, rfl, hno, hb⟩ := hrel
    by_cases hlt1 : k < n1
    · have hi1 : (k : Int) < (n1 : Int) := by omega
      by_cases hlt2 : k < n2
      · have hi2 : (k : Int) < (n2 : Int) := by omega
        have hka : k < a.length := by rw [N1.out]; exact hlt1
        have hkb : k < b.length := by rw [N2.out]; exact hlt2
        obtain ⟨b1, o1, rfl, hl1, hS1⟩ := H1.out.at (by omega)
        obtain ⟨b2, o2, rfl, hl2, hS2⟩ := H2.out.at (by omega)
        have hz1 := S1.out a[k] (List.getElem_mem _)
        have hz2 := S2.out b[k] (List.getElem_mem _)
        have hcat := collF_at a b k hka hkb
        have hnext : collB a[k] b[k] = false → NoColl a b (k + 1) := fun hc j j1 j2 hj => by
          by_cases hjk : j = k
          · subst hjk; exact hc
          · exact hno.out j j1 j2 (by omega)
        have hm1 := fun W (h : Below w.heap.size w W) => (h.cell (p := ⟨b1, o1 + k, none⟩) hl1).trans (hS1 k hka)
        have hm2 := fun W (h : Below w.heap.size w W) => (h.cell (p := ⟨b2, o2 + k, none⟩) hl2).trans (hS2 k hkb)
        obtain ⟨x, hx⟩ : ∃ x, a[k] = x := ⟨_, rfl⟩
        obtain ⟨y, hy⟩ : ∃ y, b[k] = y := ⟨_, rfl⟩
        rw [hx] at hz1 hcat hnext hm1
        rw [hy] at hz2 hcat hnext hm2
        have hc1 := hm1 wr hb.out
        have hc2 := hm2 wr hb.out
        have HC1 := Lib.hid hm1; have HC2 := Lib.hid hm2; have HAT := Lib.hid hcat; have HNX := Lib.hid hnext
        clear hx hy hm1 hm2 hcat hnext hka hkb hS1 hS2 hl1 hl2
        by_cases hxy : x = y
        · subst hxy
          have hcb : collB x x = false := by simp [collB]
          have he1 : (x.toList == x.toList) = true := by simp
          have HCB := Lib.hid hcb
          clear hcb
          go_wp2_with fail
          go_quiet (fail)
          go_wp2
          go_roundw
          case rel => exact ⟨k + 1, by omega, by go_num, HNX.out HCB.out, below_same hb.out rfl rfl rfl rfl⟩
          case measure => simp [RowKit.intOf]; omega
        · have he1 : (x.toList == y.toList) = false := by rw [str_eq_iff, decide_eq_false hxy]
          have he2 : (x.toList != y.toList) = true := by rw [bne, he1]; rfl
          have cs1 := fun W h => sum_any x hz1 W h
          have cs2 := fun W h => sum_any y hz2 W h
          have hcb : collB x y = decide (sha x = sha y) := by unfold collB; rw [decide_eq_true hxy, Bool.true_and]
          obtain ⟨X, hX⟩ : ∃ X, sha x = X := ⟨_, rfl⟩
          obtain ⟨Y, hY⟩ : ∃ Y, sha y = Y := ⟨_, rfl⟩
          rw [hX] at hcb cs1
          rw [hY] at hcb cs2
          have C1 := Lib.hid cs1; have C2 := Lib.hid cs2
          clear hX hY cs1 cs2
          by_cases hXY : X = Y
          · have hrt : true = r := by rw [← HRR.out]; exact (HAT.out (by rw [hcb, decide_eq_true hXY])).symm
            have hq : (X.toList == Y.toList) = true := by rw [str_eq_iff, decide_eq_true hXY]
            have HRT := Lib.hid hrt; have HNE := Lib.hid hxy
            clear hcb hXY hrt hxy
            go_wp2_with fail
            go_region_held3 (fun w' => w'.cell? ⟨b1, o1 + k, none⟩ = some (.string x) ∧ w'.cell? ⟨b2, o2 + k, none⟩ = some (.string y))
              (first | go_keep | exact ⟨HC1.out _ hbB, HC2.out _ hbB⟩ | exact ⟨HC1.out _ hbA, HC2.out _ hbA⟩)
              (first
                | (go_at_call 13; (with_reducible refine (C1.out _ ?_).mono ?_); exact ready_same (HR.out.below hb.out) rfl rfl rfl rfl; rintro e wA ⟨rfl, bA⟩; have hbA := Below.on hb.out bA hb.out.size rfl rfl rfl rfl)
                | (go_at_call 13; (with_reducible refine (C2.out _ ?_).mono ?_); exact ready_same (HR.out.below hbA) rfl rfl rfl rfl; rintro e wB ⟨rfl, bB⟩; have hbB := Below.on hbA bB hbA.size rfl rfl rfl rfl))
            go_wp2
            go_ret
            exact ⟨ret_bool HRT.out, hbB⟩
          · have hcf : collB x y = false := by rw [hcb, decide_eq_false hXY]
            have hq : (X.toList == Y.toList) = false := by rw [str_eq_iff, decide_eq_false hXY]
            have HCF := Lib.hid hcf; have HNE := Lib.hid hxy
            clear hcb hXY hcf hxy
            go_wp2_with fail
            go_region_held3 (fun w' => w'.cell? ⟨b1, o1 + k, none⟩ = some (.string x) ∧ w'.cell? ⟨b2, o2 + k, none⟩ = some (.string y))
              (first | go_keep | exact ⟨HC1.out _ hbB, HC2.out _ hbB⟩ | exact ⟨HC1.out _ hbA, HC2.out _ hbA⟩)
              (first
                | (go_at_call 13; (with_reducible refine (C1.out _ ?_).mono ?_); exact ready_same (HR.out.below hb.out) rfl rfl rfl rfl; rintro e wA ⟨rfl, bA⟩; have hbA := Below.on hb.out bA hb.out.size rfl rfl rfl rfl)
                | (go_at_call 13; (with_reducible refine (C2.out _ ?_).mono ?_); exact ready_same (HR.out.below hbA) rfl rfl rfl rfl; rintro e wB ⟨rfl, bB⟩; have hbB := Below.on hbA bB hbA.size rfl rfl rfl rfl))
            go_wp2
            go_roundw
            case rel => exact ⟨k + 1, by omega, by go_num, HNX.out HCF.out, hbB⟩
            case measure => simp [RowKit.intOf]; omega
      · have hi2 : ¬ (k : Int) < (n2 : Int) := by omega
        have hrf : false = r := by rw [← HRR.out]; exact (collF_none a b fun j j1 j2 => hno.out j j1 j2 (by rw [N2.out] at j2; omega)).symm
        have HRF := Lib.hid hrf
        clear hrf
        go_wp2_with fail
        go_ret
        exact ⟨ret_bool HRF.out, hb.out⟩
    · have hi1 : ¬ (k : Int) < (n1 : Int) := by omega
      have hrf : false = r := by rw [← HRR.out]; exact (collF_none a b fun j j1 j2 => hno.out j j1 j2 (by rw [N1.out] at j1; omega)).symm
      have HRF := Lib.hid hrf
      clear hrf
      go_wp2_with fail
      go_ret
      exact ⟨ret_bool HRF.out, hb.out⟩
end Go.Proofs.YtoaaelnmbpmbeaaDoor
