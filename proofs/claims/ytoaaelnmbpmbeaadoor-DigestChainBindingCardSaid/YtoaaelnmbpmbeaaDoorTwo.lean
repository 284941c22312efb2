/-
  The contract of digest.twoValues.
-/
import Derived.Test.YtoaaelnmbpmbeaaDoorVerify
import Derived.OwnWalk
namespace Go.Proofs.YtoaaelnmbpmbeaaDoor
open Go Go.Proofs Go.RowKit Go.Lib

/-- What twoValues leaves. -/
def TwoPost (w : World) (old : ByteArray) (m n : Nat) (wh : Bool) (p : List ByteArray) (e : Ending) (w' : World) : Prop :=
  ∃ (a b : ByteArray) (ok : Bool), e = .returned (.tuple #[.string a, .string b, .bool ok]) ∧ twoF old m n wh p = (if ok then some (a, b) else none) ∧ a.size ≤ 1099511627776 ∧ b.size ≤ 1099511627776 ∧ Below w.heap.size w w'
theorem twoF_whole_nil (old : ByteArray) (n : Nat) : twoF old n n true [] = some (old, old) := by unfold twoF; rw [List.reverse_nil, twoR_whole, if_pos rfl]
theorem twoF_self_nil (old : ByteArray) (n : Nat) : twoF old n n false [] = none := by unfold twoF; rw [List.reverse_nil, twoR_self]
theorem twoF_nil (old : ByteArray) {m n : Nat} (h : ¬ m = n) (wh : Bool) : twoF old m n wh [] = none := by unfold twoF; rw [List.reverse_nil, twoR_nil _ h]
theorem twoF_whole_snoc (old : ByteArray) (n : Nat) (q : List ByteArray) (x : ByteArray) : twoF old n n true (q ++ [x]) = none := by unfold twoF; rw [twoR_whole, if_neg (by simp)]
theorem twoF_self_one (old : ByteArray) (n : Nat) (x : ByteArray) : twoF old n n false ([] ++ [x]) = some (x, x) := by unfold twoF; rw [twoR_self]; rfl
theorem twoF_self_more (old : ByteArray) (n : Nat) (q : List ByteArray) (x : ByteArray) (h : ¬ q.length = 0) : twoF old n n false (q ++ [x]) = none := by
  unfold twoF
  rw [twoR_self, List.reverse_append]
  cases hr : q.reverse with
  | nil => simp at hr; simp [hr] at h
  | cons y r => rfl
theorem twoF_snoc (old : ByteArray) {m n : Nat} (h : ¬ m = n) (wh : Bool) (q : List ByteArray) (x : ByteArray) : twoF old m n wh (q ++ [x]) =
    if m ≤ splitN n then (twoF old m (splitN n) wh q).map fun v => (v.1, nodeF v.2 x) else (twoF old (m - splitN n) (n - splitN n) false q).map fun v => (nodeF x v.1, nodeF x v.2) := by
  unfold twoF; rw [List.reverse_append]; exact twoR_cons old h wh x q.reverse

set_option maxRecDepth 100000 in
set_option maxHeartbeats 4000000 in
theorem two_any : ∀ (N : Nat) (p : List ByteArray) (old : ByteArray) (m n : Nat) (wh : Bool) (ad : Option Addr) (cap : Nat) (w : World), p.length ≤ N → 1 ≤ m → m ≤ n → n ≤ 9223372036854775807 → old.size ≤ 1099511627776 → Holds w ad cap p → Small p → Ready w →
    Calls Tryd.prog 52 #[.string old, .int .i64 (m : Nat), .int .i64 (n : Nat), .slice ad p.length cap, .bool wh] w (TwoPost w old m n wh p) := by
  intro N
  induction N with
  | zero =>
    intro p old m n wh ad cap w hN hm hmn hn hs hH hM hR
    have hp : p = [] := List.eq_nil_of_length_eq_zero (by omega)
    subst hp
    by_cases h1 : m = n
    · subst h1
      cases wh with
      | true =>
        have HV := Lib.hid (twoF_whole_nil old m)
        clear hH hM hR
        go_enter Tryd.func52, Tryd.ntmps52
        go_wp2_with fail
        go_ret3
        exact ⟨old, old, true, rfl, HV.out, hs, hs, Below.refl _ _⟩
      | false =>
        have HV := Lib.hid (twoF_self_nil old m)
        clear hH hM hR
        go_enter Tryd.func52, Tryd.ntmps52
        go_wp2_with fail
        go_ret3
        exact ⟨ByteArray.empty, ByteArray.empty, false, rfl, HV.out, by decide, by decide, Below.refl _ _⟩
    · have HV := Lib.hid (twoF_nil old h1 wh)
      have hmn1 : ((m : Int) == (n : Int)) = false := by rw [beq_eq_false_iff_ne]; omega
      clear hH hM hR h1
      go_enter Tryd.func52, Tryd.ntmps52
      go_wp2_with fail
      go_ret3
      exact ⟨ByteArray.empty, ByteArray.empty, false, rfl, HV.out, by decide, by decide, Below.refl _ _⟩
  | succ N ih =>
    intro p old m n wh ad cap w hN hm hmn hn hs hH hM hR
    by_cases hp : p.length = 0
    · exact ih p old m n wh ad cap w (by omega) hm hmn hn hs hH hM hR
    · obtain ⟨q, x, rfl, hq⟩ := last_of (l := p) (by omega)
      obtain ⟨b, o, rfl, hlt, hS⟩ := hH.at (by omega)
      have hcap := hH.2.1
      have hlc := hH.1
      obtain ⟨u, hu⟩ : ∃ u, q.length = u := ⟨_, rfl⟩
      have hpl : (q ++ [x]).length = u + 1 := by simp [hu]
      have hcell : w.cell? ⟨b, o + u, none⟩ = some (.string x) := by
        have := hS u (by omega)
        simpa [← hu] using this
      have hHq : Holds w (some ⟨b, o, none⟩) cap q := ⟨by omega, by omega, .inr ⟨b, o, rfl, hlt, by have := hS.take u; rwa [← hu, List.take_left] at this⟩⟩
      have hMq : Small q := fun s hs => hM s (by simp [hs])
      have hx := hM x (by simp)
      rw [hpl] at hlc hN hcap ⊢
      have hsl := fun w => slice_lo b o (u + 1) cap u (by omega) w
      by_cases h1 : m = n
      · subst h1
        cases wh with
        | true =>
          have HV := Lib.hid (twoF_whole_snoc old m q x)
          clear hH hM hR hS hHq hMq ih hu hpl hq
          go_enter Tryd.func52, Tryd.ntmps52
          go_wp2_with fail
          go_ret3
          exact ⟨old, old, false, rfl, HV.out, hs, hs, Below.refl _ _⟩
        | false =>
          by_cases hu0 : u = 0
          · have hq0 : q = [] := List.eq_nil_of_length_eq_zero (by omega)
            have hv1 : twoF old m m false (q ++ [x]) = some (x, x) := by rw [hq0]; exact twoF_self_one old m x
            have HV := Lib.hid hv1
            have hu1 : ((u : Int) == 0) = true := by rw [beq_iff_eq]; omega
            clear hH hM hR hS hHq hMq ih hu hpl hq hq0 hv1 hu0
            go_enter Tryd.func52, Tryd.ntmps52
            go_wp2_with fail
            go_ret3
            exact ⟨x, x, true, rfl, HV.out, hx, hx, Below.refl _ _⟩
          · have HV := Lib.hid (twoF_self_more old m q x (by omega))
            have hu1 : ((u : Int) == 0) = false := by rw [beq_eq_false_iff_ne]; omega
            have hu2 : 0 < u := by omega
            clear hH hM hR hS hHq hMq ih hu hpl hq
            go_enter Tryd.func52, Tryd.ntmps52
            go_wp2_with fail
            go_ret3
            exact ⟨x, x, false, rfl, HV.out, hx, hx, Below.refl _ _⟩
      · have hv := twoF_snoc old h1 wh q x
        have hmn1 : ((m : Int) == (n : Int)) = false := by rw [beq_eq_false_iff_ne]; omega
        have hk := splitN_lt (n := n) (by omega)
        have hp1 := splitN_pos n
        have csp := split_any n (by omega) hn
        obtain ⟨k, ek⟩ : ∃ k, splitN n = k := ⟨_, rfl⟩
        rw [ek] at hv hk hp1 csp
        have CS := Lib.hid csp
        clear csp ek
        by_cases hik : m ≤ k
        · rw [if_pos hik] at hv
          have hik2 : (m : Int) ≤ (k : Int) := by omega
          have c := ih q old m k wh (some ⟨b, o, none⟩) cap w (by omega) hm hik (by omega) hs hHq hMq hR
          rw [hu] at c
          have cn := fun v W (hv : v.size ≤ 1099511627776) (h : Below w.heap.size w W) => grown_call (node_any v x hv hx W (hR.below h)) h h.size
          have HV := Lib.hid hv; have C := Lib.hid c; have CN := Lib.hid cn
          clear hv c cn hH hM hR hS hHq hMq ih h1 hu hpl hq
          go_enter Tryd.func52, Tryd.ntmps52
          go_wp2_with fail
          refine (CS.out _).mono ?_
          rintro e w' ⟨rfl, rfl⟩
          go_wp2_with fail
          refine C.out.mono ?_
          rintro e W1 ⟨a1, b1, ok, rfl, hval, hs1, hs2, hb1⟩
          have HVAL := Lib.hid hval
          clear hval
          go_wp2_with fail
          refine (CN.out b1 W1 hs2 hb1).mono ?_
          rintro e W2 ⟨rfl, hb2⟩
          go_wp2
          go_ret3
          exact ⟨a1, _, ok, rfl, by rw [HV.out, HVAL.out]; cases ok <;> rfl, hs1, by rw [nodeF_size]; decide, hb2⟩
        · rw [if_neg hik] at hv
          have hik2 : ¬ (m : Int) ≤ (k : Int) := by omega
          have c := ih q old (m - k) (n - k) false (some ⟨b, o, none⟩) cap w (by omega) (by omega) (by omega) (by omega) hs hHq hMq hR
          rw [hu, show ((n - k : Nat) : Int) = (n : Int) - (k : Int) by omega, show ((m - k : Nat) : Int) = (m : Int) - (k : Int) by omega] at c
          have cn := fun v W (hv : v.size ≤ 1099511627776) (h : Below w.heap.size w W) => grown_call (node_any x v hx hv W (hR.below h)) h h.size
          have HV := Lib.hid hv; have C := Lib.hid c; have CN := Lib.hid cn
          clear hv c cn hH hM hR hS hHq hMq ih h1 hu hpl hq
          go_enter Tryd.func52, Tryd.ntmps52
          go_wp2_with fail
          refine (CS.out _).mono ?_
          rintro e w' ⟨rfl, rfl⟩
          go_wp2_with fail
          refine C.out.mono ?_
          rintro e W1 ⟨a1, b1, ok, rfl, hval, hs1, hs2, hb1⟩
          have HVAL := Lib.hid hval
          clear hval
          go_wp2_with fail
          refine (CN.out a1 W1 hs1 hb1).mono ?_
          rintro e W2 ⟨rfl, hb2⟩
          go_wp2_with fail
          refine (CN.out b1 W2 hs2 hb2).mono ?_
          rintro e W3 ⟨rfl, hb3⟩
          go_wp2
          go_ret3
          exact ⟨_, _, ok, rfl, by rw [HV.out, HVAL.out]; cases ok <;> rfl, by rw [nodeF_size]; decide, by rw [nodeF_size]; decide, hb3⟩
end Go.Proofs.YtoaaelnmbpmbeaaDoor
