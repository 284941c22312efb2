/-
  The contract of the law's sides: the strings of which Sum is computed for the new root of an extension.
-/
import Derived.Test.YtoaaelnmbpmbeaaDoorBig
namespace Go.Proofs.YtoaaelnmbpmbeaaDoor
open Go Go.Proofs Go.RowKit Go.Lib

theorem sideV_size : ∀ (r : List ByteArray) (old : ByteArray) (m n : Nat) (w : Bool), old.size ≤ 1000 → (∀ x ∈ r, x.size ≤ 1000) → (sideV old m n w r).size ≤ 1000
  | [], old, m, n, w, ho, _ => ho
  | x :: r, old, m, n, w, ho, hr => by
    simp only [sideV]
    split
    · split
      · exact ho
      · have : (x :: r).getLastD old ∈ x :: r := by
          rw [List.getLastD_cons]
          rcases r with _ | ⟨y, r⟩
          · simp
          · rw [List.getLastD_eq_getLast?, List.getLast?_eq_some_getLast (by simp)]
            simp only [Option.getD_some]
            exact List.mem_cons_of_mem _ (List.getLast_mem _)
        exact hr _ this
    · split <;> (rw [nodeF_size]; decide)
theorem sideR_length : ∀ (r : List ByteArray) (old : ByteArray) (m n : Nat) (w : Bool), (sideR old m n w r).length ≤ r.length
  | [], old, m, n, w => by simp [sideR]
  | x :: r, old, m, n, w => by
    have h1 := sideR_length r old m (splitN n) w
    have h2 := sideR_length r old (m - splitN n) (n - splitN n) false
    simp only [sideR]
    split
    · simp
    · split <;> simp <;> omega
theorem sideR_small : ∀ (r : List ByteArray) (old : ByteArray) (m n : Nat) (w : Bool), old.size ≤ 1000 → (∀ x ∈ r, x.size ≤ 1000) → Small (sideR old m n w r)
  | [], old, m, n, w, ho, _ => by intro x hx; simp [sideR] at hx
  | x :: r, old, m, n, w, ho, hr => by
    have hx := hr x (by simp)
    have hr' : ∀ x ∈ r, x.size ≤ 1000 := fun y hy => hr y (by simp [hy])
    have h1 := sideR_small r old m (splitN n) w ho hr'
    have h2 := sideR_small r old (m - splitN n) (n - splitN n) false ho hr'
    have z1 := sideV_size r old m (splitN n) w ho hr'
    have z2 := sideV_size r old (m - splitN n) (n - splitN n) false ho hr'
    simp only [sideR]
    split
    · intro y hy; cases hy
    · split
      · intro y hy
        rcases List.mem_cons.1 hy with rfl | hy
        · rw [tagged_size, ByteArray.size_append]; omega
        · exact h1 y hy
      · intro y hy
        rcases List.mem_cons.1 hy with rfl | hy
        · rw [tagged_size, ByteArray.size_append]; omega
        · exact h2 y hy
theorem side_end {old : ByteArray} {m n : Nat} {w : Bool} {p : List ByteArray} (h : n ≤ m ∨ p.length = 0) (hw : w = true ∨ p.length = 0) : sideR old m n w p.reverse = [] ∧ sideV old m n w p.reverse = old := by
  by_cases hp : p.length = 0
  · obtain rfl : p = [] := List.eq_nil_of_length_eq_zero hp
    exact ⟨rfl, rfl⟩
  · have hn : n ≤ m := by omega
    obtain rfl : w = true := by rcases hw with h | h; exact h; exact absurd h hp
    obtain ⟨y, r, hyr⟩ := List.exists_cons_of_ne_nil (l := p.reverse) (by intro h; simp at h; subst h; exact hp rfl)
    rw [hyr]
    simp [sideR, sideV, hn]
theorem side_first {old : ByteArray} {m n : Nat} {p : List ByteArray} (h : n ≤ m) (hp : 0 < p.length) : sideR old m n false p.reverse = [] ∧ sideV old m n false p.reverse = p[0] := by
  obtain ⟨y, p', rfl⟩ := List.exists_cons_of_ne_nil (l := p) (by intro h; subst h; simp at hp)
  obtain ⟨z, r, hyr⟩ := List.exists_cons_of_ne_nil (l := (y :: p').reverse) (by simp)
  have hl : (z :: r).getLastD old = y := by rw [← hyr, List.reverse_cons, List.getLastD_concat]
  rw [hyr]
  refine ⟨by simp [sideR, h], ?_⟩
  simp only [sideV]
  rw [if_pos h]
  simpa using hl

set_option maxRecDepth 100000 in
set_option maxHeartbeats 4000000 in
theorem sides_any : ∀ (N : Nat) (p : List ByteArray) (old : ByteArray) (m n : Nat) (wh : Bool) (ad : Option Addr) (cap : Nat) (w : World), p.length ≤ N → 1 ≤ m → m ≤ 9223372036854775807 → n ≤ 9223372036854775807 → old.size ≤ 1000 → Holds w ad cap p → (∀ x ∈ p, x.size ≤ 1000) → p.length ≤ 1000 → Ready w →
    Calls Tryd.prog 37 #[.string old, .int .i64 (m : Nat), .int .i64 (n : Nat), .slice ad p.length cap, .bool wh] w (WayPost w (sideR old m n wh p.reverse) (sideV old m n wh p.reverse)) := by
  intro N
  induction N with
  | zero =>
    intro p old m n wh ad cap w hN hm1 hm9 hn hs hH hM hp1 hR
    have hp0 : p.length = 0 := by omega
    obtain ⟨e1, e2⟩ := side_end (old := old) (m := m) (n := n) (w := wh) (p := p) (.inr hp0) (.inr hp0)
    rw [e1, e2, hp0]
    clear e1 e2 hM hH hR hp0 hp1 hN
    by_cases hz : n ≤ m
    · have hz1 : (n : Int) ≤ (m : Int) := by omega
      clear hz
      cases wh with
      | true =>
        go_enter Tryd.func37, Tryd.ntmps37
        go_wp2_with fail
        go_ret2
        exact ⟨_, rfl, OwnStrs.nil _ _, Below.refl _ _⟩
      | false =>
        go_enter Tryd.func37, Tryd.ntmps37
        go_wp2_with fail
        go_ret2
        exact ⟨_, rfl, OwnStrs.nil _ _, Below.refl _ _⟩
    · have hz1 : ¬ (n : Int) ≤ (m : Int) := by omega
      clear hz
      cases wh with
      | true =>
        go_enter Tryd.func37, Tryd.ntmps37
        go_wp2_with fail
        go_ret2
        exact ⟨_, rfl, OwnStrs.nil _ _, Below.refl _ _⟩
      | false =>
        go_enter Tryd.func37, Tryd.ntmps37
        go_wp2_with fail
        go_ret2
        exact ⟨_, rfl, OwnStrs.nil _ _, Below.refl _ _⟩
  | succ N ih =>
    intro p old m n wh ad cap w hN hm1 hm9 hn hs hH hM hp1 hR
    by_cases hp : p.length = 0
    · exact ih p old m n wh ad cap w (by omega) hm1 hm9 hn hs hH hM hp1 hR
    · by_cases hz : n ≤ m
      · have hz1 : (n : Int) ≤ (m : Int) := by omega
        have hp2 : ((p.length : Int) == 0) = false := by rw [beq_eq_false_iff_ne]; omega
        cases wh with
        | true =>
          obtain ⟨e1, e2⟩ := side_end (old := old) (m := m) (n := n) (w := true) (p := p) (.inl hz) (.inl rfl)
          rw [e1, e2]
          obtain ⟨pn, hpn⟩ : ∃ n, p.length = n := ⟨_, rfl⟩
          rw [hpn]
          clear e1 e2 hM hH hR ih hpn hz hN hp hp1 hp2
          go_enter Tryd.func37, Tryd.ntmps37
          go_wp2_with fail
          go_ret2
          exact ⟨_, rfl, OwnStrs.nil _ _, Below.refl _ _⟩
        | false =>
          obtain ⟨e1, e2⟩ := side_first (old := old) (m := m) (n := n) (p := p) hz (by omega)
          rw [e1, e2]
          obtain ⟨b, o, rfl, hlt, hS⟩ := hH.at (by omega)
          have hcell := hS 0 (by omega)
          obtain ⟨y, hy⟩ : ∃ y, p[0] = y := ⟨_, rfl⟩
          rw [hy] at hcell ⊢
          rw [Nat.add_zero] at hcell
          have hp3 : 0 < p.length := by omega
          obtain ⟨pn, hpn⟩ : ∃ n, p.length = n := ⟨_, rfl⟩
          rw [hpn] at hp1 hp2 hp3 ⊢
          have hp4 : (0 : Int) < (pn : Int) := by omega
          clear e1 e2 hM hH hR ih hpn hz hN hp hS hy
          go_enter Tryd.func37, Tryd.ntmps37
          go_wp2_with fail
          go_quiet (fail)
          go_wp2
          go_ret2
          exact ⟨_, rfl, OwnStrs.nil _ _, below_same (Below.refl _ _) rfl rfl rfl rfl⟩
      · have h1 : ¬ n ≤ m := hz
        obtain ⟨q, x, rfl, hq⟩ := last_of (l := p) (by omega)
        obtain ⟨b, o, rfl, hlt, hS⟩ := hH.at (by omega)
        have hcap := hH.2.1
        have hlc := hH.1
        obtain ⟨j, hj⟩ : ∃ m, q.length = m := ⟨_, rfl⟩
        have hpl : (q ++ [x]).length = j + 1 := by simp [hj]
        have hcell : w.cell? ⟨b, o + j, none⟩ = some (.string x) := by
          have := hS j (by omega)
          simpa [← hj] using this
        have hHq : Holds w (some ⟨b, o, none⟩) cap q := ⟨by omega, by omega, .inr ⟨b, o, rfl, hlt, by have := hS.take j; rwa [← hj, List.take_left] at this⟩⟩
        have hMq : ∀ x ∈ q, x.size ≤ 1000 := fun s hs => hM s (by simp [hs])
        have hx := hM x (by simp)
        have hrev : (q ++ [x]).reverse = x :: q.reverse := by simp
        have hMr : ∀ x ∈ q.reverse, x.size ≤ 1000 := fun s hs => hMq s (by simpa using hs)
        rw [hpl] at hlc hN hcap hp1 ⊢
        rw [hrev]
        have hsl := fun w => slice_lo b o (j + 1) cap j (by omega) w
        have hz1 : ¬ (n : Int) ≤ (m : Int) := by omega
        have hk := splitN_lt (n := n) (by omega)
        have hkp := splitN_pos n
        have cl := left_any n (by omega) hn
        simp only [sideV, sideR]
        rw [if_neg h1, if_neg h1]
        obtain ⟨k, ek⟩ : ∃ k, splitN n = k := ⟨_, rfl⟩
        rw [ek] at hk hkp cl ⊢
        have CL := Lib.hid cl; have HR := Lib.hid hR
        clear cl ek hrev hpl hH hM hS hR h1 hp hz
        by_cases hik : m ≤ k
        · rw [if_pos hik, if_pos hik]
          have hik2 : (m : Int) ≤ (k : Int) := by omega
          have c := ih q old m k wh (some ⟨b, o, none⟩) cap w (by omega) hm1 hm9 (by omega) hs hHq hMq (by omega) HR.out
          have hvs := sideV_size q.reverse old m k wh hs hMr
          have hrl := sideR_length q.reverse old m k wh
          rw [List.length_reverse, hj] at hrl
          rw [hj] at c
          obtain ⟨v, ev⟩ : ∃ v, sideV old m k wh q.reverse = v := ⟨_, rfl⟩
          obtain ⟨l, el⟩ : ∃ l, sideR old m k wh q.reverse = l := ⟨_, rfl⟩
          rw [ev] at c hvs ⊢
          rw [el] at c hrl ⊢
          have hta := tagged_assoc 1 v x
          have cn := fun W h => node_any v x (by omega) (by omega) W h
          obtain ⟨nv, env⟩ : ∃ nv, nodeF v x = nv := ⟨_, rfl⟩
          rw [env] at cn ⊢
          have C := Lib.hid c; have CN := Lib.hid cn; have HTA := Lib.hid hta
          clear c cn hta env ev el ih hHq hMq hMr hq hj hlt
          go_enter Tryd.func37, Tryd.ntmps37
          go_wp2_with fail
          refine (CL.out _).mono ?_
          rintro e w' ⟨rfl, rfl⟩
          go_wp2_with fail
          refine C.out.mono ?_
          rintro e W1 ⟨v1, rfl, ho1, hb1⟩
          go_wp2_with (first
            | (at_builtin; refine walk_push_all (w0 := w) rfl _ _ rfl w.heap.size _ [_] l rfl (own_one W1 w.heap.size _ hb1.size) (hb1.alloc hb1.size _) (Nat.le_trans hb1.size (by simp)) _ rfl l.length ⟨w.heap.size, OwnStrs.alloc ho1 _⟩ rfl (by simp) (by omega) ?_; intro v2 W2 ho2 hb2))
          refine (CN.out _ (HR.out.below hb2)).mono ?_
          rintro e W3 ⟨rfl, hb3⟩
          go_wp2
          go_ret2
          exact ⟨_, rfl, by rw [← HTA.out]; exact OwnStrs.below ho2 hb3 (Nat.le_refl _), hb2.trans (hb3.mono hb2.size)⟩
        · rw [if_neg hik, if_neg hik]
          have hik2 : ¬ (m : Int) ≤ (k : Int) := by omega
          have c := ih q old (m - k) (n - k) false (some ⟨b, o, none⟩) cap w (by omega) (by omega) (by omega) (by omega) hs hHq hMq (by omega) HR.out
          have hvs := sideV_size q.reverse old (m - k) (n - k) false hs hMr
          have hrl := sideR_length q.reverse old (m - k) (n - k) false
          rw [List.length_reverse, hj] at hrl
          rw [hj, show ((n - k : Nat) : Int) = (n : Int) - (k : Int) by omega, show ((m - k : Nat) : Int) = (m : Int) - (k : Int) by omega] at c
          obtain ⟨v, ev⟩ : ∃ v, sideV old (m - k) (n - k) false q.reverse = v := ⟨_, rfl⟩
          obtain ⟨l, el⟩ : ∃ l, sideR old (m - k) (n - k) false q.reverse = l := ⟨_, rfl⟩
          rw [ev] at c hvs ⊢
          rw [el] at c hrl ⊢
          have hta := tagged_assoc 1 x v
          have cn := fun W h => node_any x v (by omega) (by omega) W h
          obtain ⟨nv, env⟩ : ∃ nv, nodeF x v = nv := ⟨_, rfl⟩
          rw [env] at cn ⊢
          have C := Lib.hid c; have CN := Lib.hid cn; have HTA := Lib.hid hta
          clear c cn hta env ev el ih hHq hMq hMr hq hj hlt
          go_enter Tryd.func37, Tryd.ntmps37
          go_wp2_with fail
          refine (CL.out _).mono ?_
          rintro e w' ⟨rfl, rfl⟩
          go_wp2_with fail
          refine C.out.mono ?_
          rintro e W1 ⟨v1, rfl, ho1, hb1⟩
          go_wp2_with (first
            | (at_builtin; refine walk_push_all (w0 := w) rfl _ _ rfl w.heap.size _ [_] l rfl (own_one W1 w.heap.size _ hb1.size) (hb1.alloc hb1.size _) (Nat.le_trans hb1.size (by simp)) _ rfl l.length ⟨w.heap.size, OwnStrs.alloc ho1 _⟩ rfl (by simp) (by omega) ?_; intro v2 W2 ho2 hb2))
          refine (CN.out _ (HR.out.below hb2)).mono ?_
          rintro e W3 ⟨rfl, hb3⟩
          go_wp2
          go_ret2
          exact ⟨_, rfl, by rw [← HTA.out]; exact OwnStrs.below ho2 hb3 (Nat.le_refl _), hb2.trans (hb3.mono hb2.size)⟩
end Go.Proofs.YtoaaelnmbpmbeaaDoor
