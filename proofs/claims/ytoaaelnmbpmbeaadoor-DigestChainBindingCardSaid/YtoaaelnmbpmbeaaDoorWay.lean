/-
  The contract of the law's way: the strings of which Sum is computed for a proof.
-/
import Derived.Test.YtoaaelnmbpmbeaaDoorLawSplit
namespace Go.Proofs.YtoaaelnmbpmbeaaDoor
open Go Go.Proofs Go.RowKit Go.Lib

def WayPost (w : World) (l : List ByteArray) (v : ByteArray) (e : Ending) (w' : World) : Prop := ∃ x, e = .returned (.tuple #[x, .string v]) ∧ OwnStrs w' w.heap.size x l ∧ Below w.heap.size w w'
theorem way_grow {P : Program} {f : FuncId} {args : Array Value} {w W : World} {l : List ByteArray} {v : ByteArray} (c : Calls P f args W (WayPost W l v)) (hb : Below w.heap.size w W) :
    Calls P f args W (WayPost w l v) := c.mono fun _ _ ⟨x, he, ho, h⟩ => ⟨x, he, own_base ho hb.size, hb.trans (h.mono hb.size)⟩
theorem wayR_length : ∀ (r : List ByteArray) (n i : Nat) (s : ByteArray), (wayR n i s r).length ≤ r.length + 1
  | [], n, i, s => by simp [wayR]
  | x :: r, n, i, s => by
    have h1 := wayR_length r (splitN n) i s
    have h2 := wayR_length r (n - splitN n) (i - splitN n) s
    simp only [wayR]
    split
    · simp
    · split <;> simp <;> omega
theorem wayR_small : ∀ (r : List ByteArray) (n i : Nat) (s : ByteArray), s.size ≤ 1000 → (∀ x ∈ r, x.size ≤ 1000) → Small (wayR n i s r)
  | [], n, i, s, hs, _ => by
    intro x hx
    simp only [wayR, List.mem_singleton] at hx
    subst hx
    rw [tagged_size]; omega
  | x :: r, n, i, s, hs, hr => by
    have hx := hr x (by simp)
    have hr' : ∀ x ∈ r, x.size ≤ 1000 := fun y hy => hr y (by simp [hy])
    have h1 := wayR_small r (splitN n) i s hs hr'
    have h2 := wayR_small r (n - splitN n) (i - splitN n) s hs hr'
    have z1 := wayV_size (splitN n) i s r
    have z2 := wayV_size (n - splitN n) (i - splitN n) s r
    simp only [wayR]
    split
    · intro y hy
      simp only [List.mem_singleton] at hy
      subst hy
      rw [tagged_size]; omega
    · split
      · intro y hy
        rcases List.mem_cons.1 hy with rfl | hy
        · rw [tagged_size, ByteArray.size_append]; omega
        · exact h1 y hy
      · intro y hy
        rcases List.mem_cons.1 hy with rfl | hy
        · rw [tagged_size, ByteArray.size_append]; omega
        · exact h2 y hy
theorem tagged_assoc (t : UInt8) (a b : ByteArray) : (⟨#[t]⟩ ++ a) ++ b = tagged t (a ++ b) := by
  unfold tagged; rw [ByteArray.append_assoc]

set_option maxRecDepth 100000 in
set_option maxHeartbeats 4000000 in
theorem way_any : ∀ (N : Nat) (p : List ByteArray) (n i : Nat) (s : ByteArray) (ad : Option Addr) (cap : Nat) (w : World), p.length ≤ N → i < n → n ≤ 9223372036854775807 → s.size ≤ 1000 → Holds w ad cap p → (∀ x ∈ p, x.size ≤ 1000) → p.length ≤ 1000 → Ready w →
    Calls Tryd.prog 34 #[.int .i64 (n : Nat), .int .i64 (i : Nat), .string s, .slice ad p.length cap] w (WayPost w (wayR n i s p.reverse) (wayV n i s p.reverse)) := by
  intro N
  induction N with
  | zero =>
    intro p n i s ad cap w hN hi hn hs hH hM hp1 hR
    have hp : p = [] := List.eq_nil_of_length_eq_zero (by omega)
    subst hp
    have C := Lib.hid (fun W h => leaf_any s (by omega) W h); have HR := Lib.hid hR
    obtain ⟨v, hve⟩ : ∃ v, leafF s = v := ⟨_, rfl⟩
    have HV := Lib.hid hve
    rw [hve] at C
    clear hve hH hM hR
    have hgo : ∀ (W : World), W = w → Calls Tryd.prog 34 #[.int .i64 (n : Nat), .int .i64 (i : Nat), .string s, .slice ad 0 cap] w (WayPost w [tagged 0 s] v) := by
      intro W hW
      clear hW
      by_cases h1 : (n : Int) ≤ 1
      · go_enter Tryd.func34, Tryd.ntmps34
        go_wp2_with fail
        refine (C.out _ (HR.out.below ((Below.refl _ _).alloc (Nat.le_refl _) _))).mono ?_
        rintro e w' ⟨rfl, hb⟩
        go_wp2
        go_ret2
        exact ⟨_, rfl, OwnStrs.below (own_one w w.heap.size _ (Nat.le_refl _)) hb (Nat.le_refl _), ((Below.refl w.heap.size w).alloc (Nat.le_refl _) _).trans (hb.mono (by simp))⟩
      · go_enter Tryd.func34, Tryd.ntmps34
        go_wp2_with fail
        refine (C.out _ (HR.out.below ((Below.refl _ _).alloc (Nat.le_refl _) _))).mono ?_
        rintro e w' ⟨rfl, hb⟩
        go_wp2
        go_ret2
        exact ⟨_, rfl, OwnStrs.below (own_one w w.heap.size _ (Nat.le_refl _)) hb (Nat.le_refl _), ((Below.refl w.heap.size w).alloc (Nat.le_refl _) _).trans (hb.mono (by simp))⟩
    have := hgo w rfl
    rw [← HV.out] at this
    exact this
  | succ N ih =>
    intro p n i s ad cap w hN hi hn hs hH hM hp1 hR
    by_cases hp : p.length = 0
    · exact ih p n i s ad cap w (by omega) hi hn hs hH hM hp1 hR
    · by_cases h1 : n ≤ 1
      · have e : p.reverse ≠ [] := by intro h; simp at h; subst h; exact hp rfl
        obtain ⟨y, r, hyr⟩ := List.exists_cons_of_ne_nil e
        have hvl : wayV n i s p.reverse = leafF s := by rw [hyr]; simp only [wayV]; rw [if_pos h1]
        have hrl : wayR n i s p.reverse = [tagged 0 s] := by rw [hyr]; simp only [wayR]; rw [if_pos h1]
        rw [hvl, hrl]
        obtain ⟨pn, hpn⟩ : ∃ pn, p.length = pn := ⟨_, rfl⟩
        have C := Lib.hid (fun W h => leaf_any s (by omega) W h); have HR := Lib.hid hR
        obtain ⟨v, hve⟩ : ∃ v, leafF s = v := ⟨_, rfl⟩
        rw [hve] at C ⊢
        rw [hpn]
        have h2 : (n : Int) ≤ 1 := by omega
        clear hve hH hM hR ih hvl hrl hyr e h1 hp hN hp1 hpn
        go_enter Tryd.func34, Tryd.ntmps34
        go_wp2_with fail
        refine (C.out _ (HR.out.below ((Below.refl _ _).alloc (Nat.le_refl _) _))).mono ?_
        rintro e w' ⟨rfl, hb⟩
        go_wp2
        go_ret2
        exact ⟨_, rfl, OwnStrs.below (own_one w w.heap.size _ (Nat.le_refl _)) hb (Nat.le_refl _), ((Below.refl w.heap.size w).alloc (Nat.le_refl _) _).trans (hb.mono (by simp))⟩
      · obtain ⟨q, x, rfl, hq⟩ := last_of (l := p) (by omega)
        obtain ⟨b, o, rfl, hlt, hS⟩ := hH.at (by omega)
        have hcap := hH.2.1
        have hlc := hH.1
        obtain ⟨m, hm⟩ : ∃ m, q.length = m := ⟨_, rfl⟩
        have hpl : (q ++ [x]).length = m + 1 := by simp [hm]
        have hcell : w.cell? ⟨b, o + m, none⟩ = some (.string x) := by
          have := hS m (by omega)
          simpa [← hm] using this
        have hHq : Holds w (some ⟨b, o, none⟩) cap q := ⟨by omega, by omega, .inr ⟨b, o, rfl, hlt, by have := hS.take m; rwa [← hm, List.take_left] at this⟩⟩
        have hMq : ∀ x ∈ q, x.size ≤ 1000 := fun s hs => hM s (by simp [hs])
        have hx := hM x (by simp)
        have hrev : (q ++ [x]).reverse = x :: q.reverse := by simp
        rw [hpl] at hlc hN hcap hp1 ⊢
        rw [hrev]
        have hsl := fun w => slice_lo b o (m + 1) cap m (by omega) w
        have hz2 : ¬ (n : Int) ≤ 1 := by omega
        have hk := splitN_lt (n := n) (by omega)
        have hkp := splitN_pos n
        have cl := left_any n (by omega) hn
        simp only [wayV, wayR]
        rw [if_neg h1, if_neg h1]
        obtain ⟨k, ek⟩ : ∃ k, splitN n = k := ⟨_, rfl⟩
        rw [ek] at hk hkp cl ⊢
        have CL := Lib.hid cl; have HR := Lib.hid hR
        clear cl ek hrev hpl hH hM hS hR h1 hp
        by_cases hik : i < k
        · rw [if_pos hik, if_pos hik]
          have hik2 : (i : Int) < (k : Int) := by omega
          have c := ih q k i s (some ⟨b, o, none⟩) cap w (by omega) hik (by omega) hs hHq hMq (by omega) HR.out
          have hvs := wayV_size k i s q.reverse
          have hrl := wayR_length q.reverse k i s
          rw [List.length_reverse, hm] at hrl
          rw [hm] at c
          obtain ⟨v, ev⟩ : ∃ v, wayV k i s q.reverse = v := ⟨_, rfl⟩
          obtain ⟨l, el⟩ : ∃ l, wayR k i s q.reverse = l := ⟨_, rfl⟩
          rw [ev] at c hvs ⊢
          rw [el] at c hrl ⊢
          have hta := tagged_assoc 1 v x
          have cn := fun W h => node_any v x (by omega) (by omega) W h
          obtain ⟨nv, env⟩ : ∃ nv, nodeF v x = nv := ⟨_, rfl⟩
          rw [env] at cn ⊢
          have C := Lib.hid c; have CN := Lib.hid cn; have HTA := Lib.hid hta; have HCB := Lib.hid (fun W (h : Below w.heap.size w W) => (h.cell (p := ⟨b, o + m, none⟩) hlt).trans hcell)
          clear c cn hta env ev el ih hHq hMq hq hm hlt
          go_enter Tryd.func34, Tryd.ntmps34
          go_wp2_with fail
          refine (CL.out _).mono ?_
          rintro e w' ⟨rfl, rfl⟩
          go_wp2_with fail
          refine C.out.mono ?_
          rintro e W1 ⟨v1, rfl, ho1, hb1⟩
          go_wp2_with (first
            | (at_builtin; refine walk_push_all (w0 := w) rfl _ _ rfl w.heap.size _ [_] l rfl (own_one W1 w.heap.size _ hb1.size) (hb1.alloc hb1.size _) (Nat.le_trans hb1.size (by simp)) _ rfl l.length ⟨w.heap.size, OwnStrs.alloc ho1 _⟩ rfl (by simp) (by omega) ?_; intro v2 W2 ho2 hb2))
          refine (CN.out _ (HR.out.below hb2)).mono ?_
          rintro e W3 ⟨rfl, hb3⟩
          go_wp2
          go_ret2
          exact ⟨_, rfl, by rw [← HTA.out]; exact OwnStrs.below ho2 hb3 (Nat.le_refl _), hb2.trans (hb3.mono hb2.size)⟩
        · rw [if_neg hik, if_neg hik]
          have hik2 : ¬ (i : Int) < (k : Int) := by omega
          have c := ih q (n - k) (i - k) s (some ⟨b, o, none⟩) cap w (by omega) (by omega) (by omega) hs hHq hMq (by omega) HR.out
          have hvs := wayV_size (n - k) (i - k) s q.reverse
          have hrl := wayR_length q.reverse (n - k) (i - k) s
          rw [List.length_reverse, hm] at hrl
          rw [hm, show ((n - k : Nat) : Int) = (n : Int) - (k : Int) by omega, show ((i - k : Nat) : Int) = (i : Int) - (k : Int) by omega] at c
          obtain ⟨v, ev⟩ : ∃ v, wayV (n - k) (i - k) s q.reverse = v := ⟨_, rfl⟩
          obtain ⟨l, el⟩ : ∃ l, wayR (n - k) (i - k) s q.reverse = l := ⟨_, rfl⟩
          rw [ev] at c hvs ⊢
          rw [el] at c hrl ⊢
          have hta := tagged_assoc 1 x v
          have cn := fun W h => node_any x v (by omega) (by omega) W h
          obtain ⟨nv, env⟩ : ∃ nv, nodeF x v = nv := ⟨_, rfl⟩
          rw [env] at cn ⊢
          have C := Lib.hid c; have CN := Lib.hid cn; have HTA := Lib.hid hta; have HCB := Lib.hid (fun W (h : Below w.heap.size w W) => (h.cell (p := ⟨b, o + m, none⟩) hlt).trans hcell)
          clear c cn hta env ev el ih hHq hMq hq hm hlt
          go_enter Tryd.func34, Tryd.ntmps34
          go_wp2_with fail
          refine (CL.out _).mono ?_
          rintro e w' ⟨rfl, rfl⟩
          go_wp2_with fail
          refine C.out.mono ?_
          rintro e W1 ⟨v1, rfl, ho1, hb1⟩
          go_wp2_with (first
            | (at_builtin; refine walk_push_all (w0 := w) rfl _ _ rfl w.heap.size _ [_] l rfl (own_one W1 w.heap.size _ hb1.size) (hb1.alloc hb1.size _) (Nat.le_trans hb1.size (by simp)) _ rfl l.length ⟨w.heap.size, OwnStrs.alloc ho1 _⟩ rfl (by simp) (by omega) ?_; intro v2 W2 ho2 hb2))
          refine (CN.out _ (HR.out.below hb2)).mono ?_
          rintro e W3 ⟨rfl, hb3⟩
          go_wp2
          go_ret2
          exact ⟨_, rfl, by rw [← HTA.out]; exact OwnStrs.below ho2 hb3 (Nat.le_refl _), hb2.trans (hb3.mono hb2.size)⟩
end Go.Proofs.YtoaaelnmbpmbeaaDoor
