/-
  The contract of digest.part.
-/
import Derived.Test.YtoaaelnmbpmbeaaDoorProof
namespace Go.Proofs.YtoaaelnmbpmbeaaDoor
open Go Go.Proofs Go.RowKit Go.Lib

theorem own_one (W : World) (base : Nat) (r : ByteArray) (hb : base ≤ W.heap.size) : OwnStrs (W.alloc (.cells #[.string r] 9)) base (.slice (some ⟨W.heap.size, 0, none⟩) 1 1) [r] :=
  ⟨rfl, .inr ⟨W.heap.size, 1, #[.string r], rfl, hb, heap_alloc_new W _, Nat.le_refl _, by unfold maxLen; omega, rfl, rfl⟩⟩

set_option maxRecDepth 100000 in
set_option maxHeartbeats 4000000 in
theorem part_any : ∀ (N : Nat) (l : List ByteArray) (m : Nat) (wh : Bool) (b o cap : Nat) (w : World), l.length ≤ N → l.length ≤ 1000000 → 1 ≤ m → m ≤ l.length → l.length ≤ cap → l.length ≤ 1099511627776 → b < w.heap.size → StrsAt w b o l → Small l → Ready w →
    Calls Tryd.prog 45 #[.slice (some ⟨b, o, none⟩) l.length cap, .int .i64 (m : Nat), .bool wh] w (ListPost w.heap.size w (partF l m wh)) := by
  intro N
  induction N with
  | zero => intro l m wh b o cap w hN h6 h1 hm; omega
  | succ N ih =>
    intro l m wh b o cap w hN h6 h1 hm hc hc2 hb hS hM hR
    by_cases hml : m = l.length
    · cases wh with
      | true =>
        have hp : partF l m true = [] := by rw [hml]; exact partF_whole
        have hz : ((m : Int) == (l.length : Int)) = true := by rw [beq_iff_eq]; omega
        have HP := Lib.hid hp
        clear hp ih hS hM hR hml
        go_enter Tryd.func45, Tryd.ntmps45
        go_wp2_with fail
        go_ret
        exact ⟨_, rfl, by rw [HP.out]; exact OwnStrs.nil _ _, Below.refl _ _⟩
      | false =>
        have hp : partF l m false = [rootF l] := by rw [hml]; exact partF_self
        have hz : ((m : Int) == (l.length : Int)) = true := by rw [beq_iff_eq]; omega
        have c := root_any l b o cap w hc hc2 hb hS hM hR
        obtain ⟨r, er⟩ : ∃ r, rootF l = r := ⟨_, rfl⟩
        rw [er] at hp c
        have HP := Lib.hid hp; have C := Lib.hid c
        clear hp c er ih hS hM hR hml
        go_enter Tryd.func45, Tryd.ntmps45
        go_wp2_with fail
        refine C.out.mono ?_
        rintro e W1 ⟨rfl, hb1⟩
        go_wp2
        go_ret
        exact ⟨_, rfl, by rw [HP.out]; exact own_one W1 _ r hb1.size, hb1.alloc hb1.size _⟩
    · have hk := splitN_lt (n := l.length) (by omega)
      have hk1 := splitN_pos l.length
      have csp := split_any l.length (by omega) (by omega)
      have hs1 : (l.take (splitN l.length)).length = splitN l.length := by simp; omega
      have hs2 : (l.drop (splitN l.length)).length = l.length - splitN l.length := by simp
      have hz : ((m : Int) == (l.length : Int)) = false := by rw [beq_eq_false_iff_ne]; omega
      by_cases hik : m ≤ splitN l.length
      · have hpr := partF_lo (l := l) h1 (by omega) hik wh
        have hlen := partF_length 40 (l.take (splitN l.length)) m wh (by rw [hs1]; omega)
        have c1 := fun W (h : Below w.heap.size w W) => list_grow (ih (l.take (splitN l.length)) m wh b o cap W (by omega) (by omega) h1 (by omega) (by omega) (by omega) (Nat.lt_of_lt_of_le hb h.size) ((hS.below h hb).take _) (hM.take _) (hR.below h)) h h.size
        have c2 := fun W (h : Below w.heap.size w W) => root_any (l.drop (splitN l.length)) b (o + splitN l.length) (cap - splitN l.length) W (by omega) (by omega) (Nat.lt_of_lt_of_le hb h.size) ((hS.below h hb).drop _) (hM.drop _) (hR.below h)
        rw [hs1] at c1
        rw [hs2] at c2
        obtain ⟨p1, ep1⟩ : ∃ p, partF (l.take (splitN l.length)) m wh = p := ⟨_, rfl⟩
        obtain ⟨r, er⟩ : ∃ r, rootF (l.drop (splitN l.length)) = r := ⟨_, rfl⟩
        rw [ep1] at hpr hlen c1
        rw [er] at hpr c2
        have hl1 : p1.length ≤ 1000000 := by omega
        obtain ⟨k, ek⟩ : ∃ k, splitN l.length = k := ⟨_, rfl⟩
        obtain ⟨n, en⟩ : ∃ n, l.length = n := ⟨_, rfl⟩
        rw [ek] at c1 c2 csp hk hk1 hik
        rw [en] at c2 csp hk hc hz hm hN h6 hml ⊢
        have hik2 : (m : Int) ≤ (k : Int) := by omega
        have hsl1 := fun w => slice_lo b o n cap k (by omega) w
        have hsl2 := fun w => slice_hi b o n cap k (by omega) (by omega) w
        have C1 := Lib.hid c1; have C2 := Lib.hid c2; have CS := Lib.hid csp; have HPR := Lib.hid hpr
        clear c1 c2 csp hpr ep1 er ek en hS hM hR hs1 hs2 hN ih hlen hml
        go_enter Tryd.func45, Tryd.ntmps45
        go_wp2_with fail
        refine (CS.out _).mono ?_
        rintro e w' ⟨rfl, rfl⟩
        go_wp2_with fail
        go_region_law (first | (refine step_push (w0 := w) rfl _ _ rfl w.heap.size v1 p1 rfl (own_heap (own_heap ho1 (fun k hk => hb2.block k hk)) (fun k hk => Below.heap_alloc W2 _ k hk)) (below_same (hb2'.alloc hb2'.size _) rfl rfl rfl rfl) (Nat.le_trans hb2'.size (by simp)) _ _ r rfl (new_cell W2 r _) hl1 ?_; intro v3 W3 ho3 hb3) | (go_simp; go_at_call 45; (with_reducible refine (C1.out _ ?_).mono ?_); exact ⟨rfl, rfl, rfl, Nat.le_refl _, fun _ _ => rfl⟩; rintro e W1 ⟨v1, rfl, ho1, hb1⟩) | (go_simp; go_at_call 27; (with_reducible refine (C2.out _ ?_).mono ?_); exact ⟨hb1.os, hb1.tape, hb1.output, hb1.size, hb1.block⟩; rintro e W2 ⟨rfl, hb2⟩; have hb2' := Below.trans (show Below w.heap.size w _ from ⟨hb1.os, hb1.tape, hb1.output, hb1.size, hb1.block⟩) (hb2.mono hb1.size)))
        all_goals (go_wp2; go_ret; exact ⟨_, rfl, by rw [HPR.out]; exact ho3, hb3⟩)
      · have hpr := partF_hi (l := l) h1 (by omega) hik wh
        have hlen := partF_length 40 (l.drop (splitN l.length)) (m - splitN l.length) false (by rw [hs2]; omega)
        have c1 := fun W (h : Below w.heap.size w W) => list_grow (ih (l.drop (splitN l.length)) (m - splitN l.length) false b (o + splitN l.length) (cap - splitN l.length) W (by omega) (by omega) (by omega) (by omega) (by omega) (by omega) (Nat.lt_of_lt_of_le hb h.size) ((hS.below h hb).drop _) (hM.drop _) (hR.below h)) h h.size
        have c2 := fun W (h : Below w.heap.size w W) => root_any (l.take (splitN l.length)) b o cap W (by omega) (by omega) (Nat.lt_of_lt_of_le hb h.size) ((hS.below h hb).take _) (hM.take _) (hR.below h)
        rw [hs2, show ((m - splitN l.length : Nat) : Int) = (m : Int) - (splitN l.length : Int) by omega] at c1
        rw [hs1] at c2
        obtain ⟨p1, ep1⟩ : ∃ p, partF (l.drop (splitN l.length)) (m - splitN l.length) false = p := ⟨_, rfl⟩
        obtain ⟨r, er⟩ : ∃ r, rootF (l.take (splitN l.length)) = r := ⟨_, rfl⟩
        rw [ep1] at hpr hlen c1
        rw [er] at hpr c2
        have hl1 : p1.length ≤ 1000000 := by omega
        obtain ⟨k, ek⟩ : ∃ k, splitN l.length = k := ⟨_, rfl⟩
        obtain ⟨n, en⟩ : ∃ n, l.length = n := ⟨_, rfl⟩
        rw [ek] at c1 c2 csp hk hk1 hik
        rw [en] at c1 csp hk hc hz hm hN h6 hml ⊢
        have hik2 : ¬ (m : Int) ≤ (k : Int) := by omega
        have hwi : IntKind.i64.wrap ((m : Int) - (k : Int)) = (m : Int) - (k : Int) := IntWalk.i64_in _ (by omega)
        have hsl1 := fun w => slice_lo b o n cap k (by omega) w
        have hsl2 := fun w => slice_hi b o n cap k (by omega) (by omega) w
        have C1 := Lib.hid c1; have C2 := Lib.hid c2; have CS := Lib.hid csp; have HPR := Lib.hid hpr
        clear c1 c2 csp hpr ep1 er ek en hS hM hR hs1 hs2 hN ih hlen hml
        go_enter Tryd.func45, Tryd.ntmps45
        go_wp2_with fail
        refine (CS.out _).mono ?_
        rintro e w' ⟨rfl, rfl⟩
        go_wp2_with fail
        go_region_law (first | (refine step_push (w0 := w) rfl _ _ rfl w.heap.size v1 p1 rfl (own_heap (own_heap ho1 (fun k hk => hb2.block k hk)) (fun k hk => Below.heap_alloc W2 _ k hk)) (below_same (hb2'.alloc hb2'.size _) rfl rfl rfl rfl) (Nat.le_trans hb2'.size (by simp)) _ _ r rfl (new_cell W2 r _) hl1 ?_; intro v3 W3 ho3 hb3) | (go_simp; go_at_call 45; (with_reducible refine (C1.out _ ?_).mono ?_); exact ⟨rfl, rfl, rfl, Nat.le_refl _, fun _ _ => rfl⟩; rintro e W1 ⟨v1, rfl, ho1, hb1⟩) | (go_simp; go_at_call 27; (with_reducible refine (C2.out _ ?_).mono ?_); exact ⟨hb1.os, hb1.tape, hb1.output, hb1.size, hb1.block⟩; rintro e W2 ⟨rfl, hb2⟩; have hb2' := Below.trans (show Below w.heap.size w _ from ⟨hb1.os, hb1.tape, hb1.output, hb1.size, hb1.block⟩) (hb2.mono hb1.size)))
        all_goals (go_wp2; go_ret; exact ⟨_, rfl, by rw [HPR.out]; exact ho3, hb3⟩)
end Go.Proofs.YtoaaelnmbpmbeaaDoor
