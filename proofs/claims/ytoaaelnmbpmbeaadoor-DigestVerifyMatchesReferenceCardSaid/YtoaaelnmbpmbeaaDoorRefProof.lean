/-
  The contract of the reference's Proof.
-/
import Derived.Test.YtoaaelnmbpmbeaaDoorRefTree
namespace Go.Proofs.YtoaaelnmbpmbeaaDoor
open Go Go.Proofs Go.RowKit Go.Lib

set_option maxRecDepth 100000 in
set_option maxHeartbeats 4000000 in
theorem proofR_ok : ∀ (N : Nat) (l : List ByteArray) (i b o cap : Nat) (w : World), l.length ≤ N → l.length ≤ 1000000 → i < l.length → l.length ≤ cap → l.length ≤ 1099511627776 → b < w.heap.size → StrsAt w b o l → Sm l →
    Calls Tryd.prog 23 #[.slice (some ⟨b, o, none⟩) l.length cap, .int .i64 (i : Nat)] w (ErrPost w (proofF l i)) := by
  intro N
  induction N with
  | zero => intro l i b o cap w hN h6 hi; omega
  | succ N ih =>
    intro l i b o cap w hN h6 hi hc hc2 hb hS hM
    have hg1 : ¬ (l.length : Int) ≤ (i : Int) := by omega
    have hg2 : (i : Int) < (l.length : Int) := by omega
    by_cases h2 : l.length = 1
    · have hp := proofF_small (l := l) (by omega) i
      rw [h2] at hc hg1 hg2 ⊢
      have HP := Lib.hid hp
      clear hp ih hS hM h2 hN h6 hi
      go_enter Tryd.func23, Tryd.ntmps23
      go_wp2_with fail
      go_ret2
      exact ⟨_, rfl, by rw [HP.out]; exact OwnStrs.nil _ _, Below.refl _ _⟩
    · have hk := splitN_lt (n := l.length) (by omega)
      have hk1 := splitN_pos l.length
      have csp := leftR_any l.length (by omega) (by omega)
      have hs1 : (l.take (splitN l.length)).length = splitN l.length := by simp; omega
      have hs2 : (l.drop (splitN l.length)).length = l.length - splitN l.length := by simp
      have hz1 : ((l.length : Int) == 1) = false := by rw [beq_eq_false_iff_ne]; omega
      by_cases hik : i < splitN l.length
      · have hpr := proofF_lo (l := l) (by omega) hik
        have hlen := proofF_length 40 (l.take (splitN l.length)) i (by rw [hs1]; omega)
        have c1 := ih (l.take (splitN l.length)) i b o cap w (by omega) (by omega) (by omega) (by omega) (by omega) hb (hS.take _) (hM.take _)
        have c2 := fun W (h : Below w.heap.size w W) => rootR_any (l.drop (splitN l.length)) b (o + splitN l.length) (cap - splitN l.length) W (by omega) (by omega) (Nat.lt_of_lt_of_le hb h.size) ((hS.below h hb).drop _) (hM.drop _)
        rw [hs1] at c1
        rw [hs2] at c2
        obtain ⟨p1, ep1⟩ : ∃ p, proofF (l.take (splitN l.length)) i = p := ⟨_, rfl⟩
        obtain ⟨r, er⟩ : ∃ r, rootF (l.drop (splitN l.length)) = r := ⟨_, rfl⟩
        rw [ep1] at hpr hlen c1
        rw [er] at hpr c2
        have hl1 : p1.length ≤ 100000 := by omega
        obtain ⟨k, ek⟩ : ∃ k, splitN l.length = k := ⟨_, rfl⟩
        obtain ⟨n, en⟩ : ∃ n, l.length = n := ⟨_, rfl⟩
        rw [ek] at c1 c2 csp hk hk1 hik
        rw [en] at c2 csp hk hc hz1 hi hN h6 hg1 hg2 ⊢
        have hik2 : (i : Int) < (k : Int) := by omega
        have hsl1 := fun w => slice_lo b o n cap k (by omega) w
        have hsl2 := fun w => slice_hi b o n cap k (by omega) (by omega) w
        have C1 := Lib.hid c1; have C2 := Lib.hid c2; have CS := Lib.hid csp; have HPR := Lib.hid hpr
        clear c1 c2 csp hpr ep1 er ek en hS hM hs1 hs2 hN h2 ih hlen
        go_enter Tryd.func23, Tryd.ntmps23
        go_wp2_with fail
        refine (CS.out _).mono ?_
        rintro e w' ⟨rfl, rfl⟩
        go_wp2_with fail
        refine C1.out.mono ?_
        rintro e W1 ⟨v1, rfl, ho1, hb1⟩
        go_wp2_with fail
        refine (C2.out _ hb1).mono ?_
        rintro e W2 ⟨rfl, hb2⟩
        have hb2' := hb1.trans (hb2.mono hb1.size)
        have ho2 := OwnStrs.below ho1 hb2 (Nat.le_refl _)
        go_wp2_with (first | (at_builtin; refine walk_push_all (w0 := w) rfl _ _ rfl w.heap.size v1 p1 [r] rfl (OwnStrs.alloc ho2 _) (hb2'.alloc hb2'.size _) (Nat.le_trans hb2'.size (by simp)) _ rfl 1 ⟨0, own_one W2 0 r (Nat.zero_le _)⟩ rfl hl1 (by decide) ?_; intro v3 W3 ho3 hb3))
        go_ret2
        exact ⟨_, rfl, by rw [HPR.out]; exact ho3, hb3⟩
      · have hpr := proofF_hi (l := l) (by omega) hik
        have hlen := proofF_length 40 (l.drop (splitN l.length)) (i - splitN l.length) (by rw [hs2]; omega)
        have c1 := ih (l.drop (splitN l.length)) (i - splitN l.length) b (o + splitN l.length) (cap - splitN l.length) w (by omega) (by omega) (by omega) (by omega) (by omega) hb (hS.drop _) (hM.drop _)
        have c2 := fun W (h : Below w.heap.size w W) => rootR_any (l.take (splitN l.length)) b o cap W (by omega) (by omega) (Nat.lt_of_lt_of_le hb h.size) ((hS.below h hb).take _) (hM.take _)
        rw [hs2, show ((i - splitN l.length : Nat) : Int) = (i : Int) - (splitN l.length : Int) by omega] at c1
        rw [hs1] at c2
        obtain ⟨p1, ep1⟩ : ∃ p, proofF (l.drop (splitN l.length)) (i - splitN l.length) = p := ⟨_, rfl⟩
        obtain ⟨r, er⟩ : ∃ r, rootF (l.take (splitN l.length)) = r := ⟨_, rfl⟩
        rw [ep1] at hpr hlen c1
        rw [er] at hpr c2
        have hl1 : p1.length ≤ 100000 := by omega
        obtain ⟨k, ek⟩ : ∃ k, splitN l.length = k := ⟨_, rfl⟩
        obtain ⟨n, en⟩ : ∃ n, l.length = n := ⟨_, rfl⟩
        rw [ek] at c1 c2 csp hk hk1 hik
        rw [en] at c1 csp hk hc hz1 hi hN h6 hg1 hg2 ⊢
        have hik2 : ¬ (i : Int) < (k : Int) := by omega
        have hwi : IntKind.i64.wrap ((i : Int) - (k : Int)) = (i : Int) - (k : Int) := IntWalk.i64_in _ (by omega)
        have hsl1 := fun w => slice_lo b o n cap k (by omega) w
        have hsl2 := fun w => slice_hi b o n cap k (by omega) (by omega) w
        have C1 := Lib.hid c1; have C2 := Lib.hid c2; have CS := Lib.hid csp; have HPR := Lib.hid hpr
        clear c1 c2 csp hpr ep1 er ek en hS hM hs1 hs2 hN h2 ih hlen
        go_enter Tryd.func23, Tryd.ntmps23
        go_wp2_with fail
        refine (CS.out _).mono ?_
        rintro e w' ⟨rfl, rfl⟩
        go_wp2_with fail
        refine C1.out.mono ?_
        rintro e W1 ⟨v1, rfl, ho1, hb1⟩
        go_wp2_with fail
        refine (C2.out _ hb1).mono ?_
        rintro e W2 ⟨rfl, hb2⟩
        have hb2' := hb1.trans (hb2.mono hb1.size)
        have ho2 := OwnStrs.below ho1 hb2 (Nat.le_refl _)
        go_wp2_with (first | (at_builtin; refine walk_push_all (w0 := w) rfl _ _ rfl w.heap.size v1 p1 [r] rfl (OwnStrs.alloc ho2 _) (hb2'.alloc hb2'.size _) (Nat.le_trans hb2'.size (by simp)) _ rfl 1 ⟨0, own_one W2 0 r (Nat.zero_le _)⟩ rfl hl1 (by decide) ?_; intro v3 W3 ho3 hb3))
        go_ret2
        exact ⟨_, rfl, by rw [HPR.out]; exact ho3, hb3⟩
end Go.Proofs.YtoaaelnmbpmbeaaDoor
