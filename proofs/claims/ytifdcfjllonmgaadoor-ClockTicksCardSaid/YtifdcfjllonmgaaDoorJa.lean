/-
  Layer 8: the law's same: whether two lists of constraints are equal.
-/
import Derived.Test.YtifdcfjllonmgaaDoorHt
import Derived.Laws.StructEq
namespace Go.Proofs.YtifdcfjllonmgaaDoor
open Go Go.Proofs Go.RowKit Go.Lib

set_option maxRecDepth 100000 in
set_option maxHeartbeats 4000000 in
theorem eq_c4 (a b c d a' b' c' d' : Int) (W : World) : (Op.equalIn 10000 64 (.agg #[.int .i64 a, .int .i64 b, .int .i64 c, .int .i64 d]) (.agg #[.int .i64 a', .int .i64 b', .int .i64 c', .int .i64 d'])).run Tryd.prog W = .ok (decide (a = a' ∧ b = b' ∧ c = c' ∧ d = d')) W := by
  by_cases h1 : a = a' <;> by_cases h2 : b = b' <;> by_cases h3 : c = c' <;> by_cases h4 : d = d'
  all_goals go_simp
instance : DecidableEq C4 := fun a b => by
  rcases a with ⟨a1, a2, a3, a4⟩
  rcases b with ⟨b1, b2, b3, b4⟩
  exact if h : a1 = b1 ∧ a2 = b2 ∧ a3 = b3 ∧ a4 = b4 then isTrue (by obtain ⟨rfl, rfl, rfl, rfl⟩ := h; rfl) else isFalse (fun e => h (by injection e with e1 e2 e3 e4; exact ⟨e1, e2, e3, e4⟩))
def C4.eqB (x y : C4) : Bool := decide (x.f = y.f ∧ x.t = y.t ∧ x.w = y.w ∧ x.a = y.a)
theorem C4.eqB_iff {x y : C4} : x.eqB y = true ↔ x = y := by
  unfold C4.eqB
  rw [decide_eq_true_eq]
  rcases x with ⟨a1, a2, a3, a4⟩
  rcases y with ⟨b1, b2, b3, b4⟩
  constructor
  · rintro ⟨h1, h2, h3, h4⟩
    dsimp only at h1 h2 h3 h4
    subst h1 h2 h3 h4
    rfl
  · intro h
    injection h with h1 h2 h3 h4
    exact ⟨h1, h2, h3, h4⟩
theorem RL.c4 {W : World} {ad : Option Addr} {l : List C4} (h : RL KC W ad l) (k : Nat) (hk : k < l.length) : ∃ b o, ad = some ⟨b, o, none⟩ ∧ b < W.heap.size ∧ ∀ W', Below W.heap.size W W' →
    W'.cell? ⟨b, o + 4 * k, none⟩ = some (.int .i64 l[k].f) ∧ W'.cell? ⟨b, o + 4 * k + 1, none⟩ = some (.int .i64 l[k].t) ∧ W'.cell? ⟨b, o + 4 * k + 2, none⟩ = some (.int .i64 l[k].w) ∧ W'.cell? ⟨b, o + 4 * k + 3, none⟩ = some (.int .i64 l[k].a) := by
  obtain ⟨b, o, h1, h2, h3⟩ := h.at_ k hk
  refine ⟨b, o, h1, h2, fun W' hb => ?_⟩
  have := h3 W' hb
  exact ⟨this 0 (by decide), this 1 (by decide), this 2 (by decide), this 3 (by decide)⟩
theorem at_c4 (g o n c k : Nat) (hk : k < n) (w : World) : (Instr.indexAt 36 (.slice (some ⟨g, o, none⟩) n c) (.int .i64 (k : Int))).run Tryd.prog w = .ok (.pointer (some ⟨g, o + 4 * k, none⟩)) w := KC.at_ g o n c k hk w
set_option maxRecDepth 100000 in
set_option maxHeartbeats 8000000 in
theorem same_any (a1 a2 : Option Addr) (c1 c2 : Nat) (l m : List C4) (hl : l.length ≤ maxLen) (w : World) (h1 : RL KC w a1 l) (h2 : RL KC w a2 m) :
    Calls Tryd.prog 20 #[.slice a1 l.length c1, .slice a2 m.length c2] w fun e w' => e = .returned (.bool (decide (l = m))) ∧ Below w.heap.size w w' := by
  unfold maxLen at hl
  obtain ⟨R, hR⟩ : ∃ R, decide (l = m) = R := ⟨_, rfl⟩
  rw [hR]
  have HNO := Lib.hid (fun h : ¬ l = m => show R = false by rw [← hR]; exact decide_eq_false h)
  have HYES := Lib.hid (fun h : l = m => show R = true by rw [← hR]; exact decide_eq_true h)
  have HC := Lib.hid (fun k hk => h1.c4 k hk); have HD := Lib.hid (fun k hk => h2.c4 k hk)
  clear hR h1 h2
  go_enter Tryd.func20, Tryd.ntmps20
  by_cases hlen : l.length = m.length
  · have e0 : ((l.length : Int) != (m.length : Int)) = false := by rw [hlen]; simp
    have HLEN := Lib.hid hlen
    clear hlen
    go_wp2_with fail
    go_loopw [5] (fun i wr => ∃ k : Nat, k ≤ l.length ∧ i = .int .i64 k ∧ Hid (∀ j (hj : j < l.length) (hj2 : j < m.length), j < k → l[j] = m[j]) ∧ Hid (Below w.heap.size w wr)) (fun i _ => l.length - (RowKit.intOf i).toNat)
    case atStart => exact ⟨0, Nat.zero_le _, rfl, Lib.hid (fun j _ _ h => absurd h (Nat.not_lt_zero _)), Lib.hid (Below.refl _ _)⟩
    case round =>
      obtain ⟨k, hk, rfl, HK, HB⟩ := hrel
      by_cases hlt : k < l.length
      · have hki : (k : Int) < (l.length : Int) := by omega
        have hlt2 : k < m.length := by have := HLEN.out; omega
        have hkm : (k : Int) < (m.length : Int) := by omega
        obtain ⟨b, o, rfl, hb, cc⟩ := HC.out k hlt
        obtain ⟨b2, o2, rfl, hb2, cd⟩ := HD.out k hlt2
        have i1 := fun W => at_c4 b o l.length c1 k hlt W
        have i2 := fun W => at_c4 b2 o2 m.length c2 k hlt2 W
        have HST := Lib.hid (show l[k] = m[k] → ∀ j (hj : j < l.length) (hj2 : j < m.length), j < k + 1 → l[j] = m[j] from fun h j hj hj2 hjk => by
          rcases Nat.lt_or_ge j k with h9 | h9
          · exact HK.out j hj hj2 h9
          · have : j = k := by omega
            subst this; exact h)
        have HNE := Lib.hid (show l[k] ≠ m[k] → R = false from fun h => HNO.out (fun e => h (by congr 1)))
        have HLT := Lib.hid hlt
        have HCC := Lib.hid (fun W (bw : Below wr.heap.size wr W) => cc W (HB.out.trans (bw.mono HB.out.size)))
        have HDD := Lib.hid (fun W (bw : Below wr.heap.size wr W) => cd W (HB.out.trans (bw.mono HB.out.size)))
        generalize l[k]'hlt = x at *
        generalize m[k]'hlt2 = y at *
        clear cc cd hlt hlt2 hb hb2
        have heq := fun W => eq_c4 x.f x.t x.w x.a y.f y.t y.w y.a W
        go_upto_region 6 with fail
        refine wp_region_noPanic ?_
        refine wp_region_Kx (C := Grew wr) [8] 8 #[false, false, false, false, false, false, false, false, false] (by kernel_rfl) (by kernel_rfl) (by kernel_rfl) (grew0 _) ?_
        intro wx hwx
        refine wpAnyK_ex (i := 0) rfl (by kernel_rfl) (listed' := #[true, false, false, false, false, false, false, false, false]) rfl (fun _ _ _ _ _ h => h) hwx ?_
        apply Exists.intro
        refine ⟨⟨by rfl, fun wy hw => ?_⟩, ?_⟩
        · (have bw := hw.below; go_simp; try (first | (with_reducible rfl) | (with_reducible exact ⟨rfl, rfl⟩)))
        try simp only [Act.put]
        refine wpAnyK_ex (i := 1) rfl (by kernel_rfl) (listed' := #[true, true, false, false, false, false, false, false, false]) rfl (fun _ _ _ _ _ h => h) hwx ?_
        apply Exists.intro
        refine ⟨⟨by rfl, fun wy hw => ?_⟩, ?_⟩
        · (have bw := hw.below; go_simp; try (first | (with_reducible rfl) | (with_reducible exact ⟨rfl, rfl⟩)))
        try simp only [Act.put]
        refine wpAnyK_ex (i := 2) rfl (by kernel_rfl) (listed' := #[true, true, true, false, false, false, false, false, false]) rfl (fun _ _ _ _ _ h => h) hwx ?_
        apply Exists.intro
        refine ⟨⟨by rfl, fun wy hw => ?_⟩, ?_⟩
        · (have bw := hw.below; go_simp; try (first | (with_reducible rfl) | (with_reducible exact ⟨rfl, rfl⟩)))
        try simp only [Act.put]
        refine wpAnyK_ex (i := 3) rfl (by kernel_rfl) (listed' := #[true, true, true, true, false, false, false, false, false]) rfl (fun _ _ _ _ _ h => h) hwx ?_
        apply Exists.intro
        refine ⟨⟨by rfl, fun wy hw => ?_⟩, ?_⟩
        · (have bw := hw.below; obtain ⟨e0, e1, e2, e3⟩ := HCC.out _ bw; go_simp; try (first | (with_reducible rfl) | (with_reducible exact ⟨rfl, rfl⟩)))
        try simp only [Act.put]
        refine wpAnyK_ex (i := 4) rfl (by kernel_rfl) (listed' := #[true, true, true, true, true, false, false, false, false]) rfl (fun _ _ _ _ _ h => h) hwx ?_
        apply Exists.intro
        refine ⟨⟨by rfl, fun wy hw => ?_⟩, ?_⟩
        · (have bw := hw.below; go_simp; try (first | (with_reducible rfl) | (with_reducible exact ⟨rfl, rfl⟩)))
        try simp only [Act.put]
        refine wpAnyK_ex (i := 5) rfl (by kernel_rfl) (listed' := #[true, true, true, true, true, true, false, false, false]) rfl (fun _ _ _ _ _ h => h) hwx ?_
        apply Exists.intro
        refine ⟨⟨by rfl, fun wy hw => ?_⟩, ?_⟩
        · (have bw := hw.below; go_simp; try (first | (with_reducible rfl) | (with_reducible exact ⟨rfl, rfl⟩)))
        try simp only [Act.put]
        refine wpAnyK_ex (i := 6) rfl (by kernel_rfl) (listed' := #[true, true, true, true, true, true, true, false, false]) rfl (fun _ _ _ _ _ h => h) hwx ?_
        apply Exists.intro
        refine ⟨⟨by rfl, fun wy hw => ?_⟩, ?_⟩
        · (have bw := hw.below; go_simp; try (first | (with_reducible rfl) | (with_reducible exact ⟨rfl, rfl⟩)))
        try simp only [Act.put]
        refine wpAnyK_ex (i := 7) rfl (by kernel_rfl) (listed' := #[true, true, true, true, true, true, true, true, false]) rfl (fun _ _ _ _ _ h => h) hwx ?_
        apply Exists.intro
        refine ⟨⟨by rfl, fun wy hw => ?_⟩, ?_⟩
        · (have bw := hw.below; obtain ⟨e0, e1, e2, e3⟩ := HDD.out _ bw; go_simp; try (first | (with_reducible rfl) | (with_reducible exact ⟨rfl, rfl⟩)))
        try simp only [Act.put]
        refine wpAnyK_end (by kernel_rfl) ?_
        try simp only [pickOps, List.filterMap_cons, List.filterMap_nil, List.getElem?_toArray, List.getElem?_cons_succ, List.getElem?_cons_zero]
        have HBX := Lib.hid (HB.out.trans (hwx.below.mono HB.out.size))
        clear hwx
        cases hxy : decide (x.f = y.f ∧ x.t = y.t ∧ x.w = y.w ∧ x.a = y.a) with
        | true =>
          have HZ := Lib.hid (HST.out (C4.eqB_iff.1 hxy))
          rw [hxy] at heq
          go_wp2_with fail
          refine NoPanic.normal ?_
          go_wp2_with fail
          go_roundw
          case rel => exact ⟨k + 1, HLT.out, by go_num, HZ, HBX⟩
          case measure => have h9 := HLT.out; simp [RowKit.intOf]; omega
        | false =>
          have HZ := Lib.hid (HNE.out (fun e => by have := C4.eqB_iff.2 e; unfold C4.eqB at this; rw [hxy] at this; cases this))
          rw [hxy] at heq
          go_wp2_with fail
          refine NoPanic.normal ?_
          go_wp2_with fail
          go_ret
          exact ⟨by rw [HZ.out]; rfl, HBX.out⟩
      · obtain rfl : k = l.length := by omega
        have HF := Lib.hid (HYES.out (List.ext_getElem HLEN.out (fun j h1 h2 => HK.out j h1 h2 h1)))
        have hki : ¬ (l.length : Int) < (l.length : Int) := by omega
        go_wp2_with fail
        go_ret
        exact ⟨by rw [HF.out]; rfl, HB.out⟩
  · have e0 : ((l.length : Int) != (m.length : Int)) = true := by rw [bne_iff_ne]; omega
    have HF := Lib.hid (HNO.out (fun e => hlen (by rw [e])))
    go_wp2_with fail
    go_ret
    exact ⟨by rw [HF.out]; rfl, Below.refl _ _⟩
end Go.Proofs.YtifdcfjllonmgaaDoor
