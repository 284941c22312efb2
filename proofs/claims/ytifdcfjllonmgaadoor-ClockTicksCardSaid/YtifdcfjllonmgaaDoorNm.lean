/-
  Layer 8, the program: constraints, the walk.
-/
import Derived.Test.YtifdcfjllonmgaaDoorNm0
import Derived.Sort.CutIn
namespace Go.Proofs.YtifdcfjllonmgaaDoor
open Go Go.Proofs Go.RowKit Go.Lib

attribute [local go_sem] Oper.semAt_some run_store_func8

def ConsPost (w : World) (L : List C4) (e : Ending) (w' : World) : Prop := ∃ ad c, e = .returned (.slice ad L.length c) ∧ L.length ≤ c ∧ RN KC w' w.heap.size ad L ∧ Below w.heap.size w w'
set_option maxRecDepth 100000 in
set_option maxHeartbeats 32000000 in
theorem constraints_in (ss : List RSem) (good : Ev → Prop) (rs : List Rl) (g0 cr : Nat) (ad : Option Addr) (c : Nat) (l : List Ev) (w : World) (hl : l.length ≤ 24) (hss : ss.length ≤ 8) (hI : RL KE w ad l) (hR : RL KR w (some ⟨g0, 0, none⟩) rs) (hK : RlsOk w good rs ss) (hG : ∀ i, i < l.length → good (evD l i)) (hA : ∀ e, good e → 0 ≤ e.ag ∧ e.ag ≤ 5)
    (hB : ∀ s ∈ ss, ∀ a b, good a → good b → -1152921504606846976 ≤ s.lo a b ∧ s.lo a b ≤ 1152921504606846976) :
    CallsIn Fence.wide 3 Tryd.prog 44 #[.slice ad l.length c, .slice (some ⟨g0, 0, none⟩) rs.length cr] w (ConsPost w (conW ss l)) := by
  obtain ⟨w1, V1, Z1, K1, B1⟩ := lay8 w [.slice ad l.length c] 25
  obtain ⟨w2, V2, Z2, K2, B2⟩ := lay8 w1 [.slice (some ⟨g0, 0, none⟩) rs.length cr] 82
  obtain ⟨w3, V3, Z3, K3, B3⟩ := lay8 w2 [.slice none 0 0] 36
  obtain ⟨w4, V4, Z4, K4, B4⟩ := lay8 w3 [.int .i64 (l.length : Int)] 3
  rw [Z1] at Z2 K2 B2
  rw [Z2] at Z3 K3 B3
  rw [Z3] at Z4 K4 B4
  simp only [Nat.add_assoc, Nat.reduceAdd] at Z2 Z3 Z4 K3 K4 B3 B4
  have F1 := ((K1.up B2 (by omega)).up B3 (by omega)).up B4 (by omega)
  have F2 := (K2.up B3 (by omega)).up B4 (by omega)
  have F3 := K3.up B4 (by omega)
  have HB4 := Lib.hid (show Below w.heap.size w w4 from B1.trans ((B2.mono (by omega)).trans ((B3.mono (by omega)).trans (B4.mono (by omega)))))
  obtain ⟨y0, _⟩ := (K1.up B2 (by omega)).up B3 (by omega) 0 (by simp)
  simp only [List.getElem_cons_zero] at y0
  have HI0 := Lib.hid (show ∀ o o', CsI w w.heap.size (.slice ad l.length c) (.slice (some ⟨g0, 0, none⟩) rs.length cr) (conU ss l []) ((w4.alloc o).alloc o') from fun o o' => by
    have b2 : Below w4.heap.size w4 ((w4.alloc o).alloc o') := ((Below.refl _ _).alloc (Nat.le_refl _) _).alloc (by simp) _
    exact ⟨HB4.out.trans (b2.mono HB4.out.size), ((F1.up b2 (by omega)) 0 (by simp)).1, ((F2.up b2 (by omega)) 0 (by simp)).1, ⟨_, ((F3.up b2 (by omega)) 0 (by simp)).1, ((F3.up b2 (by omega)) 0 (by simp)).2, Own.nil _ _ _⟩, by simp; omega⟩)
  have HC4 := Lib.hid (show w4.cell? ⟨w.heap.size + 3, 0, none⟩ = some (.int .i64 (l.length : Int)) from (K4 0 (by simp)).1)
  have HPL := Lib.hid (pairK_le l.length l.length)
  have HSQ := Lib.hid (fun n => pairs_seq 2 n (w.heap.size + 3) l.length (by omega))
  have HIC := Lib.hid (fun h => hI.evs h); have HRC := Lib.hid hR; have HKR := Lib.hid hK; have HG := Lib.hid hG; have HA := Lib.hid hA; have HBD := Lib.hid hB; have HSS := Lib.hid hss; have HL24 := Lib.hid hl
  clear F1 F2 F3 K1 K2 K3 K4 B1 B2 B3 B4 hI hR hK hG hA hB hss
  refine callsIn_of_wp_marks Tryd.func44 rfl trivial ?_ rfl
  simp only [Tryd.ntmps44, List.size_toArray, List.length_cons, List.length_nil, Nat.reduceAdd, Nat.reduceSub, Array.replicate_succ, Array.replicate_zero, List.push_toArray, List.append_toArray, List.nil_append, List.cons_append]
  gi_wp2_with (refine ⟨trivial, ?_⟩; gi_at_call 65; refine (callsIn_wide.2 (pairs_u _ _)).mono ?_; rintro e w' ⟨rfl, hw'⟩; rw [V4] at hw'; subst hw')
  refine rangeFunc_over8 (gf := 79) rfl ?eg (fun x : Nat × Nat => #[.int .i64 (x.1 : Int), .int .i64 (x.2 : Int)]) (fun _ => rfl) (pairK l.length l.length)
    (fun k => k = w.heap.size + 3) ?mine ?seq
    (fun pre W => CsI w w.heap.size (.slice ad l.length c) (.slice (some ⟨g0, 0, none⟩) rs.length cr) (conU ss l pre) W)
    ?iset ?iput ?i0
    (fun x => { tmps := #[.slice ad l.length c, .slice (some ⟨g0, 0, none⟩) rs.length cr, .pointer (some ⟨w.heap.size, 0, none⟩), .pointer (some ⟨w.heap.size + 1, 0, none⟩), .slice none 0 0, .pointer (some ⟨w.heap.size + 2, 0, none⟩), .int .i64 (x.1 : Int), .int .i64 (x.2 : Int), undef, undef, undef, undef, .slice ad l.length c, .int .i64 (l.length : Int), .func (.func 79) #[] #[.pointer (some ⟨w.heap.size + 3, 0, none⟩)], .int .i64 (x.1 : Int), .int .i64 (x.2 : Int), undef, undef, undef, undef, undef, undef, undef, undef, undef, undef, undef, undef, undef, undef, undef, undef, undef, undef, undef, undef, undef, undef, undef, undef, undef, undef, undef, undef, undef, undef, undef, undef, undef, undef, undef, undef, undef, undef, undef, undef, undef, undef, undef, undef, undef, undef, undef, undef, undef, undef, undef, undef, undef, undef, undef, undef, undef, undef, undef, undef, undef, undef, undef, undef, undef, undef], defers := [] }) ?assign ?body ?done
  case eg => intro args W; rfl
  case mine => intro k hk; omega
  case seq =>
    intro n J W _ hy h0 hold
    refine HSQ.out n J W (by rw [← HC4.out]; exact World.cell?_of_block (a := ⟨w.heap.size + 3, 0, none⟩) (hold (w.heap.size + 3) (by rw [Z4]; omega))) (fun pre x A hJ hp => ?_) h0
    obtain ⟨fn, tm, ag, bd, h1, h2⟩ := hy pre x A hJ hp
    exact ⟨fn, tm, ag, bd, h1, h2.mono (fun e A' ⟨e1, e2, e3⟩ => ⟨e1, e2, e3 _ rfl⟩)⟩
  case iset => intro s A b v hb h; subst hb; exact h.keep rfl (.inl rfl) (grownBy_setCell' _ _ _)
  case iput => intro s A o hz h; rw [Z4]; exact h.keep rfl (.inr rfl) (grownBy_putObj' _ _ _)
  case i0 => exact fun o o' => HI0.out o o'
  case assign =>
    intro n x W K hK
    gi_wp2
    exact hK
  case body =>
    intro n pre x W hI hp
    obtain ⟨i, j⟩ := x
    obtain ⟨hi, hj⟩ := mem_pairK (hp.subset (List.mem_append_right _ (List.mem_singleton_self _)))
    dsimp only at hi hj
    have hpl : pre.length + 1 ≤ 576 := by
      have h1 := hp.length_le
      have h2 := HPL.out
      have h3 : l.length * l.length ≤ 24 * 24 := Nat.mul_le_mul HL24.out HL24.out
      simp at h1
      omega
    have HCU := Lib.hid (show (conU ss l pre).length ≤ 9200 by have := conU_le ss l HSS.out pre; omega)
    clear hpl hp
    have HI0' := Lib.hid hI
    clear hI
    obtain ⟨eb, eo, rfl, heb, hcc⟩ := HIC.out (by omega)
    have hik := fun W => at_ev8 eb eo l.length c i hi W
    have hjk := fun W => at_ev8 eb eo l.length c j hj W
    have CA := Lib.hid (hcc i hi); have CB := Lib.hid (hcc j hj)
    have GA := Lib.hid (HG.out i hi); have GB := Lib.hid (HG.out j hj)
    obtain ⟨a0, a1⟩ := HA.out _ GA.out; obtain ⟨b0, b1⟩ := HA.out _ GB.out
    have HROW := Lib.hid (fun k (hk : k < ss.length) => conS_take ss l i j k hk)
    have HRC2 := Lib.hid (show ∀ s : RSem, rowC s l i j = if s.ap (evD l i) (evD l j) = true then ⟨j, i, -(s.lo (evD l i) (evD l j)), mask8 (evD l i) (evD l j)⟩ :: (if s.hi (evD l i) (evD l j) = nB then [] else [⟨i, j, s.hi (evD l i) (evD l j), mask8 (evD l i) (evD l j)⟩]) else [] from fun _ => rfl)
    have HS0 := Lib.hid (show conS (ss.take 0) l i j = [] from rfl)
    have HSN := Lib.hid (conU_snoc ss l pre (i, j))
    have HSL := Lib.hid (fun k => by have h1 := conS_le l i j (ss.take k); have h2 := HSS.out; rw [List.length_take] at h1; exact (show (conS (ss.take k) l i j).length ≤ 16 by omega))
    have HST := Lib.hid (show conS (ss.take ss.length) l i j = conS ss l i j by rw [List.take_length])
    have HBD2 := Lib.hid (fun s hs => HBD.out s hs _ _ GA.out GB.out)
    have HKR2 := Lib.hid (show ∀ k (h1 : k < rs.length) (h2 : k < ss.length) (W' : World), Below w.heap.size w W' → _ from fun k h1 h2 W' b => (HKR.out.2 k h1 h2).2.2 W' b _ _ GA.out GB.out)
    have HEG := Lib.hid (fun k h1 h2 => (⟨(HKR.out.2 k h1 h2).1, (HKR.out.2 k h1 h2).2.1⟩ : _ ∧ _))
    have HRL := Lib.hid HKR.out.1
    have HM := Lib.hid (show mask8 (evD l i) (evD l j) = if (evD l i).ag = (evD l j).ag then (2 : Int) ^ (evD l i).ag.toNat else (2 : Int) ^ (evD l i).ag.toNat + (2 : Int) ^ (evD l j).ag.toNat from rfl)
    have hor := or_mask a0 a1 b0 b1
    rw [← HM.out] at hor
    generalize conU ss l pre = L0 at *
    generalize evD l i = a at *
    generalize evD l j = b at *
    generalize mask8 a b = MM at *
    obtain ⟨na, hna⟩ := Int.eq_ofNat_of_zero_le a0
    obtain ⟨nb, hnb⟩ := Int.eq_ofNat_of_zero_le b0
    obtain ⟨MA, hMA⟩ : ∃ MA, (2 : Int) ^ a.ag.toNat = MA := ⟨_, rfl⟩
    obtain ⟨MB, hMB⟩ : ∃ MB, (2 : Int) ^ b.ag.toNat = MB := ⟨_, rfl⟩
    obtain ⟨ma0, ma1⟩ : 1 ≤ MA ∧ MA ≤ 32 := by rw [← hMA]; exact pow8 _ (by omega)
    obtain ⟨mb0, mb1⟩ : 1 ≤ MB ∧ MB ≤ 32 := by rw [← hMB]; exact pow8 _ (by omega)
    have hwa : IntKind.i64.wrap MA = MA := IntWalk.i64_in _ (by omega)
    have hwb : IntKind.i64.wrap MB = MB := IntWalk.i64_in _ (by omega)
    rw [hMA, hMB] at hor
    have hor2 : bits BinOp.or IntKind.i64 (wrap64 ((2 : Int) ^ na)) (wrap64 ((2 : Int) ^ nb)) = MM := by
      have e1 : (2 : Int) ^ na = MA := by rw [← hMA, hna, Int.toNat_natCast]
      have e2 : (2 : Int) ^ nb = MB := by rw [← hMB, hnb, Int.toNat_natCast]
      rw [e1, e2, show wrap64 MA = MA by unfold wrap64; omega, show wrap64 MB = MB by unfold wrap64; omega]; exact hor
    have HOR2 := Lib.hid hor2
    clear hor2
    have HZ6 := Lib.hid HI0'.out.size
    have HYY := Lib.hid (show ∀ Y, Below W.heap.size W Y → Y.cell? ⟨w.heap.size, 0, none⟩ = some (.slice (some ⟨eb, eo, none⟩) l.length c) ∧ EvCells Y eb (eo + 12 * i) a ∧ EvCells Y eb (eo + 12 * j) b from fun Y bw => ⟨(HI0'.out.upto bw).b0, CA.out Y (HI0'.out.upto bw).bl, CB.out Y (HI0'.out.upto bw).bl⟩)
    clear hcc heb HM
    dsimp only
    gi_upto_region 5 with fail
    gi_cut [8] from 83 (fun m wx => m = .int .i64 MM ∧ Hid (Below W.heap.size W wx))
    case first =>
      rename_i J2 K2 hJ2 hK2
      refine wpIn_region_roundK (C := NewC W) [13] 13 #[false, false, false, false, false, false, false, false, false, false, false, false, false, false] (by kernel_rfl) (by kernel_rfl) (by kernel_rfl) (by kernel_rfl) (newC0 _) ?_
      intro wx hwx
      refine wpAnyK_ex (i := 0) rfl (by kernel_rfl) (listed' := #[true, false, false, false, false, false, false, false, false, false, false, false, false, false]) rfl (fun _ _ _ _ _ h => h) hwx ?_
      apply Exists.intro
      refine ⟨⟨by rfl, fun wy hw => ?_⟩, ?_⟩
      · (have bw := hw.below; obtain ⟨z0, q1, q2⟩ := HYY.out _ bw; obtain ⟨a00, a01, a02, a03, a04, a05, a06, a07, a08, a09, a10, a11⟩ := q1; obtain ⟨b00, b01, b02, b03, b04, b05, b06, b07, b08, b09, b10, b11⟩ := q2; go_simp; try (first | (with_reducible rfl) | (with_reducible exact ⟨rfl, rfl⟩)))
      try simp only [Act.put]
      refine wpAnyK_ex (i := 1) rfl (by kernel_rfl) (listed' := #[true, true, false, false, false, false, false, false, false, false, false, false, false, false]) rfl (fun _ _ _ _ _ h => h) hwx ?_
      apply Exists.intro
      refine ⟨⟨by rfl, fun wy hw => ?_⟩, ?_⟩
      · (have bw := hw.below; obtain ⟨z0, q1, q2⟩ := HYY.out _ bw; obtain ⟨a00, a01, a02, a03, a04, a05, a06, a07, a08, a09, a10, a11⟩ := q1; obtain ⟨b00, b01, b02, b03, b04, b05, b06, b07, b08, b09, b10, b11⟩ := q2; go_simp; try (first | (with_reducible rfl) | (with_reducible exact ⟨rfl, rfl⟩)))
      try simp only [Act.put]
      refine wpAnyK_ex (i := 2) rfl (by kernel_rfl) (listed' := #[true, true, true, false, false, false, false, false, false, false, false, false, false, false]) rfl (fun _ _ _ _ _ h => h) hwx ?_
      apply Exists.intro
      refine ⟨⟨by rfl, fun wy hw => ?_⟩, ?_⟩
      · (have bw := hw.below; obtain ⟨z0, q1, q2⟩ := HYY.out _ bw; obtain ⟨a00, a01, a02, a03, a04, a05, a06, a07, a08, a09, a10, a11⟩ := q1; obtain ⟨b00, b01, b02, b03, b04, b05, b06, b07, b08, b09, b10, b11⟩ := q2; go_simp; try (first | (with_reducible rfl) | (with_reducible exact ⟨rfl, rfl⟩)))
      try simp only [Act.put]
      refine wpAnyK_ex (i := 3) rfl (by kernel_rfl) (listed' := #[true, true, true, true, false, false, false, false, false, false, false, false, false, false]) rfl (fun _ _ _ _ _ h => h) hwx ?_
      apply Exists.intro
      refine ⟨⟨by rfl, fun wy hw => ?_⟩, ?_⟩
      · (have bw := hw.below; obtain ⟨z0, q1, q2⟩ := HYY.out _ bw; obtain ⟨a00, a01, a02, a03, a04, a05, a06, a07, a08, a09, a10, a11⟩ := q1; obtain ⟨b00, b01, b02, b03, b04, b05, b06, b07, b08, b09, b10, b11⟩ := q2; go_simp; try (first | (with_reducible rfl) | (with_reducible exact ⟨rfl, rfl⟩)))
      try simp only [Act.put]
      refine wpAnyK_ex (i := 4) rfl (by kernel_rfl) (listed' := #[true, true, true, true, true, false, false, false, false, false, false, false, false, false]) rfl (fun _ _ _ _ _ h => h) hwx ?_
      apply Exists.intro
      refine ⟨⟨by rfl, fun wy hw => ?_⟩, ?_⟩
      · (have bw := hw.below; obtain ⟨z0, q1, q2⟩ := HYY.out _ bw; obtain ⟨a00, a01, a02, a03, a04, a05, a06, a07, a08, a09, a10, a11⟩ := q1; obtain ⟨b00, b01, b02, b03, b04, b05, b06, b07, b08, b09, b10, b11⟩ := q2; go_simp; try (first | (with_reducible rfl) | (with_reducible exact ⟨rfl, rfl⟩)))
      try simp only [Act.put]
      refine wpAnyK_ex (i := 5) rfl (by kernel_rfl) (listed' := #[true, true, true, true, true, true, false, false, false, false, false, false, false, false]) rfl (fun _ _ _ _ _ h => h) hwx ?_
      apply Exists.intro
      refine ⟨⟨by rfl, fun wy hw => ?_⟩, ?_⟩
      · (have bw := hw.below; obtain ⟨z0, q1, q2⟩ := HYY.out _ bw; obtain ⟨a00, a01, a02, a03, a04, a05, a06, a07, a08, a09, a10, a11⟩ := q1; obtain ⟨b00, b01, b02, b03, b04, b05, b06, b07, b08, b09, b10, b11⟩ := q2; go_simp; try (first | (with_reducible rfl) | (with_reducible exact ⟨rfl, rfl⟩)))
      try simp only [Act.put]
      refine wpAnyK_ex (i := 6) rfl (by kernel_rfl) (listed' := #[true, true, true, true, true, true, true, false, false, false, false, false, false, false]) rfl (fun _ _ _ _ _ h => h) hwx ?_
      apply Exists.intro
      refine ⟨⟨by rfl, fun wy hw => ?_⟩, ?_⟩
      · (have bw := hw.below; obtain ⟨z0, q1, q2⟩ := HYY.out _ bw; obtain ⟨a00, a01, a02, a03, a04, a05, a06, a07, a08, a09, a10, a11⟩ := q1; obtain ⟨b00, b01, b02, b03, b04, b05, b06, b07, b08, b09, b10, b11⟩ := q2; go_simp; try (first | (with_reducible rfl) | (with_reducible exact ⟨rfl, rfl⟩)))
      try simp only [Act.put]
      refine wpAnyK_ex (i := 7) rfl (by kernel_rfl) (listed' := #[true, true, true, true, true, true, true, true, false, false, false, false, false, false]) rfl (fun _ _ _ _ _ h => h) hwx ?_
      apply Exists.intro
      refine ⟨⟨by rfl, fun wy hw => ?_⟩, ?_⟩
      · (have bw := hw.below; obtain ⟨z0, q1, q2⟩ := HYY.out _ bw; obtain ⟨a00, a01, a02, a03, a04, a05, a06, a07, a08, a09, a10, a11⟩ := q1; obtain ⟨b00, b01, b02, b03, b04, b05, b06, b07, b08, b09, b10, b11⟩ := q2; go_simp; try (first | (with_reducible rfl) | (with_reducible exact ⟨rfl, rfl⟩)))
      try simp only [Act.put]
      refine wpAnyK_ex (i := 8) rfl (by kernel_rfl) (listed' := #[true, true, true, true, true, true, true, true, true, false, false, false, false, false]) rfl (fun _ _ _ _ _ h => h) hwx ?_
      apply Exists.intro
      refine ⟨⟨by rfl, fun wy hw => ?_⟩, ?_⟩
      · (have bw := hw.below; obtain ⟨z0, q1, q2⟩ := HYY.out _ bw; obtain ⟨a00, a01, a02, a03, a04, a05, a06, a07, a08, a09, a10, a11⟩ := q1; obtain ⟨b00, b01, b02, b03, b04, b05, b06, b07, b08, b09, b10, b11⟩ := q2; go_simp; try (first | (with_reducible rfl) | (with_reducible exact ⟨rfl, rfl⟩)))
      try simp only [Act.put]
      refine wpAnyK_ex (i := 9) rfl (by kernel_rfl) (listed' := #[true, true, true, true, true, true, true, true, true, true, false, false, false, false]) rfl (fun _ _ _ _ _ h => h) hwx ?_
      apply Exists.intro
      refine ⟨⟨by rfl, fun wy hw => ?_⟩, ?_⟩
      · (have bw := hw.below; obtain ⟨z0, q1, q2⟩ := HYY.out _ bw; obtain ⟨a00, a01, a02, a03, a04, a05, a06, a07, a08, a09, a10, a11⟩ := q1; obtain ⟨b00, b01, b02, b03, b04, b05, b06, b07, b08, b09, b10, b11⟩ := q2; go_simp; try (first | (with_reducible rfl) | (with_reducible exact ⟨rfl, rfl⟩)))
      try simp only [Act.put]
      refine wpAnyK_ex (i := 10) rfl (by kernel_rfl) (listed' := #[true, true, true, true, true, true, true, true, true, true, true, false, false, false]) rfl (fun _ _ _ _ _ h => h) hwx ?_
      apply Exists.intro
      refine ⟨⟨by rfl, fun wy hw => ?_⟩, ?_⟩
      · (have bw := hw.below; obtain ⟨z0, q1, q2⟩ := HYY.out _ bw; obtain ⟨a00, a01, a02, a03, a04, a05, a06, a07, a08, a09, a10, a11⟩ := q1; obtain ⟨b00, b01, b02, b03, b04, b05, b06, b07, b08, b09, b10, b11⟩ := q2; go_simp; try (first | (with_reducible rfl) | (with_reducible exact ⟨rfl, rfl⟩)))
      try simp only [Act.put]
      refine wpAnyK_ex (i := 11) rfl (by kernel_rfl) (listed' := #[true, true, true, true, true, true, true, true, true, true, true, true, false, false]) rfl (fun _ _ _ _ _ h => h) hwx ?_
      apply Exists.intro
      refine ⟨⟨by rfl, fun wy hw => ?_⟩, ?_⟩
      · (have bw := hw.below; obtain ⟨z0, q1, q2⟩ := HYY.out _ bw; obtain ⟨a00, a01, a02, a03, a04, a05, a06, a07, a08, a09, a10, a11⟩ := q1; obtain ⟨b00, b01, b02, b03, b04, b05, b06, b07, b08, b09, b10, b11⟩ := q2; go_simp; try (first | (with_reducible rfl) | (with_reducible exact ⟨rfl, rfl⟩)))
      try simp only [Act.put]
      refine wpAnyK_ex (i := 12) rfl (by kernel_rfl) (listed' := #[true, true, true, true, true, true, true, true, true, true, true, true, true, false]) rfl (fun _ _ _ _ _ h => h) hwx ?_
      apply Exists.intro
      refine ⟨⟨by rfl, fun wy hw => ?_⟩, ?_⟩
      · (have bw := hw.below; obtain ⟨z0, q1, q2⟩ := HYY.out _ bw; obtain ⟨a00, a01, a02, a03, a04, a05, a06, a07, a08, a09, a10, a11⟩ := q1; obtain ⟨b00, b01, b02, b03, b04, b05, b06, b07, b08, b09, b10, b11⟩ := q2; go_simp; try (first | (with_reducible rfl) | (with_reducible exact ⟨rfl, rfl⟩)))
      try simp only [Act.put]
      refine wpAnyK_end (by kernel_rfl) ?_
      try simp only [pickOps, List.filterMap_cons, List.filterMap_nil, List.getElem?_toArray, List.getElem?_cons_succ, List.getElem?_cons_zero]
      have HBx := Lib.hid hwx.below
      go_wp2_with fail
      refine Only.normal ?_
      refine hK2 _ _ (Met.intro (hJ2 _ _ ?_))
      (repeat apply Exists.intro)
      refine ⟨?rel, rfl⟩
      case rel => exact ⟨by first | rfl | rw [HOR2.out], HBx⟩
    case rest =>
    obtain ⟨rfl, HBx⟩ := hcut
    generalize wc = wx at *
    clear hna hnb
    have HIx := Lib.hid (HI0'.out.upto HBx.out)
    have HKx := Lib.hid (show KpB w.heap.size W wx from KpB.upto (fun _ _ _ => rfl) HZ6.out HBx.out)
    have y1 := HIx.out.b1
    gi_wp2
    gi_loopw [32] (fun q wr => ∃ k : Nat, k ≤ rs.length ∧ q = .int .i64 k ∧ Hid (CsI w w.heap.size (.slice (some ⟨eb, eo, none⟩) l.length c) (.slice (some ⟨g0, 0, none⟩) rs.length cr) (L0 ++ conS (ss.take k) l i j) wr) ∧ Hid (KpB w.heap.size W wr)) (fun q _ => rs.length - (RowKit.intOf q).toNat)
    case atStart => exact ⟨0, Nat.zero_le _, rfl, Lib.hid (by rw [HS0.out, List.append_nil]; exact HIx.out), HKx⟩
    case round =>
      clear HIx HKx y1 HBx
      obtain ⟨k, hk, rfl, HI, HKP⟩ := hrel
      by_cases hlt : k < rs.length
      · have hki : (k : Int) < (rs.length : Int) := by omega
        have HLT := Lib.hid hlt
        have hk8 : rs.length ≤ 8 := by rw [HRL.out]; exact HSS.out
        have hks : k < ss.length := by rw [← HRL.out]; exact hlt
        obtain ⟨gb, go_, hge, hgl, hgc⟩ := HRC.out.at_ k hlt
        injection hge with hge
        injection hge with hg1 hg2
        subst hg1 hg2
        have hxk := fun W => at_rl8 g0 0 rs.length cr k hlt W
        have hc0 := hgc wr HI.out.bl 0 (by decide)
        have hc1 := hgc wr HI.out.bl 1 (by decide)
        have HRW := Lib.hid (by have := HRC2.out (ss[k]'hks); have h2 := HROW.out k hks; rw [this] at h2; exact h2)
        have HBK := Lib.hid (HBD2.out _ (List.getElem_mem hks))
        have HCL := Lib.hid (HKR2.out k hlt hks)
        obtain ⟨eg1, eg2⟩ := HEG.out k hlt hks
        generalize ss[k]'hks = s at *
        generalize rs[k]'hlt = r at *
        have hc0 := (show wr.cell? ⟨g0, 0 + 2 * k, none⟩ = some (.func (.func r.f1) #[] r.b1) from hc0)
        have hc1 := (show wr.cell? ⟨g0, 0 + 2 * k + 1, none⟩ = some (.func (.func r.f2) #[] r.b2) from hc1)
        generalize 0 + 2 * k = gk at *
        obtain ⟨f1, l1, f2, l2⟩ := r
        dsimp only at hc0 hc1 eg1 eg2
        have HC1 := Lib.hid (show ∀ Y, Below w.heap.size w Y → Calls Tryd.prog f1 (#[.agg #[.int .i64 a.ag, .int .i64 a.sq, .int .i64 a.tm, .int .i64 a.kd, .int .i64 a.tr, .int .i64 a.sp, .int .i64 a.lk, .int .i64 a.gn, .int .i64 a.op, .int .i64 a.vr, .int .i64 a.pe, .int .i64 a.bt], .agg #[.int .i64 b.ag, .int .i64 b.sq, .int .i64 b.tm, .int .i64 b.kd, .int .i64 b.tr, .int .i64 b.sp, .int .i64 b.lk, .int .i64 b.gn, .int .i64 b.op, .int .i64 b.vr, .int .i64 b.pe, .int .i64 b.bt]] ++ l1) Y (fun e w' => e = .returned (.bool (s.ap a b)) ∧ Below Y.heap.size Y w') from fun Y b => (HCL.out Y b).1)
        have HC2 := Lib.hid (show ∀ Y, Below w.heap.size w Y → Calls Tryd.prog f2 (#[.agg #[.int .i64 a.ag, .int .i64 a.sq, .int .i64 a.tm, .int .i64 a.kd, .int .i64 a.tr, .int .i64 a.sp, .int .i64 a.lk, .int .i64 a.gn, .int .i64 a.op, .int .i64 a.vr, .int .i64 a.pe, .int .i64 a.bt], .agg #[.int .i64 b.ag, .int .i64 b.sq, .int .i64 b.tm, .int .i64 b.kd, .int .i64 b.tr, .int .i64 b.sp, .int .i64 b.lk, .int .i64 b.gn, .int .i64 b.op, .int .i64 b.vr, .int .i64 b.pe, .int .i64 b.bt]] ++ l2) Y (IvPost Y (s.lo a b) (s.hi a b)) from fun Y b => (HCL.out Y b).2)
        obtain ⟨wa, VA, ZA, KA, BA⟩ := lay8 wr [.nilFunc, .nilFunc] 116
        obtain ⟨wb, VB, KB, BB⟩ : ∃ wb, (wa.setCell ⟨wr.heap.size, 0, none⟩ (.func (.func f1) #[] l1)).setCell ⟨wr.heap.size, 1, none⟩ (.func (.func f2) #[] l2) = wb ∧ CellsAt wb wr.heap.size [.func (.func f1) #[] l1, .func (.func f2) #[] l2] ∧ Below wr.heap.size wr wb := ⟨_, rfl, (KA.put 0 _).put 1 _, (BA.setCell (Nat.le_refl _) _).setCell (Nat.le_refl _) _⟩
        obtain ⟨g0', g0''⟩ := KA 0 (by simp); obtain ⟨g1', g1''⟩ := KA 1 (by simp)
        simp only [List.getElem_cons_zero, List.getElem_cons_succ] at g0' g1'
        have HIb := Lib.hid (HI.out.upto BB)
        have HKb := Lib.hid (HKP.out.upto HI.out.size BB)
        have HYB := Lib.hid (show ∀ Y, Below wb.heap.size wb Y → Y.cell? ⟨w.heap.size, 0, none⟩ = some (.slice (some ⟨eb, eo, none⟩) l.length c) ∧ EvCells Y eb (eo + 12 * i) a ∧ EvCells Y eb (eo + 12 * j) b ∧ Y.cell? ⟨wr.heap.size, 0, none⟩ = some (.func (.func f1) #[] l1) ∧ Y.cell? ⟨wr.heap.size, 1, none⟩ = some (.func (.func f2) #[] l2) from fun Y bw => ⟨(HIb.out.upto bw).b0, CA.out Y (HIb.out.upto bw).bl, CB.out Y (HIb.out.upto bw).bl, (KB.below bw 0 (by simp)).1, (KB.below bw 1 (by simp)).1⟩)
        have y1 := HI.out.b1
        clear KA KB BA BB hgc hgl HI HKP hlt
        gi_upto_region 9 with fail
        clear VA VB g0' g0'' g1' g1'' hc0 hc1 y1 HCL
        gi_cut [47] from 83 (fun v wx => v = .bool (!(s.ap a b)) ∧ Hid (Below wb.heap.size wb wx))
        case first =>
          rename_i J2 K2 hJ2 hK2
          refine wpIn_region_roundK (C := NewC wb) [11] 11 #[false, false, false, false, false, false, false, false, false, false, false, false] (by kernel_rfl) (by kernel_rfl) (by kernel_rfl) (by kernel_rfl) (newC0 _) ?_
          intro wx hwx
          refine wpAnyK_ex (i := 0) rfl (by kernel_rfl) (listed' := #[true, false, false, false, false, false, false, false, false, false, false, false]) rfl (fun _ _ _ _ _ h => h) hwx ?_
          apply Exists.intro
          refine ⟨⟨by rfl, fun wy hw => ?_⟩, ?_⟩
          · (have bw := hw.below; obtain ⟨z0, q1, q2, z1, z2⟩ := HYB.out _ bw; obtain ⟨a00, a01, a02, a03, a04, a05, a06, a07, a08, a09, a10, a11⟩ := q1; obtain ⟨b00, b01, b02, b03, b04, b05, b06, b07, b08, b09, b10, b11⟩ := q2; go_simp; try (first | (with_reducible rfl) | (with_reducible exact ⟨rfl, rfl⟩)))
          try simp only [Act.put]
          refine wpAnyK_ex (i := 1) rfl (by kernel_rfl) (listed' := #[true, true, false, false, false, false, false, false, false, false, false, false]) rfl (fun _ _ _ _ _ h => h) hwx ?_
          apply Exists.intro
          refine ⟨⟨by rfl, fun wy hw => ?_⟩, ?_⟩
          · (have bw := hw.below; obtain ⟨z0, q1, q2, z1, z2⟩ := HYB.out _ bw; obtain ⟨a00, a01, a02, a03, a04, a05, a06, a07, a08, a09, a10, a11⟩ := q1; obtain ⟨b00, b01, b02, b03, b04, b05, b06, b07, b08, b09, b10, b11⟩ := q2; go_simp; try (first | (with_reducible rfl) | (with_reducible exact ⟨rfl, rfl⟩)))
          try simp only [Act.put]
          refine wpAnyK_ex (i := 2) rfl (by kernel_rfl) (listed' := #[true, true, true, false, false, false, false, false, false, false, false, false]) rfl (fun _ _ _ _ _ h => h) hwx ?_
          apply Exists.intro
          refine ⟨⟨by rfl, fun wy hw => ?_⟩, ?_⟩
          · (have bw := hw.below; obtain ⟨z0, q1, q2, z1, z2⟩ := HYB.out _ bw; obtain ⟨a00, a01, a02, a03, a04, a05, a06, a07, a08, a09, a10, a11⟩ := q1; obtain ⟨b00, b01, b02, b03, b04, b05, b06, b07, b08, b09, b10, b11⟩ := q2; go_simp; try (first | (with_reducible rfl) | (with_reducible exact ⟨rfl, rfl⟩)))
          try simp only [Act.put]
          refine wpAnyK_ex (i := 3) rfl (by kernel_rfl) (listed' := #[true, true, true, true, false, false, false, false, false, false, false, false]) rfl (fun _ _ _ _ _ h => h) hwx ?_
          apply Exists.intro
          refine ⟨⟨by rfl, fun wy hw => ?_⟩, ?_⟩
          · (have bw := hw.below; obtain ⟨z0, q1, q2, z1, z2⟩ := HYB.out _ bw; obtain ⟨a00, a01, a02, a03, a04, a05, a06, a07, a08, a09, a10, a11⟩ := q1; obtain ⟨b00, b01, b02, b03, b04, b05, b06, b07, b08, b09, b10, b11⟩ := q2; go_simp; try (first | (with_reducible rfl) | (with_reducible exact ⟨rfl, rfl⟩)))
          try simp only [Act.put]
          refine wpAnyK_ex (i := 4) rfl (by kernel_rfl) (listed' := #[true, true, true, true, true, false, false, false, false, false, false, false]) rfl (fun _ _ _ _ _ h => h) hwx ?_
          apply Exists.intro
          refine ⟨⟨by rfl, fun wy hw => ?_⟩, ?_⟩
          · (have bw := hw.below; obtain ⟨z0, q1, q2, z1, z2⟩ := HYB.out _ bw; obtain ⟨a00, a01, a02, a03, a04, a05, a06, a07, a08, a09, a10, a11⟩ := q1; obtain ⟨b00, b01, b02, b03, b04, b05, b06, b07, b08, b09, b10, b11⟩ := q2; go_simp; try (first | (with_reducible rfl) | (with_reducible exact ⟨rfl, rfl⟩)))
          try simp only [Act.put]
          refine wpAnyK_ex (i := 5) rfl (by kernel_rfl) (listed' := #[true, true, true, true, true, true, false, false, false, false, false, false]) rfl (fun _ _ _ _ _ h => h) hwx ?_
          apply Exists.intro
          refine ⟨⟨by rfl, fun wy hw => ?_⟩, ?_⟩
          · (have bw := hw.below; obtain ⟨z0, q1, q2, z1, z2⟩ := HYB.out _ bw; obtain ⟨a00, a01, a02, a03, a04, a05, a06, a07, a08, a09, a10, a11⟩ := q1; obtain ⟨b00, b01, b02, b03, b04, b05, b06, b07, b08, b09, b10, b11⟩ := q2; go_simp; try (first | (with_reducible rfl) | (with_reducible exact ⟨rfl, rfl⟩)))
          try simp only [Act.put]
          refine wpAnyK_ex (i := 6) rfl (by kernel_rfl) (listed' := #[true, true, true, true, true, true, true, false, false, false, false, false]) rfl (fun _ _ _ _ _ h => h) hwx ?_
          apply Exists.intro
          refine ⟨⟨by rfl, fun wy hw => ?_⟩, ?_⟩
          · (have bw := hw.below; obtain ⟨z0, q1, q2, z1, z2⟩ := HYB.out _ bw; obtain ⟨a00, a01, a02, a03, a04, a05, a06, a07, a08, a09, a10, a11⟩ := q1; obtain ⟨b00, b01, b02, b03, b04, b05, b06, b07, b08, b09, b10, b11⟩ := q2; go_simp; try (first | (with_reducible rfl) | (with_reducible exact ⟨rfl, rfl⟩)))
          try simp only [Act.put]
          refine wpAnyK_ex (i := 7) rfl (by kernel_rfl) (listed' := #[true, true, true, true, true, true, true, true, false, false, false, false]) rfl (fun _ _ _ _ _ h => h) hwx ?_
          apply Exists.intro
          refine ⟨⟨by rfl, fun wy hw => ?_⟩, ?_⟩
          · (have bw := hw.below; obtain ⟨z0, q1, q2, z1, z2⟩ := HYB.out _ bw; obtain ⟨a00, a01, a02, a03, a04, a05, a06, a07, a08, a09, a10, a11⟩ := q1; obtain ⟨b00, b01, b02, b03, b04, b05, b06, b07, b08, b09, b10, b11⟩ := q2; go_simp; try (first | (with_reducible rfl) | (with_reducible exact ⟨rfl, rfl⟩)))
          try simp only [Act.put]
          refine wpAnyK_ex (i := 8) rfl (by kernel_rfl) (listed' := #[true, true, true, true, true, true, true, true, true, false, false, false]) rfl (fun _ _ _ _ _ h => h) hwx ?_
          apply Exists.intro
          refine ⟨⟨by rfl, fun wy hw => ?_⟩, ?_⟩
          · (have bw := hw.below; obtain ⟨z0, q1, q2, z1, z2⟩ := HYB.out _ bw; obtain ⟨a00, a01, a02, a03, a04, a05, a06, a07, a08, a09, a10, a11⟩ := q1; obtain ⟨b00, b01, b02, b03, b04, b05, b06, b07, b08, b09, b10, b11⟩ := q2; go_simp; try (first | (with_reducible rfl) | (with_reducible exact ⟨rfl, rfl⟩)))
          try simp only [Act.put]
          refine wpAnyK_ex (i := 9) rfl (by kernel_rfl) (listed' := #[true, true, true, true, true, true, true, true, true, true, false, false]) rfl (fun _ _ _ _ _ h => h) hwx ?_
          apply Exists.intro
          refine ⟨⟨by rfl, fun wy hw => ?_⟩, ?_⟩
          · (have bw := hw.below; obtain ⟨z0, q1, q2, z1, z2⟩ := HYB.out _ bw; obtain ⟨a00, a01, a02, a03, a04, a05, a06, a07, a08, a09, a10, a11⟩ := q1; obtain ⟨b00, b01, b02, b03, b04, b05, b06, b07, b08, b09, b10, b11⟩ := q2; go_simp; try (first | (with_reducible rfl) | (with_reducible exact ⟨rfl, rfl⟩)))
          try simp only [Act.put]
          have HX := Lib.hid hwx.below
          refine wpAnyK_fork1 10 (by kernel_rfl) ?_
          refine wpOpK_step rfl (by kernel_rfl) (listed' := #[true, true, true, true, true, true, true, true, true, true, true, false]) rfl (by rfl) (fun K hK => ?_)
          go_simp
          refine (HC1.out _ (HIb.out.upto HX.out).bl).mono ?_
          rintro e w9 ⟨rfl, hb9⟩
          have H9 := Lib.hid (show Below wb.heap.size wb w9 from HX.out.trans (hb9.mono HX.out.size))
          refine hK _ _ H9.out ?_
          clear hK K hb9 hwx
          try simp only [Act.put]
          refine wpAnyK_end (by kernel_rfl) ?_
          try simp only [pickOps, List.filterMap_cons, List.filterMap_nil, List.getElem?_toArray, List.getElem?_cons_succ, List.getElem?_cons_zero]
          go_wp2_with fail
          refine Only.normal ?_
          refine hK2 _ _ (Met.intro (hJ2 _ _ ?_))
          (repeat apply Exists.intro)
          refine ⟨?rel, rfl⟩
          case rel => exact ⟨rfl, H9⟩
        case rest =>
        obtain ⟨rfl, H9⟩ := hcut
        generalize wc = w9 at *
        have HI9 := Lib.hid (HIb.out.upto H9.out)
        have HK9 := Lib.hid (HKb.out.upto HIb.out.size H9.out)
        cases hap : s.ap a b with
        | false =>
          have H3 := Lib.hid (show CsI w w.heap.size (.slice (some ⟨eb, eo, none⟩) l.length c) (.slice (some ⟨g0, 0, none⟩) rs.length cr) (L0 ++ conS (ss.take (k + 1)) l i j) w9 from by rw [HRW.out, hap, if_neg (by decide), List.append_nil]; exact HI9.out)
          gi_wp2
          go_roundw
          case rel => exact ⟨k + 1, HLT.out, by go_num, H3, HK9⟩
          case measure => have := HLT.out; simp [RowKit.intOf]; omega
        | true =>
          rw [hap, if_pos rfl] at HRW
          clear hap
          gi_upto_region 10 with fail
          obtain ⟨lo, hlo⟩ : ∃ q, s.lo a b = q := ⟨_, rfl⟩
          obtain ⟨hi_, hhi⟩ : ∃ q, s.hi a b = q := ⟨_, rfl⟩
          rw [hlo, hhi] at HRW HC2
          rw [hlo] at HBK
          have HC2 := HC2
          clear hlo hhi
          gi_cut [11] from 83 (fun p wx => ∃ D, p = .pointer (some ⟨D, 0, none⟩) ∧ w9.heap.size ≤ D ∧ D < wx.heap.size ∧ Hid (CellsAt wx D [.int .i64 lo, .int .i64 hi_]) ∧ Hid (Below w9.heap.size w9 wx))
          case first =>
            rename_i J2 K2 hJ2 hK2
            refine wpIn_region_roundK (C := NewC w9) [12] 12 #[false, false, false, false, false, false, false, false, false, false, false, false, false] (by kernel_rfl) (by kernel_rfl) (by kernel_rfl) (by kernel_rfl) (newC0 _) ?_
            intro wx hwx
            refine wpAnyK_ex (i := 0) rfl (by kernel_rfl) (listed' := #[true, false, false, false, false, false, false, false, false, false, false, false, false]) rfl (fun _ _ _ _ _ h => h) hwx ?_
            apply Exists.intro
            refine ⟨⟨by rfl, fun wy hw => ?_⟩, ?_⟩
            · (have bw := hw.below; obtain ⟨z0, q1, q2, z1, z2⟩ := HYB.out _ (H9.out.trans (bw.mono H9.out.size)); obtain ⟨a00, a01, a02, a03, a04, a05, a06, a07, a08, a09, a10, a11⟩ := q1; obtain ⟨b00, b01, b02, b03, b04, b05, b06, b07, b08, b09, b10, b11⟩ := q2; go_simp; try (first | (with_reducible rfl) | (with_reducible exact ⟨rfl, rfl⟩)))
            try simp only [Act.put]
            refine wpAnyK_ex (i := 1) rfl (by kernel_rfl) (listed' := #[true, true, false, false, false, false, false, false, false, false, false, false, false]) rfl (fun _ _ _ _ _ h => h) hwx ?_
            apply Exists.intro
            refine ⟨⟨by rfl, fun wy hw => ?_⟩, ?_⟩
            · (have bw := hw.below; obtain ⟨z0, q1, q2, z1, z2⟩ := HYB.out _ (H9.out.trans (bw.mono H9.out.size)); obtain ⟨a00, a01, a02, a03, a04, a05, a06, a07, a08, a09, a10, a11⟩ := q1; obtain ⟨b00, b01, b02, b03, b04, b05, b06, b07, b08, b09, b10, b11⟩ := q2; go_simp; try (first | (with_reducible rfl) | (with_reducible exact ⟨rfl, rfl⟩)))
            try simp only [Act.put]
            refine wpAnyK_ex (i := 2) rfl (by kernel_rfl) (listed' := #[true, true, true, false, false, false, false, false, false, false, false, false, false]) rfl (fun _ _ _ _ _ h => h) hwx ?_
            apply Exists.intro
            refine ⟨⟨by rfl, fun wy hw => ?_⟩, ?_⟩
            · (have bw := hw.below; obtain ⟨z0, q1, q2, z1, z2⟩ := HYB.out _ (H9.out.trans (bw.mono H9.out.size)); obtain ⟨a00, a01, a02, a03, a04, a05, a06, a07, a08, a09, a10, a11⟩ := q1; obtain ⟨b00, b01, b02, b03, b04, b05, b06, b07, b08, b09, b10, b11⟩ := q2; go_simp; try (first | (with_reducible rfl) | (with_reducible exact ⟨rfl, rfl⟩)))
            try simp only [Act.put]
            refine wpAnyK_ex (i := 3) rfl (by kernel_rfl) (listed' := #[true, true, true, true, false, false, false, false, false, false, false, false, false]) rfl (fun _ _ _ _ _ h => h) hwx ?_
            apply Exists.intro
            refine ⟨⟨by rfl, fun wy hw => ?_⟩, ?_⟩
            · (have bw := hw.below; obtain ⟨z0, q1, q2, z1, z2⟩ := HYB.out _ (H9.out.trans (bw.mono H9.out.size)); obtain ⟨a00, a01, a02, a03, a04, a05, a06, a07, a08, a09, a10, a11⟩ := q1; obtain ⟨b00, b01, b02, b03, b04, b05, b06, b07, b08, b09, b10, b11⟩ := q2; go_simp; try (first | (with_reducible rfl) | (with_reducible exact ⟨rfl, rfl⟩)))
            try simp only [Act.put]
            refine wpAnyK_ex (i := 4) rfl (by kernel_rfl) (listed' := #[true, true, true, true, true, false, false, false, false, false, false, false, false]) rfl (fun _ _ _ _ _ h => h) hwx ?_
            apply Exists.intro
            refine ⟨⟨by rfl, fun wy hw => ?_⟩, ?_⟩
            · (have bw := hw.below; obtain ⟨z0, q1, q2, z1, z2⟩ := HYB.out _ (H9.out.trans (bw.mono H9.out.size)); obtain ⟨a00, a01, a02, a03, a04, a05, a06, a07, a08, a09, a10, a11⟩ := q1; obtain ⟨b00, b01, b02, b03, b04, b05, b06, b07, b08, b09, b10, b11⟩ := q2; go_simp; try (first | (with_reducible rfl) | (with_reducible exact ⟨rfl, rfl⟩)))
            try simp only [Act.put]
            refine wpAnyK_ex (i := 5) rfl (by kernel_rfl) (listed' := #[true, true, true, true, true, true, false, false, false, false, false, false, false]) rfl (fun _ _ _ _ _ h => h) hwx ?_
            apply Exists.intro
            refine ⟨⟨by rfl, fun wy hw => ?_⟩, ?_⟩
            · (have bw := hw.below; obtain ⟨z0, q1, q2, z1, z2⟩ := HYB.out _ (H9.out.trans (bw.mono H9.out.size)); obtain ⟨a00, a01, a02, a03, a04, a05, a06, a07, a08, a09, a10, a11⟩ := q1; obtain ⟨b00, b01, b02, b03, b04, b05, b06, b07, b08, b09, b10, b11⟩ := q2; go_simp; try (first | (with_reducible rfl) | (with_reducible exact ⟨rfl, rfl⟩)))
            try simp only [Act.put]
            refine wpAnyK_ex (i := 6) rfl (by kernel_rfl) (listed' := #[true, true, true, true, true, true, true, false, false, false, false, false, false]) rfl (fun _ _ _ _ _ h => h) hwx ?_
            apply Exists.intro
            refine ⟨⟨by rfl, fun wy hw => ?_⟩, ?_⟩
            · (have bw := hw.below; obtain ⟨z0, q1, q2, z1, z2⟩ := HYB.out _ (H9.out.trans (bw.mono H9.out.size)); obtain ⟨a00, a01, a02, a03, a04, a05, a06, a07, a08, a09, a10, a11⟩ := q1; obtain ⟨b00, b01, b02, b03, b04, b05, b06, b07, b08, b09, b10, b11⟩ := q2; go_simp; try (first | (with_reducible rfl) | (with_reducible exact ⟨rfl, rfl⟩)))
            try simp only [Act.put]
            refine wpAnyK_ex (i := 7) rfl (by kernel_rfl) (listed' := #[true, true, true, true, true, true, true, true, false, false, false, false, false]) rfl (fun _ _ _ _ _ h => h) hwx ?_
            apply Exists.intro
            refine ⟨⟨by rfl, fun wy hw => ?_⟩, ?_⟩
            · (have bw := hw.below; obtain ⟨z0, q1, q2, z1, z2⟩ := HYB.out _ (H9.out.trans (bw.mono H9.out.size)); obtain ⟨a00, a01, a02, a03, a04, a05, a06, a07, a08, a09, a10, a11⟩ := q1; obtain ⟨b00, b01, b02, b03, b04, b05, b06, b07, b08, b09, b10, b11⟩ := q2; go_simp; try (first | (with_reducible rfl) | (with_reducible exact ⟨rfl, rfl⟩)))
            try simp only [Act.put]
            refine wpAnyK_ex (i := 8) rfl (by kernel_rfl) (listed' := #[true, true, true, true, true, true, true, true, true, false, false, false, false]) rfl (fun _ _ _ _ _ h => h) hwx ?_
            apply Exists.intro
            refine ⟨⟨by rfl, fun wy hw => ?_⟩, ?_⟩
            · (have bw := hw.below; obtain ⟨z0, q1, q2, z1, z2⟩ := HYB.out _ (H9.out.trans (bw.mono H9.out.size)); obtain ⟨a00, a01, a02, a03, a04, a05, a06, a07, a08, a09, a10, a11⟩ := q1; obtain ⟨b00, b01, b02, b03, b04, b05, b06, b07, b08, b09, b10, b11⟩ := q2; go_simp; try (first | (with_reducible rfl) | (with_reducible exact ⟨rfl, rfl⟩)))
            try simp only [Act.put]
            refine wpAnyK_ex (i := 9) rfl (by kernel_rfl) (listed' := #[true, true, true, true, true, true, true, true, true, true, false, false, false]) rfl (fun _ _ _ _ _ h => h) hwx ?_
            apply Exists.intro
            refine ⟨⟨by rfl, fun wy hw => ?_⟩, ?_⟩
            · (have bw := hw.below; obtain ⟨z0, q1, q2, z1, z2⟩ := HYB.out _ (H9.out.trans (bw.mono H9.out.size)); obtain ⟨a00, a01, a02, a03, a04, a05, a06, a07, a08, a09, a10, a11⟩ := q1; obtain ⟨b00, b01, b02, b03, b04, b05, b06, b07, b08, b09, b10, b11⟩ := q2; go_simp; try (first | (with_reducible rfl) | (with_reducible exact ⟨rfl, rfl⟩)))
            try simp only [Act.put]
            have HX := Lib.hid hwx.below
            clear hwx
            refine wpAnyK_fork2 10 11 (by kernel_rfl) ?_ ?_
            · skip
              refine wpOpK_step rfl (by kernel_rfl) (listed' := #[true, true, true, true, true, true, true, true, true, true, true, false, false]) rfl (by rfl) (fun K hK => ?_)
              go_simp
              refine (HC2.out _ (HI9.out.upto HX.out).bl).mono ?_
              rintro e wp ⟨rfl, hb9⟩
              have Hwp := Lib.hid (show Below w9.heap.size w9 wp from HX.out.trans (hb9.mono HX.out.size))
              refine hK _ _ Hwp.out ?_
              clear hK K
              try simp only [Act.put]
              clear hb9
              obtain ⟨wq, VQ, ZQ, KQ, BQ⟩ := lay8 wp [.int .i64 0, .int .i64 0] 118
              have VQ := (show wp.alloc (.cells #[.int .i64 0, .int .i64 0] 118) = wq from VQ)
              have HQ := Lib.hid (show Below w9.heap.size w9 wq from Hwp.out.trans (BQ.mono Hwp.out.size))
              have HDL := Lib.hid (show w9.heap.size ≤ wp.heap.size from Hwp.out.size)
              have HDS := Lib.hid (show wp.heap.size < wq.heap.size by omega)
              clear BQ
              refine wpAnyK_fork1 11 (by kernel_rfl) ?_
              refine wpOpK_step rfl (by kernel_rfl) (listed' := #[true, true, true, true, true, true, true, true, true, true, true, true, false]) rfl (by rfl) (fun K hK => ?_)
              go_simp
              refine hK _ _ (HQ.out) ?_
              clear hK K
              try simp only [Act.put]
              clear VQ
              refine wpAnyK_end (by kernel_rfl) ?_
              try simp only [pickOps, List.filterMap_cons, List.filterMap_nil, List.getElem?_toArray, List.getElem?_cons_succ, List.getElem?_cons_zero]
              obtain ⟨g0', g0''⟩ := KQ 0 (by simp); obtain ⟨g1', g1''⟩ := KQ 1 (by simp)
              simp only [List.getElem_cons_zero, List.getElem_cons_succ] at g0' g1'
              obtain ⟨wz, VZ, KZ, BZ, SZ⟩ : ∃ wz, (wq.setCell ⟨wp.heap.size, 0, none⟩ (.int .i64 lo)).setCell ⟨wp.heap.size, 1, none⟩ (.int .i64 hi_) = wz ∧ CellsAt wz wp.heap.size [.int .i64 lo, .int .i64 hi_] ∧ Below w9.heap.size w9 wz ∧ wp.heap.size < wz.heap.size :=
                ⟨_, rfl, (KQ.put 0 _).put 1 _, ((HQ.out.setCell (p := ⟨wp.heap.size, 0, none⟩) HDL.out _).setCell (p := ⟨wp.heap.size, 1, none⟩) HDL.out _), by simp; exact HDS.out⟩
              have HKZ := Lib.hid KZ; have HBZ := Lib.hid BZ
              clear KZ BZ KQ
              go_wp2_with fail
              refine Only.normal ?_
              refine hK2 _ _ (Met.intro (hJ2 _ _ ?_))
              (repeat apply Exists.intro)
              refine ⟨?rel, rfl⟩
              case rel => exact ⟨_, rfl, HDL.out, SZ, HKZ, HBZ⟩
            · skip
              obtain ⟨wq, VQ, ZQ, KQ, BQ⟩ := lay8 wx [.int .i64 0, .int .i64 0] 118
              have VQ := (show wx.alloc (.cells #[.int .i64 0, .int .i64 0] 118) = wq from VQ)
              have HQ := Lib.hid (show Below w9.heap.size w9 wq from HX.out.trans (BQ.mono HX.out.size))
              have HDL := Lib.hid (show w9.heap.size ≤ wx.heap.size from HX.out.size)
              clear BQ
              refine wpOpK_step rfl (by kernel_rfl) (listed' := #[true, true, true, true, true, true, true, true, true, true, false, true, false]) rfl (by rfl) (fun K hK => ?_)
              go_simp
              refine hK _ _ (HQ.out) ?_
              clear hK K
              try simp only [Act.put]
              clear VQ
              refine wpAnyK_fork1 10 (by kernel_rfl) ?_
              refine wpOpK_step rfl (by kernel_rfl) (listed' := #[true, true, true, true, true, true, true, true, true, true, true, true, false]) rfl (by rfl) (fun K hK => ?_)
              go_simp
              refine (HC2.out _ (HI9.out.upto HQ.out).bl).mono ?_
              rintro e wp ⟨rfl, hb9⟩
              have Hwp := Lib.hid (show Below w9.heap.size w9 wp from HQ.out.trans (hb9.mono HQ.out.size))
              refine hK _ _ Hwp.out ?_
              clear hK K
              try simp only [Act.put]
              have KP := KQ.below hb9
              have HDS := Lib.hid (show wx.heap.size < wp.heap.size by have := hb9.size; omega)
              clear hb9 KQ
              refine wpAnyK_end (by kernel_rfl) ?_
              try simp only [pickOps, List.filterMap_cons, List.filterMap_nil, List.getElem?_toArray, List.getElem?_cons_succ, List.getElem?_cons_zero]
              obtain ⟨g0', g0''⟩ := KP 0 (by simp); obtain ⟨g1', g1''⟩ := KP 1 (by simp)
              simp only [List.getElem_cons_zero, List.getElem_cons_succ] at g0' g1'
              obtain ⟨wz, VZ, KZ, BZ, SZ⟩ : ∃ wz, (wp.setCell ⟨wx.heap.size, 0, none⟩ (.int .i64 lo)).setCell ⟨wx.heap.size, 1, none⟩ (.int .i64 hi_) = wz ∧ CellsAt wz wx.heap.size [.int .i64 lo, .int .i64 hi_] ∧ Below w9.heap.size w9 wz ∧ wx.heap.size < wz.heap.size :=
                ⟨_, rfl, (KP.put 0 _).put 1 _, ((Hwp.out.setCell (p := ⟨wx.heap.size, 0, none⟩) HDL.out _).setCell (p := ⟨wx.heap.size, 1, none⟩) HDL.out _), by simp; exact HDS.out⟩
              have HKZ := Lib.hid KZ; have HBZ := Lib.hid BZ
              clear KZ BZ KP
              go_wp2_with fail
              refine Only.normal ?_
              refine hK2 _ _ (Met.intro (hJ2 _ _ ?_))
              (repeat apply Exists.intro)
              refine ⟨?rel, rfl⟩
              case rel => exact ⟨_, rfl, HDL.out, SZ, HKZ, HBZ⟩
          case rest =>
            obtain ⟨D, rfl, hD1, hD2, HDC, H10⟩ := hcut
            generalize wc = wd at *
            have HKd := Lib.hid (HK9.out.upto HI9.out.size H10.out)
            have HId := Lib.hid (HI9.out.upto H10.out)
            have hneg : IntKind.i64.wrap (-lo) = -lo := neg8 HBK.out.1 HBK.out.2
            have hnegw : wrap64 (-lo) = -lo := by have := HBK.out; unfold wrap64; omega
            obtain ⟨v, r1, r2, r3⟩ := HI9.out.row
            have HVD := Lib.hid (show some D ≠ v.ownBlock from fun e => by have := (r3.ge _ e.symm).2; omega)
            have r1 := (H10.out.cell (p := ⟨w.heap.size + 2, 0, none⟩) (by have := HI9.out.size; show _ + 2 < _; omega)).trans r1
            have r2 := (H10.out.frozen (p := ⟨w.heap.size + 2, 0, none⟩) (by have := HI9.out.size; show _ + 2 < _; omega)).trans r2
            have HOd := Lib.hid (r3.below H10.out (Nat.le_refl _))
            clear r3
            gi_upto_region 11 with fail
            have d0 := (HDC.out 0 (by simp)).1
            simp only [List.getElem_cons_zero] at d0
            obtain ⟨we1, VE1, ZE1, KE1, BE1⟩ := lay8 wd [.int .i64 (j : Int), .int .i64 (i : Int), .int .i64 (-lo), .int .i64 MM] 64
            have VE1 := (show wd.alloc (.cells #[.int .i64 (j : Int), .int .i64 (i : Int), .int .i64 (-lo), .int .i64 MM] 64) = we1 from VE1)
            have KE1 := (show CellsAt we1 wd.heap.size (KC.cs (⟨(j : Int), (i : Int), -lo, MM⟩ : C4)) from KE1)
            have HOE1 := Lib.hid (show Own KC we1 (w.heap.size + 6) v (L0 ++ conS (ss.take k) l i j) from HOd.out.below BE1 (Nat.le_refl _))
            have hsz1 : w.heap.size + 6 ≤ we1.heap.size := by have := HId.out.size; omega
            have HDE1 := Lib.hid (HDC.out.below BE1)
            have c2 := (BE1.cell (p := ⟨w.heap.size + 2, 0, none⟩) (by have := HId.out.size; show _ + 2 < _; omega)).trans r1
            have f2 := (BE1.frozen (p := ⟨w.heap.size + 2, 0, none⟩) (by have := HId.out.size; show _ + 2 < _; omega)).trans r2
            have HC2' := Lib.hid c2; have HF2' := Lib.hid f2
            have HBE1 := Lib.hid BE1
            have hln : (L0 ++ conS (ss.take k) l i j).length + 1 ≤ 100000000 := by rw [List.length_append]; have h1 := HCU.out; have h2 := HSL.out k; omega
            clear BE1 c2 f2
            refine wpIn_region_roundL (by kernel_rfl) ?_
            go_wp2_with (first | (at_builtin; refine walk_push8 KC (w0 := we1) rfl _ _ rfl (w.heap.size + 6) v (L0 ++ conS (ss.take k) l i j) (⟨(j : Int), (i : Int), -lo, MM⟩ : C4) rfl HOE1.out (Below.refl _ _) hsz1 wd.heap.size 1 rfl KE1 hln ?_; intro v' w' hown hbl hgr hbk; obtain ⟨ad', cp', hv9, _⟩ := hown.form; generalize (L0 ++ conS (ss.take k) l i j ++ [(⟨(j : Int), (i : Int), -lo, MM⟩ : C4)]).length = nl at hv9; subst hv9; have c2 := (hbl.cell (p := ⟨w.heap.size + 2, 0, none⟩) (by show _ + 2 < _ + 6; omega)).trans HC2'.out; have f2 := (hbl.frozen (p := ⟨w.heap.size + 2, 0, none⟩) (by show _ + 2 < _ + 6; omega)).trans HF2'.out; obtain ⟨wf1, VF1, HIf1, HKf1, HDf1⟩ : ∃ wf, w'.setCell ⟨w.heap.size + 2, 0, none⟩ (.slice ad' nl cp') = wf ∧ Hid (CsI w w.heap.size (.slice (some ⟨eb, eo, none⟩) l.length c) (.slice (some ⟨g0, 0, none⟩) rs.length cr) (L0 ++ conS (ss.take k) l i j ++ [(⟨(j : Int), (i : Int), -lo, MM⟩ : C4)]) wf) ∧ Hid (KpB w.heap.size W wf) ∧ Hid (CellsAt wf D [.int .i64 lo, .int .i64 hi_]) := ⟨_, rfl, Lib.hid (HId.out.push rfl HBE1.out hown hbl), Lib.hid (HKd.out.push HId.out.size HBE1.out hbl), Lib.hid ((CellsAt.grown HDE1.out hgr HVD.out).far (by have := HI9.out.size; omega))⟩; clear hown hbl hgr hbk))
            refine Only.normal ?_
            clear c2 f2 VE1 VF1 r1 r2
            clear d0
            have d1 := (HDf1.out 1 (by simp)).1
            simp only [List.getElem_cons_zero, List.getElem_cons_succ] at d1
            by_cases hnb : hi_ = nB
            · have HRE := Lib.hid (show L0 ++ conS (ss.take k) l i j ++ [(⟨(j : Int), (i : Int), -lo, MM⟩ : C4)] = L0 ++ conS (ss.take (k + 1)) l i j from by rw [HRW.out, if_pos hnb, List.append_assoc])
              rw [HRE.out] at HIf1
              have hq : (hi_ == 1152921504606846976) = true := beq_iff_eq.2 hnb
              have hq2 : hi_ = 1152921504606846976 := hnb
              subst hq2
              clear hnb hq
              gi_wp2
              go_roundw
              case rel => exact ⟨k + 1, HLT.out, by go_num, HIf1, HKf1⟩
              case measure => have := HLT.out; simp [RowKit.intOf]; omega
            · have HRE := Lib.hid (show L0 ++ conS (ss.take k) l i j ++ [(⟨(j : Int), (i : Int), -lo, MM⟩ : C4)] ++ [(⟨(i : Int), (j : Int), hi_, MM⟩ : C4)] = L0 ++ conS (ss.take (k + 1)) l i j from by rw [HRW.out, if_neg hnb, List.append_assoc, List.append_assoc]; rfl)
              have hq : (hi_ == 1152921504606846976) = false := beq_eq_false_iff_ne.2 hnb
              have hq2 : ¬ hi_ = 1152921504606846976 := hnb
              clear hnb
              obtain ⟨v, r1, r2, r3⟩ := HIf1.out.row
              have HO2 := Lib.hid r3
              clear r3
              gi_upto_region 13 with fail
              clear hq hq2
              obtain ⟨we2, VE2, ZE2, KE2, BE2⟩ := lay8 wf1 [.int .i64 (i : Int), .int .i64 (j : Int), .int .i64 hi_, .int .i64 MM] 64
              have VE2 := (show wf1.alloc (.cells #[.int .i64 (i : Int), .int .i64 (j : Int), .int .i64 hi_, .int .i64 MM] 64) = we2 from VE2)
              have KE2 := (show CellsAt we2 wf1.heap.size (KC.cs (⟨(i : Int), (j : Int), hi_, MM⟩ : C4)) from KE2)
              have HOE2 := Lib.hid (show Own KC we2 (w.heap.size + 6) v (L0 ++ conS (ss.take k) l i j ++ [(⟨(j : Int), (i : Int), -lo, MM⟩ : C4)]) from HO2.out.below BE2 (Nat.le_refl _))
              have hsz2 : w.heap.size + 6 ≤ we2.heap.size := by have := HIf1.out.size; omega
              have HDE2 := Lib.hid (HDf1.out.below BE2)
              have c2 := (BE2.cell (p := ⟨w.heap.size + 2, 0, none⟩) (by have := HIf1.out.size; show _ + 2 < _; omega)).trans r1
              have f2 := (BE2.frozen (p := ⟨w.heap.size + 2, 0, none⟩) (by have := HIf1.out.size; show _ + 2 < _; omega)).trans r2
              have HC2' := Lib.hid c2; have HF2' := Lib.hid f2
              have HBE2 := Lib.hid BE2
              have hln : (L0 ++ conS (ss.take k) l i j ++ [(⟨(j : Int), (i : Int), -lo, MM⟩ : C4)]).length + 1 ≤ 100000000 := by rw [List.length_append, List.length_append]; have h1 := HCU.out; have h2 := HSL.out k; simp; omega
              clear BE2 c2 f2
              refine wpIn_region_roundL (by kernel_rfl) ?_
              go_wp2_with (first | (at_builtin; refine walk_push8 KC (w0 := we2) rfl _ _ rfl (w.heap.size + 6) v (L0 ++ conS (ss.take k) l i j ++ [(⟨(j : Int), (i : Int), -lo, MM⟩ : C4)]) (⟨(i : Int), (j : Int), hi_, MM⟩ : C4) rfl HOE2.out (Below.refl _ _) hsz2 wf1.heap.size 1 rfl KE2 hln ?_; intro v' w' hown hbl hgr hbk; obtain ⟨ad', cp', hv9, _⟩ := hown.form; generalize (L0 ++ conS (ss.take k) l i j ++ [(⟨(j : Int), (i : Int), -lo, MM⟩ : C4)] ++ [(⟨(i : Int), (j : Int), hi_, MM⟩ : C4)]).length = nl at hv9; subst hv9; have c2 := (hbl.cell (p := ⟨w.heap.size + 2, 0, none⟩) (by show _ + 2 < _ + 6; omega)).trans HC2'.out; have f2 := (hbl.frozen (p := ⟨w.heap.size + 2, 0, none⟩) (by show _ + 2 < _ + 6; omega)).trans HF2'.out; obtain ⟨wf2, VF2, HIf2, HKf2⟩ : ∃ wf, w'.setCell ⟨w.heap.size + 2, 0, none⟩ (.slice ad' nl cp') = wf ∧ Hid (CsI w w.heap.size (.slice (some ⟨eb, eo, none⟩) l.length c) (.slice (some ⟨g0, 0, none⟩) rs.length cr) (L0 ++ conS (ss.take k) l i j ++ [(⟨(j : Int), (i : Int), -lo, MM⟩ : C4)] ++ [(⟨(i : Int), (j : Int), hi_, MM⟩ : C4)]) wf) ∧ Hid (KpB w.heap.size W wf) := ⟨_, rfl, Lib.hid (HIf1.out.push rfl HBE2.out hown hbl), Lib.hid (HKf1.out.push HIf1.out.size HBE2.out hbl)⟩; clear hown hbl hgr hbk))
              refine Only.normal ?_
              clear c2 f2 VE2 VF2 r1 r2
              rw [HRE.out] at HIf2
              gi_wp2
              go_roundw
              case rel => exact ⟨k + 1, HLT.out, by go_num, HIf2, HKf2⟩
              case measure => have := HLT.out; simp [RowKit.intOf]; omega
      · have hke : k = rs.length := by omega
        have H3 := Lib.hid (show CsI w w.heap.size (.slice (some ⟨eb, eo, none⟩) l.length c) (.slice (some ⟨g0, 0, none⟩) rs.length cr) (conU ss l (pre ++ [(i, j)])) wr from by rw [HSN.out]; have h := HI.out; rw [show ss.take k = ss from by rw [hke, HRL.out, List.take_length]] at h; exact h)
        have hki : ¬ (k : Int) < (rs.length : Int) := by omega
        clear hke hlt
        gi_wp2
        exact ⟨⟨HKP.out _ (by omega) (by omega), HKP.out _ (by omega) (by omega), HKP.out _ (by omega) (by omega)⟩, H3.out⟩
  case done =>
    intro W hI hD
    have hsz := hI.size
    obtain ⟨v, r1, r2, r3⟩ := hI.row
    obtain ⟨ad', c', rfl, hc, hn⟩ := r3.rn
    have HP := Lib.hid (show ConsPost w (conW ss l) (.returned (.slice ad' (conU ss l (pairK l.length l.length)).length c')) (W.putObj w4.heap.size (.deferred none)) from
      ⟨ad', c', rfl, hc, (hn.grown (grownBy_putObj' W _ _) (by omega)).base (by omega), hI.bl.trans (belowK_b (w := w) (Nat.le_refl _) W _ _ _ (by omega) hD rfl rfl)⟩)
    have HD := Lib.hid hD
    clear hI r2 r3 hn hc hD
    gi_wp2
    refine ⟨by simp, .inl ⟨_, _, rfl, run_takeDeferred HD.out, ?_⟩⟩
    exact ⟨_, by simp [results, Tryd.f44, go_sem], HP.out⟩
end Go.Proofs.YtifdcfjllonmgaaDoor
