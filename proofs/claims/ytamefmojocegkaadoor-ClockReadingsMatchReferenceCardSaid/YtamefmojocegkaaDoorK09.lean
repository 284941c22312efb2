/-
  Layer 8, the program: constraints, the walk. Layer 8, the program: Constraints, Agrees. Layer 8: what Find asks, as the program asks it: plain. Layer 8, the program: Find.
-/
import Derived.Test.YtamefmojocegkaaDoorProg
import Derived.Test.YtamefmojocegkaaDoorK08
import Derived.Sort.CutIn
import Derived.RangeFuncNested
import Derived.RangeFuncBound
import Derived.RangeFuncCalls
import Derived.RangeFuncLeaves
import Derived.RangeFuncFrom
import Derived.RangeFuncRecord
import Derived.OwnWalkIn
import Derived.TacticsInMore
import Derived.LoopNIn
import Derived.LoopIn
import Derived.Maps.Own
import Derived.Maps.OwnOps
import Derived.Laws.Rows
import Derived.Laws.OwnMore
import Derived.OwnWalk
import Derived.WalkKit
import Derived.WalkLawsBesides
import Derived.Outline
import Derived.Lib.Hide
import Derived.Below
import Derived.BigQuiet
import Derived.Deep.QuietTactic
import Derived.Deep.RegionHeld3
import Derived.Lib.QuietBelow
import Derived.Deep.DeepCutAuto
import Derived.StillTail
import Derived.TacticsIn
import Derived.OrdersIn
import Derived.Laws.Bits128
import Derived.Laws.StructEq
set_option maxRecDepth 100000
set_option maxHeartbeats 16000000
namespace Go.Proofs.YtamefmojocegkaaDoor
open Go Go.Proofs Go.RowKit Go.Lib
attribute [local go_sem] Oper.semAt_some run_store_func8
def ConsPost (w : World) (L : List C4) (e : Ending) (w' : World) : Prop := ∃ ad c, e = .returned (.slice ad L.length c) ∧ L.length ≤ c ∧ RN KC w' w.heap.size ad L ∧ Below w.heap.size w w'
theorem constraints_in (ss : List RSem) (good : Ev → Prop) (rs : List Rl) (g0 cr : Nat) (ad : Option Addr) (c : Nat) (l : List Ev) (w : World) (hl : l.length ≤ 24) (hss : ss.length ≤ 8) (hI : RL KE w ad l) (hR : RL KR w (some ⟨g0, 0, none⟩) rs) (hK : RlsOk w good rs ss) (hG : ∀ i, i < l.length → good (evD l i)) (hA : ∀ e, good e → 0 ≤ e.ag ∧ e.ag ≤ 5)
 (hB : ∀ s ∈ ss, ∀ a b, good a → good b → -1152921504606846976 ≤ s.lo a b ∧ s.lo a b ≤ 1152921504606846976) :
 CallsIn Fence.wide 3 Tryd.prog 44 #[.slice ad l.length c, .slice (some ⟨g0, 0, none⟩) rs.length cr] w (ConsPost w (conW ss l)) := by
 obtain ⟨w1, V1, Z1, K1, B1⟩ := lay8 w [.slice ad l.length c] 25
 obtain ⟨w2, V2, Z2, K2, B2⟩ := lay8 w1 [.slice (some ⟨g0, 0, none⟩) rs.length cr] 82
 obtain ⟨w3, V3, Z3, K3, B3⟩ := lay8 w2 [.slice none 0 0] 36
 obtain ⟨w4, V4, Z4, K4, B4⟩ := lay8 w3 [.int .i64 (l.length : Int)] 3
 rw [Z1] at Z2 K2 B2
 rw [Z2] at Z3 K3 B3
 rw [Z3] at Z4 K4 B4
 simp only [Nat.add_assoc, Nat.reduceAdd] at Z2 Z3 Z4 K3 K4 B3 B4
 have F1 := ((K1.up B2 (by omega)).up B3 (by omega)).up B4 (by omega)
 have F2 := (K2.up B3 (by omega)).up B4 (by omega)
 have F3 := K3.up B4 (by omega)
 have HB4 := Lib.hid (show Below w.heap.size w w4 from B1.trans ((B2.mono (by omega)).trans ((B3.mono (by omega)).trans (B4.mono (by omega)))))
 obtain ⟨y0, _⟩ := (K1.up B2 (by omega)).up B3 (by omega) 0 (by simp)
 simp only [List.getElem_cons_zero] at y0
 have HI0 := Lib.hid (show ∀ o o', CsI w w.heap.size (.slice ad l.length c) (.slice (some ⟨g0, 0, none⟩) rs.length cr) (conU ss l []) ((w4.alloc o).alloc o') from fun o o' => by
  have b2 : Below w4.heap.size w4 ((w4.alloc o).alloc o') := ((Below.refl _ _).alloc (Nat.le_refl _) _).alloc (by simp) _
  exact ⟨HB4.out.trans (b2.mono HB4.out.size), ((F1.up b2 (by omega)) 0 (by simp)).1, ((F2.up b2 (by omega)) 0 (by simp)).1, ⟨_, ((F3.up b2 (by omega)) 0 (by simp)).1, ((F3.up b2 (by omega)) 0 (by simp)).2, Own.nil _ _ _⟩, by simp; omega⟩)
 have HC4 := Lib.hid (show w4.cell? ⟨w.heap.size + 3, 0, none⟩ = some (.int .i64 (l.length : Int)) from (K4 0 (by simp)).1)
 have HPL := Lib.hid (pairK_le l.length l.length)
 have HSQ := Lib.hid (fun n => pairs_seq 2 n (w.heap.size + 3) l.length (by omega))
 have HIC := Lib.hid (fun h => hI.evs h); have HRC := Lib.hid hR; have HKR := Lib.hid hK; have HG := Lib.hid hG; have HA := Lib.hid hA; have HBD := Lib.hid hB; have HSS := Lib.hid hss; have HL24 := Lib.hid hl
 clear F1 F2 F3 K1 K2 K3 K4 B1 B2 B3 B4 hI hR hK hG hA hB hss
 refine callsIn_of_wp_marks Tryd.func44 rfl trivial ?_ rfl
 simp only [Tryd.ntmps44, List.size_toArray, List.length_cons, List.length_nil, Nat.reduceAdd, Nat.reduceSub, Array.replicate_succ, Array.replicate_zero, List.push_toArray, List.append_toArray, List.nil_append, List.cons_append]
 gi_wp2_with (refine ⟨trivial, ?_⟩; gi_at_call 65; refine (callsIn_wide.2 (pairs_u _ _)).mono ?_; rintro e w' ⟨rfl, hw'⟩; rw [V4] at hw'; subst hw')
 refine rangeFunc_over8 (gf := 79) rfl ?eg (fun x : Nat × Nat => #[.int .i64 (x.1 : Int), .int .i64 (x.2 : Int)]) (fun _ => rfl) (pairK l.length l.length)
  (fun k => k = w.heap.size + 3) ?mine ?seq
  (fun pre W => CsI w w.heap.size (.slice ad l.length c) (.slice (some ⟨g0, 0, none⟩) rs.length cr) (conU ss l pre) W)
  ?iset ?iput ?i0
  (fun x => { tmps := #[.slice ad l.length c, .slice (some ⟨g0, 0, none⟩) rs.length cr, .pointer (some ⟨w.heap.size, 0, none⟩), .pointer (some ⟨w.heap.size + 1, 0, none⟩), .slice none 0 0, .pointer (some ⟨w.heap.size + 2, 0, none⟩), .int .i64 (x.1 : Int), .int .i64 (x.2 : Int), undef, undef, undef, undef, .slice ad l.length c, .int .i64 (l.length : Int), .func (.func 79) #[] #[.pointer (some ⟨w.heap.size + 3, 0, none⟩)], .int .i64 (x.1 : Int), .int .i64 (x.2 : Int), undef, undef, undef, undef, undef, undef, undef, undef, undef, undef, undef, undef, undef, undef, undef, undef, undef, undef, undef, undef, undef, undef, undef, undef, undef, undef, undef, undef, undef, undef, undef, undef, undef, undef, undef, undef, undef, undef, undef, undef, undef, undef, undef, undef, undef, undef, undef, undef, undef, undef, undef, undef, undef, undef, undef, undef, undef, undef, undef, undef, undef, undef, undef, undef, undef, undef], defers := [] }) ?assign ?body ?done
 case eg => intro args W; rfl
 case mine => intro k hk; omega
 case seq =>
  intro n J W _ hy h0 hold
  refine HSQ.out n J W (by rw [← HC4.out]; exact World.cell?_of_block (a := ⟨w.heap.size + 3, 0, none⟩) (hold (w.heap.size + 3) (by rw [Z4]; omega))) (fun pre x A hJ hp => ?_) h0
  obtain ⟨fn, tm, ag, bd, h1, h2⟩ := hy pre x A hJ hp
  exact ⟨fn, tm, ag, bd, h1, h2.mono (fun e A' ⟨e1, e2, e3⟩ => ⟨e1, e2, e3 _ rfl⟩)⟩
 case iset => intro s A b v hb h; subst hb; exact h.keep rfl (.inl rfl) (grownBy_setCell' _ _ _)
 case iput => intro s A o hz h; rw [Z4]; exact h.keep rfl (.inr rfl) (grownBy_putObj' _ _ _)
 case i0 => exact fun o o' => HI0.out o o'
 case assign =>
  intro n x W K hK
  gi_wp2
  exact hK
 case body =>
  intro n pre x W hI hp
  obtain ⟨i, j⟩ := x
  obtain ⟨hi, hj⟩ := mem_pairK (hp.subset (List.mem_append_right _ (List.mem_singleton_self _)))
  dsimp only at hi hj
  have hpl : pre.length + 1 ≤ 576 := by
   have h1 := hp.length_le
   have h2 := HPL.out
   have h3 : l.length * l.length ≤ 24 * 24 := Nat.mul_le_mul HL24.out HL24.out
   simp at h1
   omega
  have HCU := Lib.hid (show (conU ss l pre).length ≤ 9200 by have := conU_le ss l HSS.out pre; omega)
  clear hpl hp
  have HI0' := Lib.hid hI
  clear hI
  obtain ⟨eb, eo, rfl, heb, hcc⟩ := HIC.out (by omega)
  have hik := fun W => at_ev8 eb eo l.length c i hi W
  have hjk := fun W => at_ev8 eb eo l.length c j hj W
  have CA := Lib.hid (hcc i hi); have CB := Lib.hid (hcc j hj)
  have GA := Lib.hid (HG.out i hi); have GB := Lib.hid (HG.out j hj)
  obtain ⟨a0, a1⟩ := HA.out _ GA.out; obtain ⟨b0, b1⟩ := HA.out _ GB.out
  have HROW := Lib.hid (fun k (hk : k < ss.length) => conS_take ss l i j k hk)
  have HRC2 := Lib.hid (show ∀ s : RSem, rowC s l i j = if s.ap (evD l i) (evD l j) = true then ⟨j, i, -(s.lo (evD l i) (evD l j)), mask8 (evD l i) (evD l j)⟩ :: (if s.hi (evD l i) (evD l j) = nB then [] else [⟨i, j, s.hi (evD l i) (evD l j), mask8 (evD l i) (evD l j)⟩]) else [] from fun _ => rfl)
  have HS0 := Lib.hid (show conS (ss.take 0) l i j = [] from rfl)
  have HSN := Lib.hid (conU_snoc ss l pre (i, j))
  have HSL := Lib.hid (fun k => by have h1 := conS_le l i j (ss.take k); have h2 := HSS.out; rw [List.length_take] at h1; exact (show (conS (ss.take k) l i j).length ≤ 16 by omega))
  have HST := Lib.hid (show conS (ss.take ss.length) l i j = conS ss l i j by rw [List.take_length])
  have HBD2 := Lib.hid (fun s hs => HBD.out s hs _ _ GA.out GB.out)
  have HKR2 := Lib.hid (show ∀ k (h1 : k < rs.length) (h2 : k < ss.length) (W' : World), Below w.heap.size w W' → _ from fun k h1 h2 W' b => (HKR.out.2 k h1 h2).2.2 W' b _ _ GA.out GB.out)
  have HEG := Lib.hid (fun k h1 h2 => (⟨(HKR.out.2 k h1 h2).1, (HKR.out.2 k h1 h2).2.1⟩ : _ ∧ _))
  have HRL := Lib.hid HKR.out.1
  have HM := Lib.hid (show mask8 (evD l i) (evD l j) = if (evD l i).ag = (evD l j).ag then (2 : Int) ^ (evD l i).ag.toNat else (2 : Int) ^ (evD l i).ag.toNat + (2 : Int) ^ (evD l j).ag.toNat from rfl)
  have hor := or_mask a0 a1 b0 b1
  rw [← HM.out] at hor
  generalize conU ss l pre = L0 at *
  generalize evD l i = a at *
  generalize evD l j = b at *
  generalize mask8 a b = MM at *
  obtain ⟨na, hna⟩ := Int.eq_ofNat_of_zero_le a0
  obtain ⟨nb, hnb⟩ := Int.eq_ofNat_of_zero_le b0
  obtain ⟨MA, hMA⟩ : ∃ MA, (2 : Int) ^ a.ag.toNat = MA := ⟨_, rfl⟩
  obtain ⟨MB, hMB⟩ : ∃ MB, (2 : Int) ^ b.ag.toNat = MB := ⟨_, rfl⟩
  obtain ⟨ma0, ma1⟩ : 1 ≤ MA ∧ MA ≤ 32 := by rw [← hMA]; exact pow8 _ (by omega)
  obtain ⟨mb0, mb1⟩ : 1 ≤ MB ∧ MB ≤ 32 := by rw [← hMB]; exact pow8 _ (by omega)
  have hwa : IntKind.i64.wrap MA = MA := IntWalk.i64_in _ (by omega)
  have hwb : IntKind.i64.wrap MB = MB := IntWalk.i64_in _ (by omega)
  rw [hMA, hMB] at hor
  have hor2 : bits BinOp.or IntKind.i64 (wrap64 ((2 : Int) ^ na)) (wrap64 ((2 : Int) ^ nb)) = MM := by
   have e1 : (2 : Int) ^ na = MA := by rw [← hMA, hna, Int.toNat_natCast]
   have e2 : (2 : Int) ^ nb = MB := by rw [← hMB, hnb, Int.toNat_natCast]
   rw [e1, e2, show wrap64 MA = MA by unfold wrap64; omega, show wrap64 MB = MB by unfold wrap64; omega]; exact hor
  have HOR2 := Lib.hid hor2
  clear hor2
  have HZ6 := Lib.hid HI0'.out.size
  have HYY := Lib.hid (show ∀ Y, Below W.heap.size W Y → Y.cell? ⟨w.heap.size, 0, none⟩ = some (.slice (some ⟨eb, eo, none⟩) l.length c) ∧ EvCells Y eb (eo + 12 * i) a ∧ EvCells Y eb (eo + 12 * j) b from fun Y bw => ⟨(HI0'.out.upto bw).b0, CA.out Y (HI0'.out.upto bw).bl, CB.out Y (HI0'.out.upto bw).bl⟩)
  clear hcc heb HM
  dsimp only
  gi_upto_region 5 with fail
  gi_cut [8] from 83 (fun m wx => m = .int .i64 MM ∧ Hid (Below W.heap.size W wx))
  case first =>
   rename_i J2 K2 hJ2 hK2
   refine wpIn_region_roundK (C := NewC W) [13] 13 #[false, false, false, false, false, false, false, false, false, false, false, false, false, false] (by kernel_rfl) (by kernel_rfl) (by kernel_rfl) (by kernel_rfl) (newC0 _) ?_
   intro wx hwx
   refine wpAnyK_ex (i := 0) rfl (by kernel_rfl) (listed' := #[true, false, false, false, false, false, false, false, false, false, false, false, false, false]) rfl (fun _ _ _ _ _ h => h) hwx ?_
   apply Exists.intro
   refine ⟨⟨by rfl, fun wy hw => ?_⟩, ?_⟩
   · (have bw := hw.below; obtain ⟨z0, q1, q2⟩ := HYY.out _ bw; obtain ⟨a00, a01, a02, a03, a04, a05, a06, a07, a08, a09, a10, a11⟩ := q1; obtain ⟨b00, b01, b02, b03, b04, b05, b06, b07, b08, b09, b10, b11⟩ := q2; go_simp; try (first | (with_reducible rfl) | (with_reducible exact ⟨rfl, rfl⟩)))
   try simp only [Act.put]
   refine wpAnyK_ex (i := 1) rfl (by kernel_rfl) (listed' := #[true, true, false, false, false, false, false, false, false, false, false, false, false, false]) rfl (fun _ _ _ _ _ h => h) hwx ?_
   apply Exists.intro
   refine ⟨⟨by rfl, fun wy hw => ?_⟩, ?_⟩
   · (have bw := hw.below; obtain ⟨z0, q1, q2⟩ := HYY.out _ bw; obtain ⟨a00, a01, a02, a03, a04, a05, a06, a07, a08, a09, a10, a11⟩ := q1; obtain ⟨b00, b01, b02, b03, b04, b05, b06, b07, b08, b09, b10, b11⟩ := q2; go_simp; try (first | (with_reducible rfl) | (with_reducible exact ⟨rfl, rfl⟩)))
   try simp only [Act.put]
   refine wpAnyK_ex (i := 2) rfl (by kernel_rfl) (listed' := #[true, true, true, false, false, false, false, false, false, false, false, false, false, false]) rfl (fun _ _ _ _ _ h => h) hwx ?_
   apply Exists.intro
   refine ⟨⟨by rfl, fun wy hw => ?_⟩, ?_⟩
   · (have bw := hw.below; obtain ⟨z0, q1, q2⟩ := HYY.out _ bw; obtain ⟨a00, a01, a02, a03, a04, a05, a06, a07, a08, a09, a10, a11⟩ := q1; obtain ⟨b00, b01, b02, b03, b04, b05, b06, b07, b08, b09, b10, b11⟩ := q2; go_simp; try (first | (with_reducible rfl) | (with_reducible exact ⟨rfl, rfl⟩)))
   try simp only [Act.put]
   refine wpAnyK_ex (i := 3) rfl (by kernel_rfl) (listed' := #[true, true, true, true, false, false, false, false, false, false, false, false, false, false]) rfl (fun _ _ _ _ _ h => h) hwx ?_
   apply Exists.intro
   refine ⟨⟨by rfl, fun wy hw => ?_⟩, ?_⟩
   · (have bw := hw.below; obtain ⟨z0, q1, q2⟩ := HYY.out _ bw; obtain ⟨a00, a01, a02, a03, a04, a05, a06, a07, a08, a09, a10, a11⟩ := q1; obtain ⟨b00, b01, b02, b03, b04, b05, b06, b07, b08, b09, b10, b11⟩ := q2; go_simp; try (first | (with_reducible rfl) | (with_reducible exact ⟨rfl, rfl⟩)))
   try simp only [Act.put]
   refine wpAnyK_ex (i := 4) rfl (by kernel_rfl) (listed' := #[true, true, true, true, true, false, false, false, false, false, false, false, false, false]) rfl (fun _ _ _ _ _ h => h) hwx ?_
   apply Exists.intro
   refine ⟨⟨by rfl, fun wy hw => ?_⟩, ?_⟩
   · (have bw := hw.below; obtain ⟨z0, q1, q2⟩ := HYY.out _ bw; obtain ⟨a00, a01, a02, a03, a04, a05, a06, a07, a08, a09, a10, a11⟩ := q1; obtain ⟨b00, b01, b02, b03, b04, b05, b06, b07, b08, b09, b10, b11⟩ := q2; go_simp; try (first | (with_reducible rfl) | (with_reducible exact ⟨rfl, rfl⟩)))
   try simp only [Act.put]
   refine wpAnyK_ex (i := 5) rfl (by kernel_rfl) (listed' := #[true, true, true, true, true, true, false, false, false, false, false, false, false, false]) rfl (fun _ _ _ _ _ h => h) hwx ?_
   apply Exists.intro
   refine ⟨⟨by rfl, fun wy hw => ?_⟩, ?_⟩
   · (have bw := hw.below; obtain ⟨z0, q1, q2⟩ := HYY.out _ bw; obtain ⟨a00, a01, a02, a03, a04, a05, a06, a07, a08, a09, a10, a11⟩ := q1; obtain ⟨b00, b01, b02, b03, b04, b05, b06, b07, b08, b09, b10, b11⟩ := q2; go_simp; try (first | (with_reducible rfl) | (with_reducible exact ⟨rfl, rfl⟩)))
   try simp only [Act.put]
   refine wpAnyK_ex (i := 6) rfl (by kernel_rfl) (listed' := #[true, true, true, true, true, true, true, false, false, false, false, false, false, false]) rfl (fun _ _ _ _ _ h => h) hwx ?_
   apply Exists.intro
   refine ⟨⟨by rfl, fun wy hw => ?_⟩, ?_⟩
   · (have bw := hw.below; obtain ⟨z0, q1, q2⟩ := HYY.out _ bw; obtain ⟨a00, a01, a02, a03, a04, a05, a06, a07, a08, a09, a10, a11⟩ := q1; obtain ⟨b00, b01, b02, b03, b04, b05, b06, b07, b08, b09, b10, b11⟩ := q2; go_simp; try (first | (with_reducible rfl) | (with_reducible exact ⟨rfl, rfl⟩)))
   try simp only [Act.put]
   refine wpAnyK_ex (i := 7) rfl (by kernel_rfl) (listed' := #[true, true, true, true, true, true, true, true, false, false, false, false, false, false]) rfl (fun _ _ _ _ _ h => h) hwx ?_
   apply Exists.intro
   refine ⟨⟨by rfl, fun wy hw => ?_⟩, ?_⟩
   · (have bw := hw.below; obtain ⟨z0, q1, q2⟩ := HYY.out _ bw; obtain ⟨a00, a01, a02, a03, a04, a05, a06, a07, a08, a09, a10, a11⟩ := q1; obtain ⟨b00, b01, b02, b03, b04, b05, b06, b07, b08, b09, b10, b11⟩ := q2; go_simp; try (first | (with_reducible rfl) | (with_reducible exact ⟨rfl, rfl⟩)))
   try simp only [Act.put]
   refine wpAnyK_ex (i := 8) rfl (by kernel_rfl) (listed' := #[true, true, true, true, true, true, true, true, true, false, false, false, false, false]) rfl (fun _ _ _ _ _ h => h) hwx ?_
   apply Exists.intro
   refine ⟨⟨by rfl, fun wy hw => ?_⟩, ?_⟩
   · (have bw := hw.below; obtain ⟨z0, q1, q2⟩ := HYY.out _ bw; obtain ⟨a00, a01, a02, a03, a04, a05, a06, a07, a08, a09, a10, a11⟩ := q1; obtain ⟨b00, b01, b02, b03, b04, b05, b06, b07, b08, b09, b10, b11⟩ := q2; go_simp; try (first | (with_reducible rfl) | (with_reducible exact ⟨rfl, rfl⟩)))
   try simp only [Act.put]
   refine wpAnyK_ex (i := 9) rfl (by kernel_rfl) (listed' := #[true, true, true, true, true, true, true, true, true, true, false, false, false, false]) rfl (fun _ _ _ _ _ h => h) hwx ?_
   apply Exists.intro
   refine ⟨⟨by rfl, fun wy hw => ?_⟩, ?_⟩
   · (have bw := hw.below; obtain ⟨z0, q1, q2⟩ := HYY.out _ bw; obtain ⟨a00, a01, a02, a03, a04, a05, a06, a07, a08, a09, a10, a11⟩ := q1; obtain ⟨b00, b01, b02, b03, b04, b05, b06, b07, b08, b09, b10, b11⟩ := q2; go_simp; try (first | (with_reducible rfl) | (with_reducible exact ⟨rfl, rfl⟩)))
   try simp only [Act.put]
   refine wpAnyK_ex (i := 10) rfl (by kernel_rfl) (listed' := #[true, true, true, true, true, true, true, true, true, true, true, false, false, false]) rfl (fun _ _ _ _ _ h => h) hwx ?_
   apply Exists.intro
   refine ⟨⟨by rfl, fun wy hw => ?_⟩, ?_⟩
   · (have bw := hw.below; obtain ⟨z0, q1, q2⟩ := HYY.out _ bw; obtain ⟨a00, a01, a02, a03, a04, a05, a06, a07, a08, a09, a10, a11⟩ := q1; obtain ⟨b00, b01, b02, b03, b04, b05, b06, b07, b08, b09, b10, b11⟩ := q2; go_simp; try (first | (with_reducible rfl) | (with_reducible exact ⟨rfl, rfl⟩)))
   try simp only [Act.put]
   refine wpAnyK_ex (i := 11) rfl (by kernel_rfl) (listed' := #[true, true, true, true, true, true, true, true, true, true, true, true, false, false]) rfl (fun _ _ _ _ _ h => h) hwx ?_
   apply Exists.intro
   refine ⟨⟨by rfl, fun wy hw => ?_⟩, ?_⟩
   · (have bw := hw.below; obtain ⟨z0, q1, q2⟩ := HYY.out _ bw; obtain ⟨a00, a01, a02, a03, a04, a05, a06, a07, a08, a09, a10, a11⟩ := q1; obtain ⟨b00, b01, b02, b03, b04, b05, b06, b07, b08, b09, b10, b11⟩ := q2; go_simp; try (first | (with_reducible rfl) | (with_reducible exact ⟨rfl, rfl⟩)))
   try simp only [Act.put]
   refine wpAnyK_ex (i := 12) rfl (by kernel_rfl) (listed' := #[true, true, true, true, true, true, true, true, true, true, true, true, true, false]) rfl (fun _ _ _ _ _ h => h) hwx ?_
   apply Exists.intro
   refine ⟨⟨by rfl, fun wy hw => ?_⟩, ?_⟩
   · (have bw := hw.below; obtain ⟨z0, q1, q2⟩ := HYY.out _ bw; obtain ⟨a00, a01, a02, a03, a04, a05, a06, a07, a08, a09, a10, a11⟩ := q1; obtain ⟨b00, b01, b02, b03, b04, b05, b06, b07, b08, b09, b10, b11⟩ := q2; go_simp; try (first | (with_reducible rfl) | (with_reducible exact ⟨rfl, rfl⟩)))
   try simp only [Act.put]
   refine wpAnyK_end (by kernel_rfl) ?_
   try simp only [pickOps, List.filterMap_cons, List.filterMap_nil, List.getElem?_toArray, List.getElem?_cons_succ, List.getElem?_cons_zero]
   have HBx := Lib.hid hwx.below
   go_wp2_with fail
   refine Only.normal ?_
   refine hK2 _ _ (Met.intro (hJ2 _ _ ?_))
   (repeat apply Exists.intro)
   refine ⟨?rel, rfl⟩
   case rel => exact ⟨by first | rfl | rw [HOR2.out], HBx⟩
  case rest =>
  obtain ⟨rfl, HBx⟩ := hcut
  generalize wc = wx at *
  clear hna hnb
  have HIx := Lib.hid (HI0'.out.upto HBx.out)
  have HKx := Lib.hid (show KpB w.heap.size W wx from KpB.upto (fun _ _ _ => rfl) HZ6.out HBx.out)
  have y1 := HIx.out.b1
  gi_wp2
  gi_loopw [32] (fun q wr => ∃ k : Nat, k ≤ rs.length ∧ q = .int .i64 k ∧ Hid (CsI w w.heap.size (.slice (some ⟨eb, eo, none⟩) l.length c) (.slice (some ⟨g0, 0, none⟩) rs.length cr) (L0 ++ conS (ss.take k) l i j) wr) ∧ Hid (KpB w.heap.size W wr)) (fun q _ => rs.length - (RowKit.intOf q).toNat)
  case atStart => exact ⟨0, Nat.zero_le _, rfl, Lib.hid (by rw [HS0.out, List.append_nil]; exact HIx.out), HKx⟩
  case round =>
   clear HIx HKx y1 HBx
   obtain ⟨k, hk, rfl, HI, HKP⟩ := hrel
   by_cases hlt : k < rs.length
   · have hki : (k : Int) < (rs.length : Int) := by omega
     have HLT := Lib.hid hlt
     have hk8 : rs.length ≤ 8 := by rw [HRL.out]; exact HSS.out
     have hks : k < ss.length := by rw [← HRL.out]; exact hlt
     obtain ⟨gb, go_, hge, hgl, hgc⟩ := HRC.out.at_ k hlt
     injection hge with hge
     injection hge with hg1 hg2
     subst hg1 hg2
     have hxk := fun W => at_rl8 g0 0 rs.length cr k hlt W
     have hc0 := hgc wr HI.out.bl 0 (by decide)
     have hc1 := hgc wr HI.out.bl 1 (by decide)
     have HRW := Lib.hid (by have := HRC2.out (ss[k]'hks); have h2 := HROW.out k hks; rw [this] at h2; exact h2)
     have HBK := Lib.hid (HBD2.out _ (List.getElem_mem hks))
     have HCL := Lib.hid (HKR2.out k hlt hks)
     obtain ⟨eg1, eg2⟩ := HEG.out k hlt hks
     generalize ss[k]'hks = s at *
     generalize rs[k]'hlt = r at *
     have hc0 := (show wr.cell? ⟨g0, 0 + 2 * k, none⟩ = some (.func (.func r.f1) #[] r.b1) from hc0)
     have hc1 := (show wr.cell? ⟨g0, 0 + 2 * k + 1, none⟩ = some (.func (.func r.f2) #[] r.b2) from hc1)
     generalize 0 + 2 * k = gk at *
     obtain ⟨f1, l1, f2, l2⟩ := r
     dsimp only at hc0 hc1 eg1 eg2
     have HC1 := Lib.hid (show ∀ Y, Below w.heap.size w Y → Calls Tryd.prog f1 (#[.agg #[.int .i64 a.ag, .int .i64 a.sq, .int .i64 a.tm, .int .i64 a.kd, .int .i64 a.tr, .int .i64 a.sp, .int .i64 a.lk, .int .i64 a.gn, .int .i64 a.op, .int .i64 a.vr, .int .i64 a.pe, .int .i64 a.bt], .agg #[.int .i64 b.ag, .int .i64 b.sq, .int .i64 b.tm, .int .i64 b.kd, .int .i64 b.tr, .int .i64 b.sp, .int .i64 b.lk, .int .i64 b.gn, .int .i64 b.op, .int .i64 b.vr, .int .i64 b.pe, .int .i64 b.bt]] ++ l1) Y (fun e w' => e = .returned (.bool (s.ap a b)) ∧ Below Y.heap.size Y w') from fun Y b => (HCL.out Y b).1)
     have HC2 := Lib.hid (show ∀ Y, Below w.heap.size w Y → Calls Tryd.prog f2 (#[.agg #[.int .i64 a.ag, .int .i64 a.sq, .int .i64 a.tm, .int .i64 a.kd, .int .i64 a.tr, .int .i64 a.sp, .int .i64 a.lk, .int .i64 a.gn, .int .i64 a.op, .int .i64 a.vr, .int .i64 a.pe, .int .i64 a.bt], .agg #[.int .i64 b.ag, .int .i64 b.sq, .int .i64 b.tm, .int .i64 b.kd, .int .i64 b.tr, .int .i64 b.sp, .int .i64 b.lk, .int .i64 b.gn, .int .i64 b.op, .int .i64 b.vr, .int .i64 b.pe, .int .i64 b.bt]] ++ l2) Y (IvPost Y (s.lo a b) (s.hi a b)) from fun Y b => (HCL.out Y b).2)
     obtain ⟨wa, VA, ZA, KA, BA⟩ := lay8 wr [.nilFunc, .nilFunc] 116
     obtain ⟨wb, VB, KB, BB⟩ : ∃ wb, (wa.setCell ⟨wr.heap.size, 0, none⟩ (.func (.func f1) #[] l1)).setCell ⟨wr.heap.size, 1, none⟩ (.func (.func f2) #[] l2) = wb ∧ CellsAt wb wr.heap.size [.func (.func f1) #[] l1, .func (.func f2) #[] l2] ∧ Below wr.heap.size wr wb := ⟨_, rfl, (KA.put 0 _).put 1 _, (BA.setCell (Nat.le_refl _) _).setCell (Nat.le_refl _) _⟩
     obtain ⟨g0', g0''⟩ := KA 0 (by simp); obtain ⟨g1', g1''⟩ := KA 1 (by simp)
     simp only [List.getElem_cons_zero, List.getElem_cons_succ] at g0' g1'
     have HIb := Lib.hid (HI.out.upto BB)
     have HKb := Lib.hid (HKP.out.upto HI.out.size BB)
     have HYB := Lib.hid (show ∀ Y, Below wb.heap.size wb Y → Y.cell? ⟨w.heap.size, 0, none⟩ = some (.slice (some ⟨eb, eo, none⟩) l.length c) ∧ EvCells Y eb (eo + 12 * i) a ∧ EvCells Y eb (eo + 12 * j) b ∧ Y.cell? ⟨wr.heap.size, 0, none⟩ = some (.func (.func f1) #[] l1) ∧ Y.cell? ⟨wr.heap.size, 1, none⟩ = some (.func (.func f2) #[] l2) from fun Y bw => ⟨(HIb.out.upto bw).b0, CA.out Y (HIb.out.upto bw).bl, CB.out Y (HIb.out.upto bw).bl, (KB.below bw 0 (by simp)).1, (KB.below bw 1 (by simp)).1⟩)
     have y1 := HI.out.b1
     clear KA KB BA BB hgc hgl HI HKP hlt
     gi_upto_region 9 with fail
     clear VA VB g0' g0'' g1' g1'' hc0 hc1 y1 HCL
     gi_cut [47] from 83 (fun v wx => v = .bool (!(s.ap a b)) ∧ Hid (Below wb.heap.size wb wx))
     case first =>
      rename_i J2 K2 hJ2 hK2
      refine wpIn_region_roundK (C := NewC wb) [11] 11 #[false, false, false, false, false, false, false, false, false, false, false, false] (by kernel_rfl) (by kernel_rfl) (by kernel_rfl) (by kernel_rfl) (newC0 _) ?_
      intro wx hwx
      refine wpAnyK_ex (i := 0) rfl (by kernel_rfl) (listed' := #[true, false, false, false, false, false, false, false, false, false, false, false]) rfl (fun _ _ _ _ _ h => h) hwx ?_
      apply Exists.intro
      refine ⟨⟨by rfl, fun wy hw => ?_⟩, ?_⟩
      · (have bw := hw.below; obtain ⟨z0, q1, q2, z1, z2⟩ := HYB.out _ bw; obtain ⟨a00, a01, a02, a03, a04, a05, a06, a07, a08, a09, a10, a11⟩ := q1; obtain ⟨b00, b01, b02, b03, b04, b05, b06, b07, b08, b09, b10, b11⟩ := q2; go_simp; try (first | (with_reducible rfl) | (with_reducible exact ⟨rfl, rfl⟩)))
      try simp only [Act.put]
      refine wpAnyK_ex (i := 1) rfl (by kernel_rfl) (listed' := #[true, true, false, false, false, false, false, false, false, false, false, false]) rfl (fun _ _ _ _ _ h => h) hwx ?_
      apply Exists.intro
      refine ⟨⟨by rfl, fun wy hw => ?_⟩, ?_⟩
      · (have bw := hw.below; obtain ⟨z0, q1, q2, z1, z2⟩ := HYB.out _ bw; obtain ⟨a00, a01, a02, a03, a04, a05, a06, a07, a08, a09, a10, a11⟩ := q1; obtain ⟨b00, b01, b02, b03, b04, b05, b06, b07, b08, b09, b10, b11⟩ := q2; go_simp; try (first | (with_reducible rfl) | (with_reducible exact ⟨rfl, rfl⟩)))
      try simp only [Act.put]
      refine wpAnyK_ex (i := 2) rfl (by kernel_rfl) (listed' := #[true, true, true, false, false, false, false, false, false, false, false, false]) rfl (fun _ _ _ _ _ h => h) hwx ?_
      apply Exists.intro
      refine ⟨⟨by rfl, fun wy hw => ?_⟩, ?_⟩
      · (have bw := hw.below; obtain ⟨z0, q1, q2, z1, z2⟩ := HYB.out _ bw; obtain ⟨a00, a01, a02, a03, a04, a05, a06, a07, a08, a09, a10, a11⟩ := q1; obtain ⟨b00, b01, b02, b03, b04, b05, b06, b07, b08, b09, b10, b11⟩ := q2; go_simp; try (first | (with_reducible rfl) | (with_reducible exact ⟨rfl, rfl⟩)))
      try simp only [Act.put]
      refine wpAnyK_ex (i := 3) rfl (by kernel_rfl) (listed' := #[true, true, true, true, false, false, false, false, false, false, false, false]) rfl (fun _ _ _ _ _ h => h) hwx ?_
      apply Exists.intro
      refine ⟨⟨by rfl, fun wy hw => ?_⟩, ?_⟩
      · (have bw := hw.below; obtain ⟨z0, q1, q2, z1, z2⟩ := HYB.out _ bw; obtain ⟨a00, a01, a02, a03, a04, a05, a06, a07, a08, a09, a10, a11⟩ := q1; obtain ⟨b00, b01, b02, b03, b04, b05, b06, b07, b08, b09, b10, b11⟩ := q2; go_simp; try (first | (with_reducible rfl) | (with_reducible exact ⟨rfl, rfl⟩)))
      try simp only [Act.put]
      refine wpAnyK_ex (i := 4) rfl (by kernel_rfl) (listed' := #[true, true, true, true, true, false, false, false, false, false, false, false]) rfl (fun _ _ _ _ _ h => h) hwx ?_
      apply Exists.intro
      refine ⟨⟨by rfl, fun wy hw => ?_⟩, ?_⟩
      · (have bw := hw.below; obtain ⟨z0, q1, q2, z1, z2⟩ := HYB.out _ bw; obtain ⟨a00, a01, a02, a03, a04, a05, a06, a07, a08, a09, a10, a11⟩ := q1; obtain ⟨b00, b01, b02, b03, b04, b05, b06, b07, b08, b09, b10, b11⟩ := q2; go_simp; try (first | (with_reducible rfl) | (with_reducible exact ⟨rfl, rfl⟩)))
      try simp only [Act.put]
      refine wpAnyK_ex (i := 5) rfl (by kernel_rfl) (listed' := #[true, true, true, true, true, true, false, false, false, false, false, false]) rfl (fun _ _ _ _ _ h => h) hwx ?_
      apply Exists.intro
      refine ⟨⟨by rfl, fun wy hw => ?_⟩, ?_⟩
      · (have bw := hw.below; obtain ⟨z0, q1, q2, z1, z2⟩ := HYB.out _ bw; obtain ⟨a00, a01, a02, a03, a04, a05, a06, a07, a08, a09, a10, a11⟩ := q1; obtain ⟨b00, b01, b02, b03, b04, b05, b06, b07, b08, b09, b10, b11⟩ := q2; go_simp; try (first | (with_reducible rfl) | (with_reducible exact ⟨rfl, rfl⟩)))
      try simp only [Act.put]
      refine wpAnyK_ex (i := 6) rfl (by kernel_rfl) (listed' := #[true, true, true, true, true, true, true, false, false, false, false, false]) rfl (fun _ _ _ _ _ h => h) hwx ?_
      apply Exists.intro
      refine ⟨⟨by rfl, fun wy hw => ?_⟩, ?_⟩
      · (have bw := hw.below; obtain ⟨z0, q1, q2, z1, z2⟩ := HYB.out _ bw; obtain ⟨a00, a01, a02, a03, a04, a05, a06, a07, a08, a09, a10, a11⟩ := q1; obtain ⟨b00, b01, b02, b03, b04, b05, b06, b07, b08, b09, b10, b11⟩ := q2; go_simp; try (first | (with_reducible rfl) | (with_reducible exact ⟨rfl, rfl⟩)))
      try simp only [Act.put]
      refine wpAnyK_ex (i := 7) rfl (by kernel_rfl) (listed' := #[true, true, true, true, true, true, true, true, false, false, false, false]) rfl (fun _ _ _ _ _ h => h) hwx ?_
      apply Exists.intro
      refine ⟨⟨by rfl, fun wy hw => ?_⟩, ?_⟩
      · (have bw := hw.below; obtain ⟨z0, q1, q2, z1, z2⟩ := HYB.out _ bw; obtain ⟨a00, a01, a02, a03, a04, a05, a06, a07, a08, a09, a10, a11⟩ := q1; obtain ⟨b00, b01, b02, b03, b04, b05, b06, b07, b08, b09, b10, b11⟩ := q2; go_simp; try (first | (with_reducible rfl) | (with_reducible exact ⟨rfl, rfl⟩)))
      try simp only [Act.put]
      refine wpAnyK_ex (i := 8) rfl (by kernel_rfl) (listed' := #[true, true, true, true, true, true, true, true, true, false, false, false]) rfl (fun _ _ _ _ _ h => h) hwx ?_
      apply Exists.intro
      refine ⟨⟨by rfl, fun wy hw => ?_⟩, ?_⟩
      · (have bw := hw.below; obtain ⟨z0, q1, q2, z1, z2⟩ := HYB.out _ bw; obtain ⟨a00, a01, a02, a03, a04, a05, a06, a07, a08, a09, a10, a11⟩ := q1; obtain ⟨b00, b01, b02, b03, b04, b05, b06, b07, b08, b09, b10, b11⟩ := q2; go_simp; try (first | (with_reducible rfl) | (with_reducible exact ⟨rfl, rfl⟩)))
      try simp only [Act.put]
      refine wpAnyK_ex (i := 9) rfl (by kernel_rfl) (listed' := #[true, true, true, true, true, true, true, true, true, true, false, false]) rfl (fun _ _ _ _ _ h => h) hwx ?_
      apply Exists.intro
      refine ⟨⟨by rfl, fun wy hw => ?_⟩, ?_⟩
      · (have bw := hw.below; obtain ⟨z0, q1, q2, z1, z2⟩ := HYB.out _ bw; obtain ⟨a00, a01, a02, a03, a04, a05, a06, a07, a08, a09, a10, a11⟩ := q1; obtain ⟨b00, b01, b02, b03, b04, b05, b06, b07, b08, b09, b10, b11⟩ := q2; go_simp; try (first | (with_reducible rfl) | (with_reducible exact ⟨rfl, rfl⟩)))
      try simp only [Act.put]
      have HX := Lib.hid hwx.below
      refine wpAnyK_fork1 10 (by kernel_rfl) ?_
      refine wpOpK_step rfl (by kernel_rfl) (listed' := #[true, true, true, true, true, true, true, true, true, true, true, false]) rfl (by rfl) (fun K hK => ?_)
      go_simp
      refine (HC1.out _ (HIb.out.upto HX.out).bl).mono ?_
      rintro e w9 ⟨rfl, hb9⟩
      have H9 := Lib.hid (show Below wb.heap.size wb w9 from HX.out.trans (hb9.mono HX.out.size))
      refine hK _ _ H9.out ?_
      clear hK K hb9 hwx
      try simp only [Act.put]
      refine wpAnyK_end (by kernel_rfl) ?_
      try simp only [pickOps, List.filterMap_cons, List.filterMap_nil, List.getElem?_toArray, List.getElem?_cons_succ, List.getElem?_cons_zero]
      go_wp2_with fail
      refine Only.normal ?_
      refine hK2 _ _ (Met.intro (hJ2 _ _ ?_))
      (repeat apply Exists.intro)
      refine ⟨?rel, rfl⟩
      case rel => exact ⟨rfl, H9⟩
     case rest =>
     obtain ⟨rfl, H9⟩ := hcut
     generalize wc = w9 at *
     have HI9 := Lib.hid (HIb.out.upto H9.out)
     have HK9 := Lib.hid (HKb.out.upto HIb.out.size H9.out)
     cases hap : s.ap a b with
     | false =>
      have H3 := Lib.hid (show CsI w w.heap.size (.slice (some ⟨eb, eo, none⟩) l.length c) (.slice (some ⟨g0, 0, none⟩) rs.length cr) (L0 ++ conS (ss.take (k + 1)) l i j) w9 from by rw [HRW.out, hap, if_neg (by decide), List.append_nil]; exact HI9.out)
      gi_wp2
      go_roundw
      case rel => exact ⟨k + 1, HLT.out, by go_num, H3, HK9⟩
      case measure => have := HLT.out; simp [RowKit.intOf]; omega
     | true =>
      rw [hap, if_pos rfl] at HRW
      clear hap
      gi_upto_region 10 with fail
      obtain ⟨lo, hlo⟩ : ∃ q, s.lo a b = q := ⟨_, rfl⟩
      obtain ⟨hi_, hhi⟩ : ∃ q, s.hi a b = q := ⟨_, rfl⟩
      rw [hlo, hhi] at HRW HC2
      rw [hlo] at HBK
      have HC2 := HC2
      clear hlo hhi
      gi_cut [11] from 83 (fun p wx => ∃ D, p = .pointer (some ⟨D, 0, none⟩) ∧ w9.heap.size ≤ D ∧ D < wx.heap.size ∧ Hid (CellsAt wx D [.int .i64 lo, .int .i64 hi_]) ∧ Hid (Below w9.heap.size w9 wx))
      case first =>
       rename_i J2 K2 hJ2 hK2
       refine wpIn_region_roundK (C := NewC w9) [12] 12 #[false, false, false, false, false, false, false, false, false, false, false, false, false] (by kernel_rfl) (by kernel_rfl) (by kernel_rfl) (by kernel_rfl) (newC0 _) ?_
       intro wx hwx
       refine wpAnyK_ex (i := 0) rfl (by kernel_rfl) (listed' := #[true, false, false, false, false, false, false, false, false, false, false, false, false]) rfl (fun _ _ _ _ _ h => h) hwx ?_
       apply Exists.intro
       refine ⟨⟨by rfl, fun wy hw => ?_⟩, ?_⟩
       · (have bw := hw.below; obtain ⟨z0, q1, q2, z1, z2⟩ := HYB.out _ (H9.out.trans (bw.mono H9.out.size)); obtain ⟨a00, a01, a02, a03, a04, a05, a06, a07, a08, a09, a10, a11⟩ := q1; obtain ⟨b00, b01, b02, b03, b04, b05, b06, b07, b08, b09, b10, b11⟩ := q2; go_simp; try (first | (with_reducible rfl) | (with_reducible exact ⟨rfl, rfl⟩)))
       try simp only [Act.put]
       refine wpAnyK_ex (i := 1) rfl (by kernel_rfl) (listed' := #[true, true, false, false, false, false, false, false, false, false, false, false, false]) rfl (fun _ _ _ _ _ h => h) hwx ?_
       apply Exists.intro
       refine ⟨⟨by rfl, fun wy hw => ?_⟩, ?_⟩
       · (have bw := hw.below; obtain ⟨z0, q1, q2, z1, z2⟩ := HYB.out _ (H9.out.trans (bw.mono H9.out.size)); obtain ⟨a00, a01, a02, a03, a04, a05, a06, a07, a08, a09, a10, a11⟩ := q1; obtain ⟨b00, b01, b02, b03, b04, b05, b06, b07, b08, b09, b10, b11⟩ := q2; go_simp; try (first | (with_reducible rfl) | (with_reducible exact ⟨rfl, rfl⟩)))
       try simp only [Act.put]
       refine wpAnyK_ex (i := 2) rfl (by kernel_rfl) (listed' := #[true, true, true, false, false, false, false, false, false, false, false, false, false]) rfl (fun _ _ _ _ _ h => h) hwx ?_
       apply Exists.intro
       refine ⟨⟨by rfl, fun wy hw => ?_⟩, ?_⟩
       · (have bw := hw.below; obtain ⟨z0, q1, q2, z1, z2⟩ := HYB.out _ (H9.out.trans (bw.mono H9.out.size)); obtain ⟨a00, a01, a02, a03, a04, a05, a06, a07, a08, a09, a10, a11⟩ := q1; obtain ⟨b00, b01, b02, b03, b04, b05, b06, b07, b08, b09, b10, b11⟩ := q2; go_simp; try (first | (with_reducible rfl) | (with_reducible exact ⟨rfl, rfl⟩)))
       try simp only [Act.put]
       refine wpAnyK_ex (i := 3) rfl (by kernel_rfl) (listed' := #[true, true, true, true, false, false, false, false, false, false, false, false, false]) rfl (fun _ _ _ _ _ h => h) hwx ?_
       apply Exists.intro
       refine ⟨⟨by rfl, fun wy hw => ?_⟩, ?_⟩
       · (have bw := hw.below; obtain ⟨z0, q1, q2, z1, z2⟩ := HYB.out _ (H9.out.trans (bw.mono H9.out.size)); obtain ⟨a00, a01, a02, a03, a04, a05, a06, a07, a08, a09, a10, a11⟩ := q1; obtain ⟨b00, b01, b02, b03, b04, b05, b06, b07, b08, b09, b10, b11⟩ := q2; go_simp; try (first | (with_reducible rfl) | (with_reducible exact ⟨rfl, rfl⟩)))
       try simp only [Act.put]
       refine wpAnyK_ex (i := 4) rfl (by kernel_rfl) (listed' := #[true, true, true, true, true, false, false, false, false, false, false, false, false]) rfl (fun _ _ _ _ _ h => h) hwx ?_
       apply Exists.intro
       refine ⟨⟨by rfl, fun wy hw => ?_⟩, ?_⟩
       · (have bw := hw.below; obtain ⟨z0, q1, q2, z1, z2⟩ := HYB.out _ (H9.out.trans (bw.mono H9.out.size)); obtain ⟨a00, a01, a02, a03, a04, a05, a06, a07, a08, a09, a10, a11⟩ := q1; obtain ⟨b00, b01, b02, b03, b04, b05, b06, b07, b08, b09, b10, b11⟩ := q2; go_simp; try (first | (with_reducible rfl) | (with_reducible exact ⟨rfl, rfl⟩)))
       try simp only [Act.put]
       refine wpAnyK_ex (i := 5) rfl (by kernel_rfl) (listed' := #[true, true, true, true, true, true, false, false, false, false, false, false, false]) rfl (fun _ _ _ _ _ h => h) hwx ?_
       apply Exists.intro
       refine ⟨⟨by rfl, fun wy hw => ?_⟩, ?_⟩
       · (have bw := hw.below; obtain ⟨z0, q1, q2, z1, z2⟩ := HYB.out _ (H9.out.trans (bw.mono H9.out.size)); obtain ⟨a00, a01, a02, a03, a04, a05, a06, a07, a08, a09, a10, a11⟩ := q1; obtain ⟨b00, b01, b02, b03, b04, b05, b06, b07, b08, b09, b10, b11⟩ := q2; go_simp; try (first | (with_reducible rfl) | (with_reducible exact ⟨rfl, rfl⟩)))
       try simp only [Act.put]
       refine wpAnyK_ex (i := 6) rfl (by kernel_rfl) (listed' := #[true, true, true, true, true, true, true, false, false, false, false, false, false]) rfl (fun _ _ _ _ _ h => h) hwx ?_
       apply Exists.intro
       refine ⟨⟨by rfl, fun wy hw => ?_⟩, ?_⟩
       · (have bw := hw.below; obtain ⟨z0, q1, q2, z1, z2⟩ := HYB.out _ (H9.out.trans (bw.mono H9.out.size)); obtain ⟨a00, a01, a02, a03, a04, a05, a06, a07, a08, a09, a10, a11⟩ := q1; obtain ⟨b00, b01, b02, b03, b04, b05, b06, b07, b08, b09, b10, b11⟩ := q2; go_simp; try (first | (with_reducible rfl) | (with_reducible exact ⟨rfl, rfl⟩)))
       try simp only [Act.put]
       refine wpAnyK_ex (i := 7) rfl (by kernel_rfl) (listed' := #[true, true, true, true, true, true, true, true, false, false, false, false, false]) rfl (fun _ _ _ _ _ h => h) hwx ?_
       apply Exists.intro
       refine ⟨⟨by rfl, fun wy hw => ?_⟩, ?_⟩
       · (have bw := hw.below; obtain ⟨z0, q1, q2, z1, z2⟩ := HYB.out _ (H9.out.trans (bw.mono H9.out.size)); obtain ⟨a00, a01, a02, a03, a04, a05, a06, a07, a08, a09, a10, a11⟩ := q1; obtain ⟨b00, b01, b02, b03, b04, b05, b06, b07, b08, b09, b10, b11⟩ := q2; go_simp; try (first | (with_reducible rfl) | (with_reducible exact ⟨rfl, rfl⟩)))
       try simp only [Act.put]
       refine wpAnyK_ex (i := 8) rfl (by kernel_rfl) (listed' := #[true, true, true, true, true, true, true, true, true, false, false, false, false]) rfl (fun _ _ _ _ _ h => h) hwx ?_
       apply Exists.intro
       refine ⟨⟨by rfl, fun wy hw => ?_⟩, ?_⟩
       · (have bw := hw.below; obtain ⟨z0, q1, q2, z1, z2⟩ := HYB.out _ (H9.out.trans (bw.mono H9.out.size)); obtain ⟨a00, a01, a02, a03, a04, a05, a06, a07, a08, a09, a10, a11⟩ := q1; obtain ⟨b00, b01, b02, b03, b04, b05, b06, b07, b08, b09, b10, b11⟩ := q2; go_simp; try (first | (with_reducible rfl) | (with_reducible exact ⟨rfl, rfl⟩)))
       try simp only [Act.put]
       refine wpAnyK_ex (i := 9) rfl (by kernel_rfl) (listed' := #[true, true, true, true, true, true, true, true, true, true, false, false, false]) rfl (fun _ _ _ _ _ h => h) hwx ?_
       apply Exists.intro
       refine ⟨⟨by rfl, fun wy hw => ?_⟩, ?_⟩
       · (have bw := hw.below; obtain ⟨z0, q1, q2, z1, z2⟩ := HYB.out _ (H9.out.trans (bw.mono H9.out.size)); obtain ⟨a00, a01, a02, a03, a04, a05, a06, a07, a08, a09, a10, a11⟩ := q1; obtain ⟨b00, b01, b02, b03, b04, b05, b06, b07, b08, b09, b10, b11⟩ := q2; go_simp; try (first | (with_reducible rfl) | (with_reducible exact ⟨rfl, rfl⟩)))
       try simp only [Act.put]
       have HX := Lib.hid hwx.below
       clear hwx
       refine wpAnyK_fork2 10 11 (by kernel_rfl) ?_ ?_
       · skip
         refine wpOpK_step rfl (by kernel_rfl) (listed' := #[true, true, true, true, true, true, true, true, true, true, true, false, false]) rfl (by rfl) (fun K hK => ?_)
         go_simp
         refine (HC2.out _ (HI9.out.upto HX.out).bl).mono ?_
         rintro e wp ⟨rfl, hb9⟩
         have Hwp := Lib.hid (show Below w9.heap.size w9 wp from HX.out.trans (hb9.mono HX.out.size))
         refine hK _ _ Hwp.out ?_
         clear hK K
         try simp only [Act.put]
         clear hb9
         obtain ⟨wq, VQ, ZQ, KQ, BQ⟩ := lay8 wp [.int .i64 0, .int .i64 0] 118
         have VQ := (show wp.alloc (.cells #[.int .i64 0, .int .i64 0] 118) = wq from VQ)
         have HQ := Lib.hid (show Below w9.heap.size w9 wq from Hwp.out.trans (BQ.mono Hwp.out.size))
         have HDL := Lib.hid (show w9.heap.size ≤ wp.heap.size from Hwp.out.size)
         have HDS := Lib.hid (show wp.heap.size < wq.heap.size by omega)
         clear BQ
         refine wpAnyK_fork1 11 (by kernel_rfl) ?_
         refine wpOpK_step rfl (by kernel_rfl) (listed' := #[true, true, true, true, true, true, true, true, true, true, true, true, false]) rfl (by rfl) (fun K hK => ?_)
         go_simp
         refine hK _ _ (HQ.out) ?_
         clear hK K
         try simp only [Act.put]
         clear VQ
         refine wpAnyK_end (by kernel_rfl) ?_
         try simp only [pickOps, List.filterMap_cons, List.filterMap_nil, List.getElem?_toArray, List.getElem?_cons_succ, List.getElem?_cons_zero]
         obtain ⟨g0', g0''⟩ := KQ 0 (by simp); obtain ⟨g1', g1''⟩ := KQ 1 (by simp)
         simp only [List.getElem_cons_zero, List.getElem_cons_succ] at g0' g1'
         obtain ⟨wz, VZ, KZ, BZ, SZ⟩ : ∃ wz, (wq.setCell ⟨wp.heap.size, 0, none⟩ (.int .i64 lo)).setCell ⟨wp.heap.size, 1, none⟩ (.int .i64 hi_) = wz ∧ CellsAt wz wp.heap.size [.int .i64 lo, .int .i64 hi_] ∧ Below w9.heap.size w9 wz ∧ wp.heap.size < wz.heap.size :=
          ⟨_, rfl, (KQ.put 0 _).put 1 _, ((HQ.out.setCell (p := ⟨wp.heap.size, 0, none⟩) HDL.out _).setCell (p := ⟨wp.heap.size, 1, none⟩) HDL.out _), by simp; exact HDS.out⟩
         have HKZ := Lib.hid KZ; have HBZ := Lib.hid BZ
         clear KZ BZ KQ
         go_wp2_with fail
         refine Only.normal ?_
         refine hK2 _ _ (Met.intro (hJ2 _ _ ?_))
         (repeat apply Exists.intro)
         refine ⟨?rel, rfl⟩
         case rel => exact ⟨_, rfl, HDL.out, SZ, HKZ, HBZ⟩
       · skip
         obtain ⟨wq, VQ, ZQ, KQ, BQ⟩ := lay8 wx [.int .i64 0, .int .i64 0] 118
         have VQ := (show wx.alloc (.cells #[.int .i64 0, .int .i64 0] 118) = wq from VQ)
         have HQ := Lib.hid (show Below w9.heap.size w9 wq from HX.out.trans (BQ.mono HX.out.size))
         have HDL := Lib.hid (show w9.heap.size ≤ wx.heap.size from HX.out.size)
         clear BQ
         refine wpOpK_step rfl (by kernel_rfl) (listed' := #[true, true, true, true, true, true, true, true, true, true, false, true, false]) rfl (by rfl) (fun K hK => ?_)
         go_simp
         refine hK _ _ (HQ.out) ?_
         clear hK K
         try simp only [Act.put]
         clear VQ
         refine wpAnyK_fork1 10 (by kernel_rfl) ?_
         refine wpOpK_step rfl (by kernel_rfl) (listed' := #[true, true, true, true, true, true, true, true, true, true, true, true, false]) rfl (by rfl) (fun K hK => ?_)
         go_simp
         refine (HC2.out _ (HI9.out.upto HQ.out).bl).mono ?_
         rintro e wp ⟨rfl, hb9⟩
         have Hwp := Lib.hid (show Below w9.heap.size w9 wp from HQ.out.trans (hb9.mono HQ.out.size))
         refine hK _ _ Hwp.out ?_
         clear hK K
         try simp only [Act.put]
         have KP := KQ.below hb9
         have HDS := Lib.hid (show wx.heap.size < wp.heap.size by have := hb9.size; omega)
         clear hb9 KQ
         refine wpAnyK_end (by kernel_rfl) ?_
         try simp only [pickOps, List.filterMap_cons, List.filterMap_nil, List.getElem?_toArray, List.getElem?_cons_succ, List.getElem?_cons_zero]
         obtain ⟨g0', g0''⟩ := KP 0 (by simp); obtain ⟨g1', g1''⟩ := KP 1 (by simp)
         simp only [List.getElem_cons_zero, List.getElem_cons_succ] at g0' g1'
         obtain ⟨wz, VZ, KZ, BZ, SZ⟩ : ∃ wz, (wp.setCell ⟨wx.heap.size, 0, none⟩ (.int .i64 lo)).setCell ⟨wx.heap.size, 1, none⟩ (.int .i64 hi_) = wz ∧ CellsAt wz wx.heap.size [.int .i64 lo, .int .i64 hi_] ∧ Below w9.heap.size w9 wz ∧ wx.heap.size < wz.heap.size :=
          ⟨_, rfl, (KP.put 0 _).put 1 _, ((Hwp.out.setCell (p := ⟨wx.heap.size, 0, none⟩) HDL.out _).setCell (p := ⟨wx.heap.size, 1, none⟩) HDL.out _), by simp; exact HDS.out⟩
         have HKZ := Lib.hid KZ; have HBZ := Lib.hid BZ
         clear KZ BZ KP
         go_wp2_with fail
         refine Only.normal ?_
         refine hK2 _ _ (Met.intro (hJ2 _ _ ?_))
         (repeat apply Exists.intro)
         refine ⟨?rel, rfl⟩
         case rel => exact ⟨_, rfl, HDL.out, SZ, HKZ, HBZ⟩
      case rest =>
       obtain ⟨D, rfl, hD1, hD2, HDC, H10⟩ := hcut
       generalize wc = wd at *
       have HKd := Lib.hid (HK9.out.upto HI9.out.size H10.out)
       have HId := Lib.hid (HI9.out.upto H10.out)
       have hneg : IntKind.i64.wrap (-lo) = -lo := neg8 HBK.out.1 HBK.out.2
       have hnegw : wrap64 (-lo) = -lo := by have := HBK.out; unfold wrap64; omega
       obtain ⟨v, r1, r2, r3⟩ := HI9.out.row
       have HVD := Lib.hid (show some D ≠ v.ownBlock from fun e => by have := (r3.ge _ e.symm).2; omega)
       have r1 := (H10.out.cell (p := ⟨w.heap.size + 2, 0, none⟩) (by have := HI9.out.size; show _ + 2 < _; omega)).trans r1
       have r2 := (H10.out.frozen (p := ⟨w.heap.size + 2, 0, none⟩) (by have := HI9.out.size; show _ + 2 < _; omega)).trans r2
       have HOd := Lib.hid (r3.below H10.out (Nat.le_refl _))
       clear r3
       gi_upto_region 11 with fail
       have d0 := (HDC.out 0 (by simp)).1
       simp only [List.getElem_cons_zero] at d0
       obtain ⟨we1, VE1, ZE1, KE1, BE1⟩ := lay8 wd [.int .i64 (j : Int), .int .i64 (i : Int), .int .i64 (-lo), .int .i64 MM] 64
       have VE1 := (show wd.alloc (.cells #[.int .i64 (j : Int), .int .i64 (i : Int), .int .i64 (-lo), .int .i64 MM] 64) = we1 from VE1)
       have KE1 := (show CellsAt we1 wd.heap.size (KC.cs (⟨(j : Int), (i : Int), -lo, MM⟩ : C4)) from KE1)
       have HOE1 := Lib.hid (show Own KC we1 (w.heap.size + 6) v (L0 ++ conS (ss.take k) l i j) from HOd.out.below BE1 (Nat.le_refl _))
       have hsz1 : w.heap.size + 6 ≤ we1.heap.size := by have := HId.out.size; omega
       have HDE1 := Lib.hid (HDC.out.below BE1)
       have c2 := (BE1.cell (p := ⟨w.heap.size + 2, 0, none⟩) (by have := HId.out.size; show _ + 2 < _; omega)).trans r1
       have f2 := (BE1.frozen (p := ⟨w.heap.size + 2, 0, none⟩) (by have := HId.out.size; show _ + 2 < _; omega)).trans r2
       have HC2' := Lib.hid c2; have HF2' := Lib.hid f2
       have HBE1 := Lib.hid BE1
       have hln : (L0 ++ conS (ss.take k) l i j).length + 1 ≤ 100000000 := by rw [List.length_append]; have h1 := HCU.out; have h2 := HSL.out k; omega
       clear BE1 c2 f2
       refine wpIn_region_roundL (by kernel_rfl) ?_
       go_wp2_with (first | (at_builtin; refine walk_push8 KC (w0 := we1) rfl _ _ rfl (w.heap.size + 6) v (L0 ++ conS (ss.take k) l i j) (⟨(j : Int), (i : Int), -lo, MM⟩ : C4) rfl HOE1.out (Below.refl _ _) hsz1 wd.heap.size 1 rfl KE1 hln ?_; intro v' w' hown hbl hgr hbk; obtain ⟨ad', cp', hv9, _⟩ := hown.form; generalize (L0 ++ conS (ss.take k) l i j ++ [(⟨(j : Int), (i : Int), -lo, MM⟩ : C4)]).length = nl at hv9; subst hv9; have c2 := (hbl.cell (p := ⟨w.heap.size + 2, 0, none⟩) (by show _ + 2 < _ + 6; omega)).trans HC2'.out; have f2 := (hbl.frozen (p := ⟨w.heap.size + 2, 0, none⟩) (by show _ + 2 < _ + 6; omega)).trans HF2'.out; obtain ⟨wf1, VF1, HIf1, HKf1, HDf1⟩ : ∃ wf, w'.setCell ⟨w.heap.size + 2, 0, none⟩ (.slice ad' nl cp') = wf ∧ Hid (CsI w w.heap.size (.slice (some ⟨eb, eo, none⟩) l.length c) (.slice (some ⟨g0, 0, none⟩) rs.length cr) (L0 ++ conS (ss.take k) l i j ++ [(⟨(j : Int), (i : Int), -lo, MM⟩ : C4)]) wf) ∧ Hid (KpB w.heap.size W wf) ∧ Hid (CellsAt wf D [.int .i64 lo, .int .i64 hi_]) := ⟨_, rfl, Lib.hid (HId.out.push rfl HBE1.out hown hbl), Lib.hid (HKd.out.push HId.out.size HBE1.out hbl), Lib.hid ((CellsAt.grown HDE1.out hgr HVD.out).far (by have := HI9.out.size; omega))⟩; clear hown hbl hgr hbk))
       refine Only.normal ?_
       clear c2 f2 VE1 VF1 r1 r2
       clear d0
       have d1 := (HDf1.out 1 (by simp)).1
       simp only [List.getElem_cons_zero, List.getElem_cons_succ] at d1
       by_cases hnb : hi_ = nB
       · have HRE := Lib.hid (show L0 ++ conS (ss.take k) l i j ++ [(⟨(j : Int), (i : Int), -lo, MM⟩ : C4)] = L0 ++ conS (ss.take (k + 1)) l i j from by rw [HRW.out, if_pos hnb, List.append_assoc])
         rw [HRE.out] at HIf1
         have hq : (hi_ == 1152921504606846976) = true := beq_iff_eq.2 hnb
         have hq2 : hi_ = 1152921504606846976 := hnb
         subst hq2
         clear hnb hq
         gi_wp2
         go_roundw
         case rel => exact ⟨k + 1, HLT.out, by go_num, HIf1, HKf1⟩
         case measure => have := HLT.out; simp [RowKit.intOf]; omega
       · have HRE := Lib.hid (show L0 ++ conS (ss.take k) l i j ++ [(⟨(j : Int), (i : Int), -lo, MM⟩ : C4)] ++ [(⟨(i : Int), (j : Int), hi_, MM⟩ : C4)] = L0 ++ conS (ss.take (k + 1)) l i j from by rw [HRW.out, if_neg hnb, List.append_assoc, List.append_assoc]; rfl)
         have hq : (hi_ == 1152921504606846976) = false := beq_eq_false_iff_ne.2 hnb
         have hq2 : ¬ hi_ = 1152921504606846976 := hnb
         clear hnb
         obtain ⟨v, r1, r2, r3⟩ := HIf1.out.row
         have HO2 := Lib.hid r3
         clear r3
         gi_upto_region 13 with fail
         clear hq hq2
         obtain ⟨we2, VE2, ZE2, KE2, BE2⟩ := lay8 wf1 [.int .i64 (i : Int), .int .i64 (j : Int), .int .i64 hi_, .int .i64 MM] 64
         have VE2 := (show wf1.alloc (.cells #[.int .i64 (i : Int), .int .i64 (j : Int), .int .i64 hi_, .int .i64 MM] 64) = we2 from VE2)
         have KE2 := (show CellsAt we2 wf1.heap.size (KC.cs (⟨(i : Int), (j : Int), hi_, MM⟩ : C4)) from KE2)
         have HOE2 := Lib.hid (show Own KC we2 (w.heap.size + 6) v (L0 ++ conS (ss.take k) l i j ++ [(⟨(j : Int), (i : Int), -lo, MM⟩ : C4)]) from HO2.out.below BE2 (Nat.le_refl _))
         have hsz2 : w.heap.size + 6 ≤ we2.heap.size := by have := HIf1.out.size; omega
         have HDE2 := Lib.hid (HDf1.out.below BE2)
         have c2 := (BE2.cell (p := ⟨w.heap.size + 2, 0, none⟩) (by have := HIf1.out.size; show _ + 2 < _; omega)).trans r1
         have f2 := (BE2.frozen (p := ⟨w.heap.size + 2, 0, none⟩) (by have := HIf1.out.size; show _ + 2 < _; omega)).trans r2
         have HC2' := Lib.hid c2; have HF2' := Lib.hid f2
         have HBE2 := Lib.hid BE2
         have hln : (L0 ++ conS (ss.take k) l i j ++ [(⟨(j : Int), (i : Int), -lo, MM⟩ : C4)]).length + 1 ≤ 100000000 := by rw [List.length_append, List.length_append]; have h1 := HCU.out; have h2 := HSL.out k; simp; omega
         clear BE2 c2 f2
         refine wpIn_region_roundL (by kernel_rfl) ?_
         go_wp2_with (first | (at_builtin; refine walk_push8 KC (w0 := we2) rfl _ _ rfl (w.heap.size + 6) v (L0 ++ conS (ss.take k) l i j ++ [(⟨(j : Int), (i : Int), -lo, MM⟩ : C4)]) (⟨(i : Int), (j : Int), hi_, MM⟩ : C4) rfl HOE2.out (Below.refl _ _) hsz2 wf1.heap.size 1 rfl KE2 hln ?_; intro v' w' hown hbl hgr hbk; obtain ⟨ad', cp', hv9, _⟩ := hown.form; generalize (L0 ++ conS (ss.take k) l i j ++ [(⟨(j : Int), (i : Int), -lo, MM⟩ : C4)] ++ [(⟨(i : Int), (j : Int), hi_, MM⟩ : C4)]).length = nl at hv9; subst hv9; have c2 := (hbl.cell (p := ⟨w.heap.size + 2, 0, none⟩) (by show _ + 2 < _ + 6; omega)).trans HC2'.out; have f2 := (hbl.frozen (p := ⟨w.heap.size + 2, 0, none⟩) (by show _ + 2 < _ + 6; omega)).trans HF2'.out; obtain ⟨wf2, VF2, HIf2, HKf2⟩ : ∃ wf, w'.setCell ⟨w.heap.size + 2, 0, none⟩ (.slice ad' nl cp') = wf ∧ Hid (CsI w w.heap.size (.slice (some ⟨eb, eo, none⟩) l.length c) (.slice (some ⟨g0, 0, none⟩) rs.length cr) (L0 ++ conS (ss.take k) l i j ++ [(⟨(j : Int), (i : Int), -lo, MM⟩ : C4)] ++ [(⟨(i : Int), (j : Int), hi_, MM⟩ : C4)]) wf) ∧ Hid (KpB w.heap.size W wf) := ⟨_, rfl, Lib.hid (HIf1.out.push rfl HBE2.out hown hbl), Lib.hid (HKf1.out.push HIf1.out.size HBE2.out hbl)⟩; clear hown hbl hgr hbk))
         refine Only.normal ?_
         clear c2 f2 VE2 VF2 r1 r2
         rw [HRE.out] at HIf2
         gi_wp2
         go_roundw
         case rel => exact ⟨k + 1, HLT.out, by go_num, HIf2, HKf2⟩
         case measure => have := HLT.out; simp [RowKit.intOf]; omega
   · have hke : k = rs.length := by omega
     have H3 := Lib.hid (show CsI w w.heap.size (.slice (some ⟨eb, eo, none⟩) l.length c) (.slice (some ⟨g0, 0, none⟩) rs.length cr) (conU ss l (pre ++ [(i, j)])) wr from by rw [HSN.out]; have h := HI.out; rw [show ss.take k = ss from by rw [hke, HRL.out, List.take_length]] at h; exact h)
     have hki : ¬ (k : Int) < (rs.length : Int) := by omega
     clear hke hlt
     gi_wp2
     exact ⟨⟨HKP.out _ (by omega) (by omega), HKP.out _ (by omega) (by omega), HKP.out _ (by omega) (by omega)⟩, H3.out⟩
 case done =>
  intro W hI hD
  have hsz := hI.size
  obtain ⟨v, r1, r2, r3⟩ := hI.row
  obtain ⟨ad', c', rfl, hc, hn⟩ := r3.rn
  have HP := Lib.hid (show ConsPost w (conW ss l) (.returned (.slice ad' (conU ss l (pairK l.length l.length)).length c')) (W.putObj w4.heap.size (.deferred none)) from
   ⟨ad', c', rfl, hc, (hn.grown (grownBy_putObj' W _ _) (by omega)).base (by omega), hI.bl.trans (belowK_b (w := w) (Nat.le_refl _) W _ _ _ (by omega) hD rfl rfl)⟩)
  have HD := Lib.hid hD
  clear hI r2 r3 hn hc hD
  gi_wp2
  refine ⟨by simp, .inl ⟨_, _, rfl, run_takeDeferred HD.out, ?_⟩⟩
  exact ⟨_, by simp [results, Tryd.f44, go_sem], HP.out⟩
end Go.Proofs.YtamefmojocegkaaDoor

namespace Go.Proofs.YtamefmojocegkaaDoor
open Go Go.Proofs Go.RowKit Go.Lib
theorem cons_bd {f : Fl} (hf : flB f = true) : ∀ s ∈ rlS f, ∀ a b, Good f a → Good f b → -1152921504606846976 ≤ s.lo a b ∧ s.lo a b ≤ 1152921504606846976 := by
 intro s hs a b ha hb
 obtain ⟨_, _, ⟨l0, l1⟩, _⟩ := flB_of hf
 obtain ⟨⟨a0, _⟩, _, ⟨t0, t1⟩, _⟩ := evB_of ha.1
 obtain ⟨_, _, ⟨s0, s1⟩, _⟩ := evB_of hb.1
 obtain ⟨r0, r1⟩ := drOf_bd hf a0 ha.2
 simp only [rlS, List.mem_cons, List.not_mem_nil, or_false] at hs
 rcases hs with rfl | rfl | rfl | rfl
 · obtain ⟨p0, p1⟩ := prod_bd8 (a := (b.tm - a.tm) - 1) (b := 1000000 - f.drOf a.ag) (by omega) (by omega) (by omega) (by omega)
   show _ ≤ low8 (f.drOf a.ag) (b.tm - a.tm) ∧ low8 (f.drOf a.ag) (b.tm - a.tm) ≤ _
   unfold low8
   split <;> omega
 · exact ⟨by show _ ≤ f.lat; omega, by show f.lat ≤ _; omega⟩
 · exact ⟨(show (-1152921504606846976 : Int) ≤ 0 by decide), (show (0 : Int) ≤ 1152921504606846976 by decide)⟩
 · exact ⟨(show (-1152921504606846976 : Int) ≤ 0 by decide), (show (0 : Int) ≤ 1152921504606846976 by decide)⟩
theorem conW_le (ss : List RSem) (l : List Ev) (hs : ss.length ≤ 8) (hl : l.length ≤ 24) : (conW ss l).length ≤ maxLen := by
 have h1 := conU_le ss l hs (pairK l.length l.length)
 have h2 := pairK_le l.length l.length
 have h3 : l.length * l.length ≤ 24 * 24 := Nat.mul_le_mul hl hl
 unfold conW maxLen
 omega
theorem constraints_u {f : Fl} {l : List Ev} (h : evsB f l = true) (ss : List RSem) (hss : ∀ s ∈ ss, s ∈ rlS f) (hs8 : ss.length ≤ 8) (rs : List Rl) (g cr : Nat) (ad : Option Addr) (c : Nat) (w : World) (hI : RL KE w ad l) (hR : RL KR w (some ⟨g, 0, none⟩) rs) (hK : RlsOk w (Good f) rs ss) :
 Calls Tryd.prog 44 #[.slice ad l.length c, .slice (some ⟨g, 0, none⟩) rs.length cr] w (ConsPost w (conW ss l)) := by
 have he := of_evsB h
 exact callsIn_wide.1 (constraints_in ss (Good f) rs g cr ad c l w he.2.1 hs8 hI hR hK (fun i hi => ev_good he hi) (fun e h => good_ag h) (fun s hs a b ha hb => cons_bd he.1 s (hss s hs) a b ha hb))
theorem consP_u (v : Value) (f : Fl) (ad : Option Addr) (c : Nat) (l : List Ev) (w : World) (hfit : f.fit) (hl : l.length ≤ maxLen) (hw : evsW l) (hR : Rdy w) (hf : FlAt w v f) (hI : RL KE w ad l) :
 Calls Tryd.prog 16 #[v, .slice ad l.length c] w (ConPost w (conL f l) (conE f l)) := by
 have HFA := Lib.hid (fun W (b : Below w.heap.size w W) => hf.below b)
 have HIA := Lib.hid (fun W (b : Below w.heap.size w W) => hI.below b)
 have HRD := Lib.hid (fun W (b : Below w.heap.size w W) => hR.below b)
 obtain ⟨x1, c1, x2, c3, x3, c4, rfl, _, _, _⟩ := hf
 have CE := Lib.hid (fun W h1 h2 h3 => events_u (.agg #[.slice x1 f.dr.length c1, .int .i64 f.lat, .int .i64 f.lia, .slice x2 f.sv.length c3, .slice x3 f.tm.length c4]) f ad c l hfit hl hw W h1 h2 h3)
 have CR := Lib.hid (fun W h1 h2 => rules_u (.agg #[.slice x1 f.dr.length c1, .int .i64 f.lat, .int .i64 f.lia, .slice x2 f.sv.length c3, .slice x3 f.tm.length c4]) f W h1 h2)
 obtain ⟨w1, V1, Z1, K1, B1⟩ := lay8 w [.slice x1 f.dr.length c1, .int .i64 f.lat, .int .i64 f.lia, .slice x2 f.sv.length c3, .slice x3 f.tm.length c4] 24
 have HB1 := Lib.hid B1
 have HKX := Lib.hid (show ∀ W, Below w1.heap.size w1 W → W.cell? ⟨w.heap.size, 0, none⟩ = some (.slice x1 f.dr.length c1) ∧ W.cell? ⟨w.heap.size, 1, none⟩ = some (.int .i64 f.lat) ∧ W.cell? ⟨w.heap.size, 2, none⟩ = some (.int .i64 f.lia) ∧ W.cell? ⟨w.heap.size, 3, none⟩ = some (.slice x2 f.sv.length c3) ∧ W.cell? ⟨w.heap.size, 4, none⟩ = some (.slice x3 f.tm.length c4) from fun W b => ⟨(K1.below b 0 (by simp)).1, (K1.below b 1 (by simp)).1, (K1.below b 2 (by simp)).1, (K1.below b 3 (by simp)).1, (K1.below b 4 (by simp)).1⟩)
 obtain ⟨y0, y1, y2, y3, y4⟩ := HKX.out w1 (Below.refl _ _)
 clear hI hR K1 B1 hw hl hfit
 cases he : evsB f l with
 | false =>
  have HP := Lib.hid (show ∀ W, Below w.heap.size w W → ConPost w (conL f l) (conE f l) (.returned (.tuple #[.slice none 0 0, .int .i64 80])) W from fun W b => by
   unfold conL conE
   rw [he, if_neg (by decide), if_neg (by decide)]
   exact ⟨none, 0, rfl, Nat.le_refl _, .inl rfl, b⟩)
  rw [he] at CE
  clear he
  go_enter Tryd.func16, Tryd.ntmps16
  go_wp2_with fail
  refine (CE.out _ (HRD.out _ HB1.out) (HFA.out _ HB1.out) (HIA.out _ HB1.out)).mono ?_
  rintro e w2 ⟨rfl, hb⟩
  have HB2 := Lib.hid (HB1.out.trans (hb.mono HB1.out.size))
  clear hb y0 y1 y2 y3 y4
  go_wp2_with fail
  go_ret2
  exact HP.out _ HB2.out
 | true =>
  have HC := Lib.hid (fun rs g cr W h1 h2 h3 => constraints_u he (rlS f) (fun s hs => hs) (show (4 : Nat) ≤ 8 by decide) rs g cr ad c W h1 h2 h3)
  have HP := Lib.hid (show ∀ W W' ad' c', Below w.heap.size w W → (conW (rlS f) l).length ≤ c' → RN KC W' W.heap.size ad' (conW (rlS f) l) → Below W.heap.size W W' → ConPost w (conL f l) (conE f l) (.returned (.tuple #[.slice ad' (conW (rlS f) l).length c', .int .i64 0])) W' from fun W W' ad' c' b h1 h2 b2 => by
   unfold conL conE
   rw [he, if_pos rfl, if_pos rfl, ← conW_eq he]
   exact ⟨ad', c', rfl, h1, h2.base b.size, b.trans (b2.mono b.size)⟩)
  have HFL := Lib.hid (of_evsB he).1
  rw [he] at CE
  clear he
  generalize conW (rlS f) l = CL at *
  go_enter Tryd.func16, Tryd.ntmps16
  go_wp2_with fail
  refine (CE.out _ (HRD.out _ HB1.out) (HFA.out _ HB1.out) (HIA.out _ HB1.out)).mono ?_
  rintro e w2 ⟨rfl, hb⟩
  have HU2 := Lib.hid (show Below w1.heap.size w1 w2 from hb)
  have HB2 := Lib.hid (HB1.out.trans (hb.mono HB1.out.size))
  clear hb y0 y1 y2 y3 y4 V1
  obtain ⟨y0, y1, y2, y3, y4⟩ := HKX.out w2 HU2.out
  go_wp2_with fail
  refine (CR.out _ (HFA.out _ HB2.out) HFL.out).mono ?_
  rintro e w3 ⟨g, rs, rfl, hr, hk, hb⟩
  have HB3 := Lib.hid (HB2.out.trans (hb.mono HB2.out.size))
  have h4 : rs.length = 4 := hk.1
  have HC4 := Lib.hid (by have := HC.out rs g 4 w3 (HIA.out _ HB3.out) hr hk; rw [h4] at this; exact this)
  clear hb hr hk h4 y0 y1 y2 y3 y4
  go_wp2_with fail
  refine (HC4.out).mono ?_
  rintro e w4 ⟨ad', c', rfl, hc, hn, hb⟩
  have HQ := Lib.hid (HP.out w3 w4 ad' c' HB3.out hc hn hb)
  clear hc hn hb
  go_wp2_with fail
  go_ret2
  exact HQ.out
theorem agreesP_u (v : Value) (f : Fl) (ad ad2 : Option Addr) (c c2 : Nat) (l : List Ev) (x : List Int) (m : Int) (w : World) (hfit : f.fit) (hl : l.length ≤ maxLen) (hx : x.length ≤ maxLen) (hw : evsW l) (hR : Rdy w) (hf : FlAt w v f) (hI : RL KE w ad l) (hJ : RL KI w ad2 x) :
 Calls Tryd.prog 21 #[v, .slice ad l.length c, .slice ad2 x.length c2, .int .i64 m] w fun e w' => e = .returned (.bool (agB f l x m)) ∧ Below w.heap.size w w' := by
 have HFA := Lib.hid (fun W (b : Below w.heap.size w W) => hf.below b)
 have HIA := Lib.hid (fun W (b : Below w.heap.size w W) => hI.below b)
 have HJA := Lib.hid (fun W (b : Below w.heap.size w W) => hJ.below b)
 have HRD := Lib.hid (fun W (b : Below w.heap.size w W) => hR.below b)
 have HHX := Lib.hid hx
 obtain ⟨x1, c1, x2, c3, x3, c4, rfl, _, _, _⟩ := hf
 have CE := Lib.hid (fun W h1 h2 h3 => events_u (.agg #[.slice x1 f.dr.length c1, .int .i64 f.lat, .int .i64 f.lia, .slice x2 f.sv.length c3, .slice x3 f.tm.length c4]) f ad c l hfit hl hw W h1 h2 h3)
 have CT := Lib.hid (fun W h => areTimes_u ad l.length c x ad2 c2 W hx h)
 have CR := Lib.hid (fun W h1 h2 => rules_u (.agg #[.slice x1 f.dr.length c1, .int .i64 f.lat, .int .i64 f.lia, .slice x2 f.sv.length c3, .slice x3 f.tm.length c4]) f W h1 h2)
 obtain ⟨w1, V1, Z1, K1, B1⟩ := lay8 w [.slice x1 f.dr.length c1, .int .i64 f.lat, .int .i64 f.lia, .slice x2 f.sv.length c3, .slice x3 f.tm.length c4] 24
 have HB1 := Lib.hid B1
 have HKX := Lib.hid (show ∀ W, Below w1.heap.size w1 W → W.cell? ⟨w.heap.size, 0, none⟩ = some (.slice x1 f.dr.length c1) ∧ W.cell? ⟨w.heap.size, 1, none⟩ = some (.int .i64 f.lat) ∧ W.cell? ⟨w.heap.size, 2, none⟩ = some (.int .i64 f.lia) ∧ W.cell? ⟨w.heap.size, 3, none⟩ = some (.slice x2 f.sv.length c3) ∧ W.cell? ⟨w.heap.size, 4, none⟩ = some (.slice x3 f.tm.length c4) from fun W b => ⟨(K1.below b 0 (by simp)).1, (K1.below b 1 (by simp)).1, (K1.below b 2 (by simp)).1, (K1.below b 3 (by simp)).1, (K1.below b 4 (by simp)).1⟩)
 obtain ⟨y0, y1, y2, y3, y4⟩ := HKX.out w1 (Below.refl _ _)
 obtain ⟨R, hRR⟩ : ∃ R, agB f l x m = R := ⟨_, rfl⟩
 rw [hRR]
 have HNO := Lib.hid (fun h : ¬ AgOk f l x m => show R = false by rw [← hRR]; exact agB_no h)
 have HEQ := Lib.hid (fun h : evsB f l = true => show R = (timesB l.length x && !((conW (rlS f) l).any (brkB m x))) by rw [← hRR]; exact agB_eq h x m)
 clear hI hJ hR K1 B1 hw hfit hx hRR
 cases he : evsB f l with
 | false =>
  have HF := Lib.hid (HNO.out (fun h => by rw [h.1] at he; cases he))
  rw [he] at CE
  clear he HNO HEQ
  go_enter Tryd.func21, Tryd.ntmps21
  go_wp2_with (first | (go_at_call 18; refine (CE.out _ (HRD.out _ HB1.out) (HFA.out _ HB1.out) (HIA.out _ HB1.out)).mono ?_; rintro e w2 ⟨rfl, hb⟩; have HB2 := Lib.hid (HB1.out.trans (hb.mono HB1.out.size)); clear hb))
  go_ret
  exact ⟨by rw [HF.out]; rfl, HB2.out⟩
 | true =>
  cases ht : timesB l.length x with
  | false =>
   have HF := Lib.hid (show R = false by rw [HEQ.out he, ht]; rfl)
   rw [he] at CE
   rw [ht] at CT
   clear he ht HNO HEQ
   go_enter Tryd.func21, Tryd.ntmps21
   go_wp2_with (first | (go_at_call 18; refine (CE.out _ (HRD.out _ HB1.out) (HFA.out _ HB1.out) (HIA.out _ HB1.out)).mono ?_; rintro e w2 ⟨rfl, hb⟩; have HB2 := Lib.hid (HB1.out.trans (hb.mono HB1.out.size)); clear hb) | (go_at_call 50; refine (CT.out _ (HJA.out _ HB2.out)).mono ?_; rintro e w3 ⟨rfl, hb⟩; have HB3 := Lib.hid (HB2.out.trans (hb.mono HB2.out.size)); clear hb))
   go_ret
   exact ⟨by rw [HF.out]; rfl, HB3.out⟩
  | true =>
   have HF := Lib.hid (show R = !((conW (rlS f) l).any (brkB m x)) by rw [HEQ.out he, ht]; rfl)
   have HC := Lib.hid (fun rs g cr W h1 h2 h3 => constraints_u he (rlS f) (fun s hs => hs) (show (4 : Nat) ≤ 8 by decide) rs g cr ad c W h1 h2 h3)
   have HFL := Lib.hid (of_evsB he).1
   have HXL := (timesB_of ht).2
   have HAG := Lib.hid (fun ad' c' W h1 h2 => agree_u (conW (rlS f) l) ad' c' x ad2 c2 m W (conW_le _ _ (show (4 : Nat) ≤ 8 by decide) (of_evsB he).2.1) h1 h2 (fun y hy => by rw [HXL]; exact con_okx he y hy) (timesB_of ht).1)
   clear HXL
   rw [he] at CE
   rw [ht] at CT
   clear he ht HNO HEQ
   generalize conW (rlS f) l = CL at *
   generalize (CL.any (brkB m x)) = Q at *
   go_enter Tryd.func21, Tryd.ntmps21
   go_wp2_with (first | (go_at_call 18; refine (CE.out _ (HRD.out _ HB1.out) (HFA.out _ HB1.out) (HIA.out _ HB1.out)).mono ?_; rintro e w2 ⟨rfl, hb⟩; have HU2 := Lib.hid (show Below w1.heap.size w1 w2 from hb); have HB2 := Lib.hid (HB1.out.trans (hb.mono HB1.out.size)); clear hb y0 y1 y2 y3 y4) | (go_at_call 50; refine (CT.out _ (HJA.out _ HB2.out)).mono ?_; rintro e w3 ⟨rfl, hb⟩; have HU3 := Lib.hid (show Below w1.heap.size w1 w3 from HU2.out.trans (hb.mono HU2.out.size)); have HB3 := Lib.hid (HB2.out.trans (hb.mono HB2.out.size)); clear hb; obtain ⟨y0, y1, y2, y3, y4⟩ := HKX.out w3 HU3.out) | (go_at_call 45; refine (CR.out _ (HFA.out _ HB3.out) HFL.out).mono ?_; rintro e w4 ⟨g, rs, rfl, hr, hk, hb⟩; have HB4 := Lib.hid (HB3.out.trans (hb.mono HB3.out.size)); have h4 : rs.length = 4 := hk.1; have HC4 := Lib.hid (by have := HC.out rs g 4 w4 (HIA.out _ HB4.out) hr hk; rw [h4] at this; exact this); clear hb hr hk h4) | (go_at_call 44; refine (HC4.out).mono ?_; rintro e w5 ⟨ad', c', rfl, hc, hn, hb⟩; have HB5 := Lib.hid (HB4.out.trans (hb.mono HB4.out.size)); have HG := Lib.hid (HAG.out ad' c' w5 hn.rl (HJA.out _ HB5.out)); clear hc hn hb) | (go_at_call 51; refine (HG.out).mono ?_; rintro e w6 ⟨rfl, hb⟩; have HB6 := Lib.hid (HB5.out.trans (hb.mono HB5.out.size)); clear hb))
   go_ret
   exact ⟨by rw [HF.out]; rfl, HB6.out⟩
end Go.Proofs.YtamefmojocegkaaDoor

namespace Go.Proofs.YtamefmojocegkaaDoor
open Go Go.Proofs Go.RowKit Go.Lib
def fdK (l : List Ev) (x : List Int) (a : Int) (k : Nat) : List An := ((List.range k).filter fun i => (evD l i).ag == a).map fun i => ⟨(evD l i).tm + 1, xD x i + 1⟩
theorem fdK_step (l : List Ev) (x : List Int) (a : Int) (k : Nat) : fdK l x a (k + 1) = fdK l x a k ++ if (evD l k).ag = a then [⟨(evD l k).tm + 1, xD x k + 1⟩] else [] := by
 unfold fdK
 rw [List.range_succ, List.filter_append, List.map_append]
 congr 1
 by_cases h : (evD l k).ag = a
 · simp [h]
 · simp [h]
theorem fdK_all (l : List Ev) (x : List Int) (a : Int) : fdK l x a l.length = fdAn l x a := rfl
theorem fdK_le (l : List Ev) (x : List Int) (a : Int) (k : Nat) : (fdK l x a k).length ≤ k := by
 unfold fdK
 rw [List.length_map]
 exact Nat.le_trans (List.length_filter_le _ _) (by rw [List.length_range]; exact Nat.le_refl _)
theorem bel_pow {a g : Int} (a0 : 0 ≤ a) (a1 : a ≤ 5) (g0 : 0 ≤ g) (g1 : g ≤ 5) : belB ((2 : Int) ^ a.toNat) g = decide (g = a) := by
 have ha : a = 0 ∨ a = 1 ∨ a = 2 ∨ a = 3 ∨ a = 4 ∨ a = 5 := by omega
 have hg : g = 0 ∨ g = 1 ∨ g = 2 ∨ g = 3 ∨ g = 4 ∨ g = 5 := by omega
 rcases ha with rfl | rfl | rfl | rfl | rfl | rfl <;> rcases hg with rfl | rfl | rfl | rfl | rfl | rfl <;> decide
theorem rowC0_eq {f : Fl} {l : List Ev} (h : EvsOk f l) {i j : Nat} (hi : i < l.length) (hj : j < l.length) (hij : i ≠ j) : rowC (s0S f) l i j = conA f l i j := by
 have ga := ev_good h hi
 have gb := ev_good h hj
 obtain ⟨⟨a0, a1⟩, _, ⟨t0, t1⟩, _⟩ := evB_of ga.1
 obtain ⟨_, _, ⟨s0, s1⟩, _⟩ := evB_of gb.1
 obtain ⟨r0, r1⟩ := drOf_bd h.1 a0 ga.2
 unfold rowC conA s0S
 dsimp only
 by_cases hl : lateB (evD l i) (evD l j) = true
 · rw [if_pos hl, if_pos ((late_eq h hi hj hij).1 hl), if_neg (hiV_ne (by omega) (by omega) r0 r1)]
   rfl
 · rw [if_neg hl, if_neg (fun h2 => hl ((late_eq h hi hj hij).2 h2))]
theorem mem_conW0 {f : Fl} {l : List Ev} (h : evsB f l = true) {c : C4} : c ∈ conW [s0S f] l ↔ ∃ i j, i < l.length ∧ j < l.length ∧ i ≠ j ∧ c ∈ conA f l i j := by
 have he := of_evsB h
 unfold conW conU
 simp only [List.mem_flatMap]
 constructor
 · rintro ⟨p, hp, hc⟩
   have hm := mem_pairK hp
   have hne : p.1 ≠ p.2 := by
    unfold pairK rowP at hp
    simp only [List.mem_flatMap, List.mem_range] at hp
    obtain ⟨a, _, b, _, hp⟩ := hp
    split at hp
    · cases hp
    · rename_i e
      obtain rfl : p = (a, b) := by simpa using hp
      exact e
   refine ⟨p.1, p.2, hm.1, hm.2, hne, ?_⟩
   rw [← rowC0_eq he hm.1 hm.2 hne]
   simpa [conS] using hc
 · rintro ⟨i, j, hi, hj, e, hc⟩
   refine ⟨(i, j), ?_, ?_⟩
   · unfold pairK rowP
     simp only [List.mem_flatMap, List.mem_range]
     exact ⟨i, hi, j, hj, by rw [if_neg e]; simp⟩
   · rw [← rowC0_eq he hi hj e] at hc
     simpa [conS] using hc
theorem con0_okx {f : Fl} {l : List Ev} (h : evsB f l = true) : ∀ c ∈ conW [s0S f] l, c.okx l.length := by
 intro c hc
 obtain ⟨i, j, hi, hj, e, hc⟩ := (mem_conW0 h).1 hc
 exact con_okx h c ((mem_conW h).2 ⟨i, j, hi, hj, e, List.mem_append_left _ hc⟩)
theorem own_fit {f : Fl} {l : List Ev} (h : evsB f l = true) (x : List Int) {a : Int} (a0 : 0 ≤ a) (a1 : a < (f.dr.length : Int)) :
 (!((conW [s0S f] l).any (brkB ((2 : Int) ^ a.toNat) x))) = true ↔ ∀ i j, i < j → j < l.length → (evD l i).ag = a → (evD l j).ag = a → shB (f.drOf a) ((evD l j).tm - (evD l i).tm) (xD x i) (xD x j) = true := by
 have he := of_evsB h
 obtain ⟨⟨_, d6⟩, _⟩ := flB_of he.1
 rw [Bool.not_eq_true', List.any_eq_false]
 have key : ∀ (i j : Nat), i < l.length → j < l.length → ∀ (w : Int) (f' t' : Nat), brkB ((2 : Int) ^ a.toNat) x ⟨f', t', w, mask8 (evD l i) (evD l j)⟩ = ((decide ((evD l i).ag = a) && decide ((evD l j).ag = a)) && decide (w < xD x t' - xD x f')) := fun i j hi hj w f' t' => by
  obtain ⟨g0, g1⟩ := good_ag (ev_good he hi)
  obtain ⟨k0, k1⟩ := good_ag (ev_good he hj)
  unfold brkB
  dsimp only
  rw [bel_mask _ g0 g1 k0 k1, bel_pow a0 (by omega) g0 g1, bel_pow a0 (by omega) k0 k1]
  rfl
 obtain ⟨r0, r1⟩ := drOf_bd he.1 a0 a1
 constructor
 · intro hc i j hij hj ei ej
   have hi : i < l.length := by omega
   have c1 := hc ⟨j, i, -(low8 (f.drOf (evD l i).ag) ((evD l j).tm - (evD l i).tm)), mask8 (evD l i) (evD l j)⟩ ((mem_conW0 h).2 ⟨i, j, hi, hj, by omega, by unfold conA; rw [if_pos ⟨by rw [ei, ej], hij⟩]; simp⟩)
   have c2 := hc ⟨i, j, ((evD l j).tm - (evD l i).tm + 1) * (1000000 + f.drOf (evD l i).ag) - 1, mask8 (evD l i) (evD l j)⟩ ((mem_conW0 h).2 ⟨i, j, hi, hj, by omega, by unfold conA; rw [if_pos ⟨by rw [ei, ej], hij⟩]; simp⟩)
   rw [key i j hi hj, decide_eq_true ei, decide_eq_true ej, Bool.and_true, Bool.true_and, decide_eq_true_eq] at c1 c2
   rw [ei] at c1 c2
   exact (sh_eq r1).2 ⟨by omega, by omega⟩
 · intro hs c hc
   obtain ⟨i, j, hi, hj, _, hc⟩ := (mem_conW0 h).1 hc
   unfold conA at hc
   split at hc
   · rename_i hl
     by_cases ei : (evD l i).ag = a
     · have ej : (evD l j).ag = a := by rw [← hl.1]; exact ei
       have hs := (sh_eq r1).1 (hs i j hl.2 hj ei ej)
       rw [ei] at hc
       simp only [List.mem_cons, List.not_mem_nil, or_false] at hc
       rcases hc with rfl | rfl
       · rw [key i j hi hj, decide_eq_true ei, decide_eq_true ej, Bool.and_true, Bool.true_and, decide_eq_true_eq]
         omega
       · rw [key i j hi hj, decide_eq_true ei, decide_eq_true ej, Bool.and_true, Bool.true_and, decide_eq_true_eq]
         omega
     · simp only [List.mem_cons, List.not_mem_nil, or_false] at hc
       rcases hc with rfl | rfl <;> (rw [key i j hi hj, decide_eq_false ei]; simp)
   · cases hc
theorem fd_iff {f : Fl} {l : List Ev} (h : evsB f l = true) {x : List Int} (ht : timesB l.length x = true) {a : Int} (a0 : 0 ≤ a) (a1 : a < (f.dr.length : Int)) :
 fdB f l x a = (ckB (fdC f l x a) && !((conW [s0S f] l).any (brkB ((2 : Int) ^ a.toNat) x))) := by
 rw [Bool.eq_iff_iff, Bool.and_eq_true, own_fit h x a0 a1]
 constructor
 · intro hb
   have := of_fdB hb
   exact ⟨this.2.2.2.2.1, this.2.2.2.2.2⟩
 · rintro ⟨h1, h2⟩
   exact fdB_yes ⟨h, ht, a0, a1, h1, h2⟩
end Go.Proofs.YtamefmojocegkaaDoor

namespace Go.Proofs.YtamefmojocegkaaDoor
open Go Go.Proofs Go.RowKit Go.Lib
theorem findP_u (v : Value) (f : Fl) (ad ad2 : Option Addr) (c c2 : Nat) (l : List Ev) (x : List Int) (a : Int) (w : World) (hfit : f.fit) (hl : l.length ≤ maxLen) (hx : x.length ≤ maxLen) (hw : evsW l) (hR : Rdy w) (hf : FlAt w v f) (hI : RL KE w ad l) (hJ : RL KI w ad2 x) :
 Calls Tryd.prog 31 #[v, .slice ad l.length c, .slice ad2 x.length c2, .int .i64 a] w (FindPost w (fdV f l x a) (fdE f l x a)) := by
 have HFA := Lib.hid (fun W (b : Below w.heap.size w W) => hf.below b)
 have HIA := Lib.hid (fun W (b : Below w.heap.size w W) => hI.below b)
 have HJA := Lib.hid (fun W (b : Below w.heap.size w W) => hJ.below b)
 have HRD := Lib.hid (fun W (b : Below w.heap.size w W) => hR.below b)
 obtain ⟨x1, c1, x2, c3, x3, c4, rfl, hdr, _, _⟩ := hf
 have CE := Lib.hid (fun W h1 h2 h3 => events_u (.agg #[.slice x1 f.dr.length c1, .int .i64 f.lat, .int .i64 f.lia, .slice x2 f.sv.length c3, .slice x3 f.tm.length c4]) f ad c l hfit hl hw W h1 h2 h3)
 have CT := Lib.hid (fun W h => areTimes_u ad l.length c x ad2 c2 W hx h)
 have CR := Lib.hid (fun W h1 h2 => rules_u (.agg #[.slice x1 f.dr.length c1, .int .i64 f.lat, .int .i64 f.lia, .slice x2 f.sv.length c3, .slice x3 f.tm.length c4]) f W h1 h2)
 have CI := Lib.hid (fun W => isIn_u a 0 ((f.dr.length : Int) - 1) W)
 obtain ⟨fit1, _, _⟩ := hfit
 obtain ⟨w1, V1, Z1, K1, B1⟩ := lay8 w [.slice x1 f.dr.length c1, .int .i64 f.lat, .int .i64 f.lia, .slice x2 f.sv.length c3, .slice x3 f.tm.length c4] 24
 obtain ⟨w2, V2, Z2, K2, B2⟩ := lay8 w1 [.int .i64 0, .slice none 0 0] 50
 rw [Z1] at Z2 K2 B2
 have K1 := K1.up B2 (by omega)
 have HB2 := Lib.hid (show Below w.heap.size w w2 from B1.trans (B2.mono (by omega)))
 have HKX := Lib.hid (show ∀ W, Below (w.heap.size + 2) w2 W → W.cell? ⟨w.heap.size, 0, none⟩ = some (.slice x1 f.dr.length c1) ∧ W.cell? ⟨w.heap.size, 1, none⟩ = some (.int .i64 f.lat) ∧ W.cell? ⟨w.heap.size, 2, none⟩ = some (.int .i64 f.lia) ∧ W.cell? ⟨w.heap.size, 3, none⟩ = some (.slice x2 f.sv.length c3) ∧ W.cell? ⟨w.heap.size, 4, none⟩ = some (.slice x3 f.tm.length c4) from fun W b => ⟨(K1.up b (by omega) 0 (by simp)).1, (K1.up b (by omega) 1 (by simp)).1, (K1.up b (by omega) 2 (by simp)).1, (K1.up b (by omega) 3 (by simp)).1, (K1.up b (by omega) 4 (by simp)).1⟩)
 have HRS := Lib.hid (show ∀ W, Below (w.heap.size + 2) w2 W → CellsAt W (w.heap.size + 1) [.int .i64 0, .slice none 0 0] from fun W b => K2.up b (by omega))
 have HU2 := Lib.hid (show Below (w.heap.size + 2) w2 w2 from Below.refl _ _)
 obtain ⟨y0, y1, y2, y3, y4⟩ := HKX.out w2 HU2.out
 have HNO := Lib.hid (show fdB f l x a = false → ∀ W, Below w.heap.size w W → FindPost w (fdV f l x a) (fdE f l x a) (.returned (.tuple #[.agg #[.int .i64 0, .slice none 0 0], .int .i64 80])) W from fun h W b => by
  unfold fdV fdE
  rw [h, if_neg (by decide), if_neg (by decide)]
  exact ⟨none, 0, rfl, Nat.le_refl _, .inl rfl, b⟩)
 have HN1 := Lib.hid (fun h : ¬ FdOk f l x a => fdB_no h)
 clear hI hJ hR K1 K2 B1 B2 hw
 cases he : evsB f l with
 | false =>
  have HP := Lib.hid (HNO.out (HN1.out (fun h => by rw [h.1] at he; cases he)))
  rw [he] at CE
  clear he HNO HN1
  go_enter Tryd.func31, Tryd.ntmps31
  go_upto_region 2 with (first | (go_at_call 18; refine (CE.out _ (HRD.out _ HB2.out) (HFA.out _ HB2.out) (HIA.out _ HB2.out)).mono ?_; rintro e w3 ⟨rfl, hb⟩; have HU3 := Lib.hid (show Below (w.heap.size + 2) w2 w3 from hb.mono (by omega)); have HB3 := Lib.hid (HB2.out.trans (hb.mono HB2.out.size)); clear hb y0 y1 y2 y3 y4; obtain ⟨y0, y1, y2, y3, y4⟩ := HKX.out w3 HU3.out))
  have KR := HRS.out w3 HU3.out
  obtain ⟨p0, p0'⟩ := KR 0 (by simp); obtain ⟨p1, p1'⟩ := KR 1 (by simp)
  simp only [List.getElem_cons_zero, List.getElem_cons_succ] at p0 p1
  obtain ⟨wz, VZ, KZ, BZ⟩ : ∃ wz, (w3.setCell ⟨w.heap.size + 1, 0, none⟩ (.int .i64 0)).setCell ⟨w.heap.size + 1, 1, none⟩ (.slice none 0 0) = wz ∧ CellsAt wz (w.heap.size + 1) [.int .i64 0, .slice none 0 0] ∧ Below w.heap.size w wz := ⟨_, rfl, (KR.put 0 _).put 1 _, (HB3.out.setCell (p := ⟨w.heap.size + 1, 0, none⟩) (by show _ ≤ _ + 1; omega) _).setCell (p := ⟨w.heap.size + 1, 1, none⟩) (by show _ ≤ _ + 1; omega) _⟩
  have k0 := (KZ 0 (by simp)).1; have k1 := (KZ 1 (by simp)).1
  simp only [List.getElem_cons_zero, List.getElem_cons_succ] at k0 k1
  have HPZ := Lib.hid (HP.out wz BZ)
  clear KR KZ BZ
  go_wp2_with fail
  exact bodyPost_ret (v := .tuple #[.agg #[.int .i64 0, .slice none 0 0], .int .i64 80]) (by simp [results, Tryd.results31, go_sem, k0, k1]) rfl HPZ.out
 | true =>
  cases hin : inB a 0 ((f.dr.length : Int) - 1) with
  | false =>
   have HP := Lib.hid (HNO.out (HN1.out (fun h => by have h1 := h.2.2.1; have h2 := h.2.2.2.1; have := inB_yes (hi := (f.dr.length : Int) - 1) h1 (by omega); rw [hin] at this; cases this)))
   rw [he] at CE
   rw [hin] at CI
   clear he hin HNO HN1
   go_enter Tryd.func31, Tryd.ntmps31
   go_upto_region 2 with (first | (go_at_call 18; refine (CE.out _ (HRD.out _ HB2.out) (HFA.out _ HB2.out) (HIA.out _ HB2.out)).mono ?_; rintro e w3 ⟨rfl, hb⟩; have HU3 := Lib.hid (show Below (w.heap.size + 2) w2 w3 from hb.mono (by omega)); have HB3 := Lib.hid (HB2.out.trans (hb.mono HB2.out.size)); clear hb y0 y1 y2 y3 y4; obtain ⟨y0, y1, y2, y3, y4⟩ := HKX.out w3 HU3.out) | (go_at_call 40; refine (CI.out _).mono ?_; rintro e z ⟨rfl, hz⟩; subst z))
   have KR := HRS.out w3 HU3.out
   obtain ⟨p0, p0'⟩ := KR 0 (by simp); obtain ⟨p1, p1'⟩ := KR 1 (by simp)
   simp only [List.getElem_cons_zero, List.getElem_cons_succ] at p0 p1
   obtain ⟨wz, VZ, KZ, BZ⟩ : ∃ wz, (w3.setCell ⟨w.heap.size + 1, 0, none⟩ (.int .i64 0)).setCell ⟨w.heap.size + 1, 1, none⟩ (.slice none 0 0) = wz ∧ CellsAt wz (w.heap.size + 1) [.int .i64 0, .slice none 0 0] ∧ Below w.heap.size w wz := ⟨_, rfl, (KR.put 0 _).put 1 _, (HB3.out.setCell (p := ⟨w.heap.size + 1, 0, none⟩) (by show _ ≤ _ + 1; omega) _).setCell (p := ⟨w.heap.size + 1, 1, none⟩) (by show _ ≤ _ + 1; omega) _⟩
   have k0 := (KZ 0 (by simp)).1; have k1 := (KZ 1 (by simp)).1
   simp only [List.getElem_cons_zero, List.getElem_cons_succ] at k0 k1
   have HPZ := Lib.hid (HP.out wz BZ)
   clear KR KZ BZ
   go_wp2_with fail
   exact bodyPost_ret (v := .tuple #[.agg #[.int .i64 0, .slice none 0 0], .int .i64 80]) (by simp [results, Tryd.results31, go_sem, k0, k1]) rfl HPZ.out
  | true =>
   cases ht : timesB l.length x with
   | false =>
    have HP := Lib.hid (HNO.out (HN1.out (fun h => by rw [h.2.1] at ht; cases ht)))
    rw [he] at CE
    rw [hin] at CI
    rw [ht] at CT
    clear he hin ht HNO HN1
    go_enter Tryd.func31, Tryd.ntmps31
    go_upto_region 2 with (first | (go_at_call 18; refine (CE.out _ (HRD.out _ HB2.out) (HFA.out _ HB2.out) (HIA.out _ HB2.out)).mono ?_; rintro e w3 ⟨rfl, hb⟩; have HU3 := Lib.hid (show Below (w.heap.size + 2) w2 w3 from hb.mono (by omega)); have HB3 := Lib.hid (HB2.out.trans (hb.mono HB2.out.size)); clear hb y0 y1 y2 y3 y4; obtain ⟨y0, y1, y2, y3, y4⟩ := HKX.out w3 HU3.out) | (go_at_call 40; refine (CI.out _).mono ?_; rintro e z ⟨rfl, hz⟩; subst z) | (go_at_call 50; refine (CT.out _ (HJA.out _ HB3.out)).mono ?_; rintro e w4 ⟨rfl, hb⟩; have HU4 := Lib.hid (show Below (w.heap.size + 2) w2 w4 from HU3.out.trans (hb.mono (by have := HU3.out.size; omega))); have HB4 := Lib.hid (HB3.out.trans (hb.mono HB3.out.size)); clear hb y0 y1 y2 y3 y4; obtain ⟨y0, y1, y2, y3, y4⟩ := HKX.out w4 HU4.out))
    have KR := HRS.out w4 HU4.out
    obtain ⟨p0, p0'⟩ := KR 0 (by simp); obtain ⟨p1, p1'⟩ := KR 1 (by simp)
    simp only [List.getElem_cons_zero, List.getElem_cons_succ] at p0 p1
    obtain ⟨wz, VZ, KZ, BZ⟩ : ∃ wz, (w4.setCell ⟨w.heap.size + 1, 0, none⟩ (.int .i64 0)).setCell ⟨w.heap.size + 1, 1, none⟩ (.slice none 0 0) = wz ∧ CellsAt wz (w.heap.size + 1) [.int .i64 0, .slice none 0 0] ∧ Below w.heap.size w wz := ⟨_, rfl, (KR.put 0 _).put 1 _, (HB4.out.setCell (p := ⟨w.heap.size + 1, 0, none⟩) (by show _ ≤ _ + 1; omega) _).setCell (p := ⟨w.heap.size + 1, 1, none⟩) (by show _ ≤ _ + 1; omega) _⟩
    have k0 := (KZ 0 (by simp)).1; have k1 := (KZ 1 (by simp)).1
    simp only [List.getElem_cons_zero, List.getElem_cons_succ] at k0 k1
    have HPZ := Lib.hid (HP.out wz BZ)
    clear KR KZ BZ
    go_wp2_with fail
    exact bodyPost_ret (v := .tuple #[.agg #[.int .i64 0, .slice none 0 0], .int .i64 80]) (by simp [results, Tryd.results31, go_sem, k0, k1]) rfl HPZ.out
   | true =>
    obtain ⟨a0, a1⟩ := of_inB hin
    have HE := of_evsB he
    obtain ⟨⟨_, d6⟩, _⟩ := flB_of HE.1
    have HFD := Lib.hid (fd_iff he ht a0 (by omega))
    have HC := Lib.hid (fun rs g cr W h1 h2 h3 => constraints_u he [s0S f] (fun s hs => by simp at hs; subst hs; simp [rlS]) (show (1 : Nat) ≤ 8 by decide) rs g cr ad c W h1 h2 h3)
    have HFL := Lib.hid HE.1
    have HTM := Lib.hid (timesB_of ht).1
    have HXL := (timesB_of ht).2
    have HL24 := Lib.hid HE.2.1
    have HAG := Lib.hid (fun ad' c' W h1 h2 => agree_u (conW [s0S f] l) ad' c' x ad2 c2 ((2 : Int) ^ a.toNat) W (conW_le _ _ (show (1 : Nat) ≤ 8 by decide) HE.2.1) h1 h2 (fun y hy => by rw [HXL]; exact con0_okx he y hy) (timesB_of ht).1)
    have HYES := Lib.hid (show fdB f l x a = true → ∀ W ad' c', (fdAn l x a).length ≤ c' → RN KA W w.heap.size ad' (fdAn l x a) → Below w.heap.size w W → FindPost w (fdV f l x a) (fdE f l x a) (.returned (.tuple #[.agg #[.int .i64 (f.drOf a), .slice ad' (fdAn l x a).length c'], .int .i64 0])) W from fun h W ad' c' h1 h2 b => by
     unfold fdV fdE
     rw [h, if_pos rfl, if_pos rfl]
     exact ⟨ad', c', rfl, h1, h2, b⟩)
    have HCK := Lib.hid (fun W ad' cp (h1 : RL KA W ad' (fdAn l x a)) (h2 : (fdAn l x a).length ≤ maxLen) => validClock_u (.agg #[.int .i64 (f.drOf a), .slice ad' (fdAn l x a).length cp]) (fdC f l x a) W ⟨ad', cp, rfl, h1⟩ h2)
    have HBE := Lib.hid (fun k (hk : k < l.length) => (⟨(evB_of (HE.2.2 k hk).1).2.2.1, timesB_of ht |>.1 k⟩ : _ ∧ _))
    have HFK0 := Lib.hid (show fdK l x a 0 = [] from rfl); have HFKS := Lib.hid (fun k => fdK_step l x a k); have HFKL := Lib.hid (fun k => fdK_le l x a k)
    have HFKA := Lib.hid (fdK_all l x a)
    have HXL2 := Lib.hid HXL
    obtain ⟨q, hq⟩ := Int.eq_ofNat_of_zero_le a0
    have hql : q < f.dr.length := by omega
    obtain ⟨db, do_, rfl, hdb, hdc⟩ := hdr.ints8 (by omega)
    have hdq : xD f.dr q = f.drOf a := by unfold xD Fl.drOf; rw [hq]; rfl
    have HDC := Lib.hid (show ∀ W, Below w.heap.size w W → W.cell? ⟨db, do_ + q, none⟩ = some (.int .i64 (f.drOf a)) from fun W b => by rw [← hdq]; exact hdc q hql W b)
    have hiq := fun W => at_int8 db do_ f.dr.length c1 q hql W
    obtain ⟨MA, hMA⟩ : ∃ MA, (2 : Int) ^ a.toNat = MA := ⟨_, rfl⟩
    obtain ⟨ma0, ma1⟩ : 1 ≤ MA ∧ MA ≤ 32 := by rw [← hMA]; exact pow8 _ (by omega)
    have HMQ := Lib.hid (show IntKind.i64.wrap ((2 : Int) ^ q) = MA by rw [hq, Int.toNat_natCast] at hMA; rw [hMA]; exact IntWalk.i64_in _ (by omega))
    rw [hMA] at HFD HAG
    rw [he] at CE
    rw [hin] at CI
    rw [ht] at CT
    clear he hin ht HE HN1 HXL hdc hdb hdq
    generalize f.drOf a = D at *
    generalize fdAn l x a = AN at *
    generalize fdB f l x a = FB at *
    generalize ckB (fdC f l x a) = CB at *
    generalize conW [s0S f] l = CL at *
    generalize (CL.any (brkB MA x)) = QB at *
    subst hq
    go_enter Tryd.func31, Tryd.ntmps31
    go_upto_region 3 with (first | (go_at_call 18; refine (CE.out _ (HRD.out _ HB2.out) (HFA.out _ HB2.out) (HIA.out _ HB2.out)).mono ?_; rintro e w3 ⟨rfl, hb⟩; have HU3 := Lib.hid (show Below (w.heap.size + 2) w2 w3 from hb.mono (by omega)); have HB3 := Lib.hid (HB2.out.trans (hb.mono HB2.out.size)); clear hb y0 y1 y2 y3 y4; obtain ⟨y0, y1, y2, y3, y4⟩ := HKX.out w3 HU3.out) | (go_at_call 40; refine (CI.out _).mono ?_; rintro e z ⟨rfl, hz⟩; subst z) | (go_at_call 50; refine (CT.out _ (HJA.out _ HB3.out)).mono ?_; rintro e w4 ⟨rfl, hb⟩; have HU4 := Lib.hid (show Below (w.heap.size + 2) w2 w4 from HU3.out.trans (hb.mono (by have := HU3.out.size; omega))); have HB4 := Lib.hid (HB3.out.trans (hb.mono HB3.out.size)); clear hb y0 y1 y2 y3 y4; obtain ⟨y0, y1, y2, y3, y4⟩ := HKX.out w4 HU4.out))
    have z0 := HDC.out w4 HB4.out
    obtain ⟨w5, V5, Z5, K5, B5⟩ := lay8 w4 [.int .i64 0, .slice none 0 0] 50
    obtain ⟨g0, g0'⟩ := K5 0 (by simp); obtain ⟨g1, g1'⟩ := K5 1 (by simp)
    simp only [List.getElem_cons_zero, List.getElem_cons_succ] at g0 g1
    obtain ⟨C, hC⟩ : ∃ C, w4.heap.size = C := ⟨_, rfl⟩
    rw [hC] at K5 Z5 g0 g0' g1 g1'
    obtain ⟨w6, V6, K6, B6, S6⟩ : ∃ w6, (w5.setCell ⟨w4.heap.size, 0, none⟩ (.int .i64 D)).setCell ⟨w4.heap.size, 1, none⟩ (.slice none 0 0) = w6 ∧ CellsAt w6 C [.int .i64 D, .slice none 0 0] ∧ Below w4.heap.size w4 w6 ∧ w6.heap.size = C + 1 :=
     ⟨_, rfl, by rw [hC]; exact (K5.put 0 _).put 1 _, (B5.setCell (Nat.le_refl _) _).setCell (Nat.le_refl _) _, by simp; omega⟩
    rw [hC] at V6
    have HUC := Lib.hid (show w.heap.size + 2 ≤ C by have := HU4.out.size; omega)
    have HB6 := Lib.hid (HB4.out.trans (B6.mono HB4.out.size))
    have HU6 := Lib.hid (HU4.out.trans (B6.mono (by have := HU4.out.size; omega)))
    have HC6 := Lib.hid (show ∃ v, w6.cell? ⟨C, 1, none⟩ = some v ∧ Own KA w6 (C + 1) v (fdK l x q 0) from ⟨_, (K6 1 (by simp)).1, by rw [HFK0.out]; exact Own.nil _ _ _⟩)
    have HD6 := Lib.hid (show w6.cell? ⟨C, 0, none⟩ = some (.int .i64 D) ∧ w6.frozen? ⟨C, 1, none⟩ = false from ⟨(K6 0 (by simp)).1, (K6 1 (by simp)).2⟩)
    clear K5 K6 B5 B6
    go_wp2_with fail
    clear z0 V1 V2 V5 V6 g0 g0' g1 g1' y0 y1 y2 y3 y4
    go_loopw [41] (fun i wr => ∃ k : Nat, k ≤ l.length ∧ i = .int .i64 k ∧ Hid (Below w.heap.size w wr) ∧ Hid (Below (w.heap.size + 2) w2 wr) ∧ Hid (∃ v, wr.cell? ⟨C, 1, none⟩ = some v ∧ Own KA wr (C + 1) v (fdK l x q k)) ∧ Hid (wr.cell? ⟨C, 0, none⟩ = some (.int .i64 D) ∧ wr.frozen? ⟨C, 1, none⟩ = false) ∧ Hid (C < wr.heap.size)) (fun i _ => l.length - (RowKit.intOf i).toNat)
    case atStart => exact ⟨0, Nat.zero_le _, rfl, HB6, HU6, HC6, HD6, Lib.hid (by omega)⟩
    case round =>
     clear HB6 HU6 HC6 HD6 S6
     obtain ⟨k, hk, rfl, HB, HU, HO, HD, HS⟩ := hrel
     by_cases hlt : k < l.length
     · have hki : (k : Int) < (l.length : Int) := by omega
       have HLT := Lib.hid hlt
       have hl24 := HL24.out
       obtain ⟨eb, eo, rfl, _, hcc⟩ := (HIA.out w (Below.refl _ _)).evs (by omega)
       obtain ⟨jb, jo, rfl, _, hjj⟩ := (HJA.out w (Below.refl _ _)).ints8 (by rw [HXL2.out]; omega)
       obtain ⟨d0, d1, d2, d3, d4, d5, d6', d7, d8, d9, d10, d11⟩ := hcc k hlt wr HB.out
       have HJK := Lib.hid (hjj k (by rw [HXL2.out]; exact hlt))
       have hik := fun W => at_ev8 eb eo l.length c k hlt W
       have hjk := fun W => at_int8 jb jo x.length c2 k (by rw [HXL2.out]; exact hlt) W
       obtain ⟨⟨t0, t1⟩, ⟨s0, s1⟩⟩ := HBE.out k hlt
       have HST := Lib.hid (HFKS.out k)
       have HKL := Lib.hid (HFKL.out k)
       generalize evD l k = y at *
       generalize xD x k = t at *
       have hwt : IntKind.i64.wrap (y.tm + 1) = y.tm + 1 := IntWalk.i64_in _ (by omega)
       have hwx : IntKind.i64.wrap (t + 1) = t + 1 := IntWalk.i64_in _ (by omega)
       obtain ⟨w7, V7, Z7, K7, B7⟩ := lay8 wr zE.cells 46
       have V7 := (show wr.alloc (.cells #[.int .i64 0, .int .i64 0, .int .i64 0, .int .i64 0, .int .i64 0, .int .i64 0, .int .i64 0, .int .i64 0, .int .i64 0, .int .i64 0, .int .i64 0, .int .i64 0] 46) = w7 from V7)
       have K7 := (show CellsAt w7 wr.heap.size [.int .i64 0, .int .i64 0, .int .i64 0, .int .i64 0, .int .i64 0, .int .i64 0, .int .i64 0, .int .i64 0, .int .i64 0, .int .i64 0, .int .i64 0, .int .i64 0] from K7)
       obtain ⟨w8, V8, K8, B8⟩ : ∃ w8, ((((((((((((w7.setCell ⟨wr.heap.size, 0, none⟩ (.int .i64 y.ag)).setCell ⟨wr.heap.size, 1, none⟩ (.int .i64 y.sq)).setCell ⟨wr.heap.size, 2, none⟩ (.int .i64 y.tm)).setCell ⟨wr.heap.size, 3, none⟩ (.int .i64 y.kd)).setCell ⟨wr.heap.size, 4, none⟩ (.int .i64 y.tr)).setCell ⟨wr.heap.size, 5, none⟩ (.int .i64 y.sp)).setCell ⟨wr.heap.size, 6, none⟩ (.int .i64 y.lk)).setCell ⟨wr.heap.size, 7, none⟩ (.int .i64 y.gn)).setCell ⟨wr.heap.size, 8, none⟩ (.int .i64 y.op)).setCell ⟨wr.heap.size, 9, none⟩ (.int .i64 y.vr)).setCell ⟨wr.heap.size, 10, none⟩ (.int .i64 y.pe)).setCell ⟨wr.heap.size, 11, none⟩ (.int .i64 y.bt)) = w8 ∧ CellsAt w8 wr.heap.size y.cells ∧ Below wr.heap.size wr w8 := ⟨_, rfl, ((((((((((((K7.put 0 _).put 1 _).put 2 _).put 3 _).put 4 _).put 5 _).put 6 _).put 7 _).put 8 _).put 9 _).put 10 _).put 11 _), ((((((((((((B7.setCell (Nat.le_refl _) _).setCell (Nat.le_refl _) _).setCell (Nat.le_refl _) _).setCell (Nat.le_refl _) _).setCell (Nat.le_refl _) _).setCell (Nat.le_refl _) _).setCell (Nat.le_refl _) _).setCell (Nat.le_refl _) _).setCell (Nat.le_refl _) _).setCell (Nat.le_refl _) _).setCell (Nat.le_refl _) _).setCell (Nat.le_refl _) _)⟩
       obtain ⟨g0, g0'⟩ := K7 0 (by simp)
       obtain ⟨g1, g1'⟩ := K7 1 (by simp)
       obtain ⟨g2, g2'⟩ := K7 2 (by simp)
       obtain ⟨g3, g3'⟩ := K7 3 (by simp)
       obtain ⟨g4, g4'⟩ := K7 4 (by simp)
       obtain ⟨g5, g5'⟩ := K7 5 (by simp)
       obtain ⟨g6, g6'⟩ := K7 6 (by simp)
       obtain ⟨g7, g7'⟩ := K7 7 (by simp)
       obtain ⟨g8, g8'⟩ := K7 8 (by simp)
       obtain ⟨g9, g9'⟩ := K7 9 (by simp)
       obtain ⟨g10, g10'⟩ := K7 10 (by simp)
       obtain ⟨g11, g11'⟩ := K7 11 (by simp)
       simp only [List.getElem_cons_zero, List.getElem_cons_succ] at g0 g1 g2 g3 g4 g5 g6 g7 g8 g9 g10 g11
       obtain ⟨v, r1, r2⟩ := HO.out
       have HO8 := Lib.hid (r2.below B8 (Nat.le_refl _))
       have HB8 := Lib.hid (HB.out.trans (B8.mono HB.out.size))
       have HU8 := Lib.hid (show Below (w.heap.size + 2) w2 w8 from HU.out.trans (B8.mono (by have := HU.out.size; omega)))
       have HS8 := Lib.hid (show C < w8.heap.size from Nat.lt_of_lt_of_le HS.out B8.size)
       have HR8 := Lib.hid (show w8.cell? ⟨C, 1, none⟩ = some v ∧ w8.cell? ⟨C, 0, none⟩ = some (.int .i64 D) ∧ w8.frozen? ⟨C, 1, none⟩ = false from ⟨(B8.cell (p := ⟨C, 1, none⟩) HS.out).trans r1, (B8.cell (p := ⟨C, 0, none⟩) HS.out).trans HD.out.1, (B8.frozen (p := ⟨C, 1, none⟩) HS.out).trans HD.out.2⟩)
       have HE8 := Lib.hid (show ∀ Y, Below w8.heap.size w8 Y → EvBox Y wr.heap.size y from fun Y b => CellsAt.ev (CellsAt.below K8 b))
       obtain ⟨h0, h1, h2, h3, h4, h5, h6, h7, h8, h9, h10, h11⟩ := HE8.out w8 (Below.refl _ _)
       clear K7 K8 B7 B8 HB HU HO HD HS r1 r2 hcc hjj hlt
       by_cases hag : y.ag = (q : Int)
       · have HAQ := Lib.hid hag
         have e1 : (y.ag == (q : Int)) = true := beq_iff_eq.2 hag
         have HST2 := Lib.hid (show fdK l x q (k + 1) = fdK l x q k ++ [⟨y.tm + 1, t + 1⟩] from by rw [HST.out, if_pos HAQ.out])
         clear hag
         go_upto_region 8 with fail
         clear V7 V8 e1 h0 h1 h2 h3 h4 h5 h6 h7 h8 h9 h10 h11 d0 d1 d2 d3 d4 d5 d6' d7 d8 d9 d10 d11 g0 g0' g1 g1' g2 g2' g3 g3' g4 g4' g5 g5' g6 g6' g7 g7' g8 g8' g9 g9' g10 g10' g11 g11'
         have HYY := Lib.hid (show ∀ Y, Below w8.heap.size w8 Y → Y.cell? ⟨C, 1, none⟩ = some v ∧ Y.cell? ⟨wr.heap.size, 2, none⟩ = some (.int .i64 y.tm) ∧ Y.cell? ⟨jb, jo + k, none⟩ = some (.int .i64 t) from fun Y b => ⟨(b.cell (p := ⟨C, 1, none⟩) HS8.out).trans HR8.out.1, (HE8.out Y b).2.2.1, HJK.out Y (HB8.out.trans (b.mono HB8.out.size))⟩)
         refine wp_region_noPanic ?_
         refine wp_region_Kx (C := NewC w8) [12, 13, 14] 12 #[false, false, false, false, false, false, false, false, false, false, false, false, false, false, false] (by kernel_rfl) (by kernel_rfl) (by kernel_rfl) (newC0 _) ?_
         intro wx hwx
         refine wpAnyK_ex (i := 0) rfl (by kernel_rfl) (listed' := #[true, false, false, false, false, false, false, false, false, false, false, false, false, false, false]) rfl (fun _ _ _ _ _ h => h) hwx ?_
         apply Exists.intro
         refine ⟨⟨by kernel_rfl, fun wy hw => ?_⟩, ?_⟩
         · (have bw := hw.below; obtain ⟨f0, f1, f2⟩ := HYY.out _ bw; go_simp; try (first | (with_reducible rfl) | (with_reducible exact ⟨rfl, rfl⟩)))
         try simp only [Act.put, List.getElem_toArray, List.getElem_cons_zero, List.setIfInBounds_toArray, List.set_cons_succ, List.set_cons_zero]
         refine wpAnyK_ex (i := 1) rfl (by kernel_rfl) (listed' := #[true, true, false, false, false, false, false, false, false, false, false, false, false, false, false]) rfl (fun _ _ _ _ _ h => h) hwx ?_
         apply Exists.intro
         refine ⟨⟨by kernel_rfl, fun wy hw => ?_⟩, ?_⟩
         · (have bw := hw.below; obtain ⟨f0, f1, f2⟩ := HYY.out _ bw; go_simp; try (first | (with_reducible rfl) | (with_reducible exact ⟨rfl, rfl⟩)))
         try simp only [Act.put, List.getElem_toArray, List.getElem_cons_succ, List.getElem_cons_zero, List.setIfInBounds_toArray, List.set_cons_succ, List.set_cons_zero]
         refine wpAnyK_ex (i := 2) rfl (by kernel_rfl) (listed' := #[true, true, true, false, false, false, false, false, false, false, false, false, false, false, false]) rfl (fun _ _ _ _ _ h => h) hwx ?_
         apply Exists.intro
         refine ⟨⟨by kernel_rfl, fun wy hw => ?_⟩, ?_⟩
         · (have bw := hw.below; obtain ⟨f0, f1, f2⟩ := HYY.out _ bw; go_simp; try (first | (with_reducible rfl) | (with_reducible exact ⟨rfl, rfl⟩)))
         try simp only [Act.put, List.getElem_toArray, List.getElem_cons_succ, List.getElem_cons_zero, List.setIfInBounds_toArray, List.set_cons_succ, List.set_cons_zero]
         refine wpAnyK_ex (i := 3) rfl (by kernel_rfl) (listed' := #[true, true, true, true, false, false, false, false, false, false, false, false, false, false, false]) rfl (fun _ _ _ _ _ h => h) hwx ?_
         apply Exists.intro
         refine ⟨⟨by kernel_rfl, fun wy hw => ?_⟩, ?_⟩
         · (have bw := hw.below; obtain ⟨f0, f1, f2⟩ := HYY.out _ bw; go_simp; try (first | (with_reducible rfl) | (with_reducible exact ⟨rfl, rfl⟩)))
         try simp only [Act.put, List.getElem_toArray, List.getElem_cons_succ, List.getElem_cons_zero, List.setIfInBounds_toArray, List.set_cons_succ, List.set_cons_zero]
         refine wpAnyK_ex (i := 4) rfl (by kernel_rfl) (listed' := #[true, true, true, true, true, false, false, false, false, false, false, false, false, false, false]) rfl (fun _ _ _ _ _ h => h) hwx ?_
         apply Exists.intro
         refine ⟨⟨by kernel_rfl, fun wy hw => ?_⟩, ?_⟩
         · (have bw := hw.below; obtain ⟨f0, f1, f2⟩ := HYY.out _ bw; go_simp; try (first | (with_reducible rfl) | (with_reducible exact ⟨rfl, rfl⟩)))
         try simp only [Act.put, List.getElem_toArray, List.getElem_cons_succ, List.getElem_cons_zero, List.setIfInBounds_toArray, List.set_cons_succ, List.set_cons_zero]
         refine wpAnyK_ex (i := 5) rfl (by kernel_rfl) (listed' := #[true, true, true, true, true, true, false, false, false, false, false, false, false, false, false]) rfl (fun _ _ _ _ _ h => h) hwx ?_
         apply Exists.intro
         refine ⟨⟨by kernel_rfl, fun wy hw => ?_⟩, ?_⟩
         · (have bw := hw.below; obtain ⟨f0, f1, f2⟩ := HYY.out _ bw; go_simp; try (first | (with_reducible rfl) | (with_reducible exact ⟨rfl, rfl⟩)))
         try simp only [Act.put, List.getElem_toArray, List.getElem_cons_succ, List.getElem_cons_zero, List.setIfInBounds_toArray, List.set_cons_succ, List.set_cons_zero]
         refine wpAnyK_ex (i := 6) rfl (by kernel_rfl) (listed' := #[true, true, true, true, true, true, true, false, false, false, false, false, false, false, false]) rfl (fun _ _ _ _ _ h => h) hwx ?_
         apply Exists.intro
         refine ⟨⟨by kernel_rfl, fun wy hw => ?_⟩, ?_⟩
         · (have bw := hw.below; obtain ⟨f0, f1, f2⟩ := HYY.out _ bw; go_simp; try (first | (with_reducible rfl) | (with_reducible exact ⟨rfl, rfl⟩)))
         try simp only [Act.put, List.getElem_toArray, List.getElem_cons_succ, List.getElem_cons_zero, List.setIfInBounds_toArray, List.set_cons_succ, List.set_cons_zero]
         refine wpAnyK_ex (i := 7) rfl (by kernel_rfl) (listed' := #[true, true, true, true, true, true, true, true, false, false, false, false, false, false, false]) rfl (fun _ _ _ _ _ h => h) hwx ?_
         apply Exists.intro
         refine ⟨⟨by kernel_rfl, fun wy hw => ?_⟩, ?_⟩
         · (have bw := hw.below; obtain ⟨f0, f1, f2⟩ := HYY.out _ bw; go_simp; try (first | (with_reducible rfl) | (with_reducible exact ⟨rfl, rfl⟩)))
         try simp only [Act.put, List.getElem_toArray, List.getElem_cons_succ, List.getElem_cons_zero, List.setIfInBounds_toArray, List.set_cons_succ, List.set_cons_zero]
         refine wpAnyK_ex (i := 8) rfl (by kernel_rfl) (listed' := #[true, true, true, true, true, true, true, true, true, false, false, false, false, false, false]) rfl (fun _ _ _ _ _ h => h) hwx ?_
         apply Exists.intro
         refine ⟨⟨by kernel_rfl, fun wy hw => ?_⟩, ?_⟩
         · (have bw := hw.below; obtain ⟨f0, f1, f2⟩ := HYY.out _ bw; go_simp; try (first | (with_reducible rfl) | (with_reducible exact ⟨rfl, rfl⟩)))
         try simp only [Act.put, List.getElem_toArray, List.getElem_cons_succ, List.getElem_cons_zero, List.setIfInBounds_toArray, List.set_cons_succ, List.set_cons_zero]
         refine wpAnyK_ex (i := 9) rfl (by kernel_rfl) (listed' := #[true, true, true, true, true, true, true, true, true, true, false, false, false, false, false]) rfl (fun _ _ _ _ _ h => h) hwx ?_
         apply Exists.intro
         refine ⟨⟨by kernel_rfl, fun wy hw => ?_⟩, ?_⟩
         · (have bw := hw.below; obtain ⟨f0, f1, f2⟩ := HYY.out _ bw; go_simp; try (first | (with_reducible rfl) | (with_reducible exact ⟨rfl, rfl⟩)))
         try simp only [Act.put, List.getElem_toArray, List.getElem_cons_succ, List.getElem_cons_zero, List.setIfInBounds_toArray, List.set_cons_succ, List.set_cons_zero]
         refine wpAnyK_ex (i := 10) rfl (by kernel_rfl) (listed' := #[true, true, true, true, true, true, true, true, true, true, true, false, false, false, false]) rfl (fun _ _ _ _ _ h => h) hwx ?_
         apply Exists.intro
         refine ⟨⟨by kernel_rfl, fun wy hw => ?_⟩, ?_⟩
         · (have bw := hw.below; obtain ⟨f0, f1, f2⟩ := HYY.out _ bw; go_simp; try (first | (with_reducible rfl) | (with_reducible exact ⟨rfl, rfl⟩)))
         try simp only [Act.put, List.getElem_toArray, List.getElem_cons_succ, List.getElem_cons_zero, List.setIfInBounds_toArray, List.set_cons_succ, List.set_cons_zero]
         have HX := Lib.hid hwx.below
         obtain ⟨wq, VQ, ZQ, KQ, BQ⟩ := lay8 wx [.int .i64 (y.tm + 1), .int .i64 (t + 1)] 60
         have VQ := (show wx.alloc (.cells #[.int .i64 (y.tm + 1), .int .i64 (t + 1)] 60) = wq from VQ)
         have HQ := Lib.hid (show Below w8.heap.size w8 wq from HX.out.trans (BQ.mono HX.out.size))
         have KQ := (show CellsAt wq wx.heap.size (KA.cs (⟨y.tm + 1, t + 1⟩ : An)) from KQ)
         have HKQ := Lib.hid KQ
         clear KQ BQ; skip
         refine wpAnyK_fork1 11 (by kernel_rfl) ?_
         refine wpOpK_step rfl (by kernel_rfl) (listed' := #[true, true, true, true, true, true, true, true, true, true, true, true, false, false, false]) rfl (by kernel_rfl) (fun K hK => ?_)
         go_simp
         refine hK _ _ (HQ.out) ?_
         clear hK K
         try simp only [Act.put, List.getElem_toArray, List.getElem_cons_succ, List.getElem_cons_zero, List.setIfInBounds_toArray, List.set_cons_succ, List.set_cons_zero]
         clear VQ
         refine wpAnyK_end (by kernel_rfl) ?_
         try simp only [pickOps, List.filterMap_cons, List.filterMap_nil, List.getElem?_toArray, List.getElem?_cons_succ, List.getElem?_cons_zero]
         have HOQ := Lib.hid (HO8.out.below HQ.out (Nat.le_refl _))
         have hszq : C + 1 ≤ wq.heap.size := by have := HS8.out; have := HQ.out.size; omega
         have hln : (fdK l x q k).length + 1 ≤ 100000000 := by have h1 := HKL.out; have h2 := HL24.out; omega
         have HQ1 := Lib.hid (show wq.cell? ⟨C, 1, none⟩ = some v ∧ wq.cell? ⟨C, 0, none⟩ = some (.int .i64 D) ∧ wq.frozen? ⟨C, 1, none⟩ = false from ⟨(HQ.out.cell (p := ⟨C, 1, none⟩) HS8.out).trans HR8.out.1, (HQ.out.cell (p := ⟨C, 0, none⟩) HS8.out).trans HR8.out.2.1, (HQ.out.frozen (p := ⟨C, 1, none⟩) HS8.out).trans HR8.out.2.2⟩)
         have HBQ := Lib.hid (HB8.out.trans (HQ.out.mono HB8.out.size))
         have HUQ := Lib.hid (HU8.out.trans (HQ.out.mono (by have := HU8.out.size; omega)))
         refine walk_push8 KA (w0 := wq) rfl _ _ rfl (C + 1) v (fdK l x q k) (⟨y.tm + 1, t + 1⟩ : An) rfl HOQ.out (Below.refl _ _) hszq wx.heap.size 1 rfl HKQ.out hln ?_
         intro v' w' hown hbl hgr hbk; obtain ⟨ad', cp', hv9, _⟩ := hown.form; generalize (fdK l x q k ++ [(⟨y.tm + 1, t + 1⟩ : An)]).length = nl at hv9; subst hv9; have q1 := (hbl.cell (p := ⟨C, 1, none⟩) (by show C < C + 1; omega)).trans HQ1.out.1; have q2 := (hbl.frozen (p := ⟨C, 1, none⟩) (by show C < C + 1; omega)).trans HQ1.out.2.2; obtain ⟨wf, VF, HBf, HUf, HOf, HDf, HSf⟩ : ∃ wf, w'.setCell ⟨C, 1, none⟩ (.slice ad' nl cp') = wf ∧ Hid (Below w.heap.size w wf) ∧ Hid (Below (w.heap.size + 2) w2 wf) ∧ Hid (∃ v, wf.cell? ⟨C, 1, none⟩ = some v ∧ Own KA wf (C + 1) v (fdK l x q (k + 1))) ∧ Hid (wf.cell? ⟨C, 0, none⟩ = some (.int .i64 D) ∧ wf.frozen? ⟨C, 1, none⟩ = false) ∧ Hid (C < wf.heap.size) := ⟨_, rfl, Lib.hid ((HBQ.out.trans (hbl.mono (by have := HUC.out; omega))).setCell (p := ⟨C, 1, none⟩) (by have := HUC.out; show _ ≤ C; omega) _), Lib.hid ((HUQ.out.trans (hbl.mono (by have := HUC.out; omega))).setCell (p := ⟨C, 1, none⟩) (by have := HUC.out; show _ ≤ C; omega) _), Lib.hid ⟨_, World.cell?_setCell_same _ _ _ q1, by rw [HST2.out]; exact hown.far (fun e => by have := (hown.ge _ e).1; omega)⟩, Lib.hid ⟨by rw [World.cell?_setCell_other _ _ _ _ (by intro e; injection e with e1 e2; cases e2)]; exact (hbl.cell (p := ⟨C, 0, none⟩) (by show C < C + 1; omega)).trans HQ1.out.2.1, by simp [q2]⟩, Lib.hid (by have := hbl.size; simp; omega)⟩; clear hown hbl hgr hbk
         go_wp2_with fail
         refine NoPanic.normal ?_
         clear q1 q2 VF
         go_wp2_with fail
         go_roundw
         case rel => exact ⟨k + 1, HLT.out, by go_num, HBf, HUf, HOf, HDf, HSf⟩
         case measure => have := HLT.out; simp [RowKit.intOf]; omega
       · have HAQ := Lib.hid hag
         have e1 : (y.ag == (q : Int)) = false := beq_eq_false_iff_ne.2 hag
         have HOf := Lib.hid (show ∃ v, w8.cell? ⟨C, 1, none⟩ = some v ∧ Own KA w8 (C + 1) v (fdK l x q (k + 1)) from ⟨v, HR8.out.1, by rw [HST.out, if_neg HAQ.out, List.append_nil]; exact HO8.out⟩)
         have HDf := Lib.hid HR8.out.2
         go_wp2_with fail
         go_roundw
         case rel => exact ⟨k + 1, HLT.out, by go_num, HB8, HU8, HOf, HDf, HS8⟩
         case measure => have := HLT.out; simp [RowKit.intOf]; omega
     · have hke : k = l.length := by omega
       have hki : ¬ (k : Int) < (l.length : Int) := by omega
       subst hke
       obtain ⟨v, r1, r2⟩ := HO.out
       rw [HFKA.out] at r2
       obtain ⟨ad', cp', rfl, hcp, hrn⟩ := r2.rn
       have HAN := Lib.hid (show AN.length ≤ maxLen by have h1 := HFKL.out l.length; rw [HFKA.out] at h1; have h2 := HL24.out; unfold maxLen; omega)
       have HRN := Lib.hid hrn
       have HCP := Lib.hid hcp
       have HYY := Lib.hid (show ∀ Y, Below wr.heap.size wr Y → Y.cell? ⟨C, 0, none⟩ = some (.int .i64 D) ∧ Y.cell? ⟨C, 1, none⟩ = some (.slice ad' AN.length cp') ∧ Y.cell? ⟨w.heap.size, 0, none⟩ = some (.slice (some ⟨db, do_, none⟩) f.dr.length c1) ∧ Y.cell? ⟨w.heap.size, 1, none⟩ = some (.int .i64 f.lat) ∧ Y.cell? ⟨w.heap.size, 2, none⟩ = some (.int .i64 f.lia) ∧ Y.cell? ⟨w.heap.size, 3, none⟩ = some (.slice x2 f.sv.length c3) ∧ Y.cell? ⟨w.heap.size, 4, none⟩ = some (.slice x3 f.tm.length c4) from fun Y b => ⟨(b.cell (p := ⟨C, 0, none⟩) HS.out).trans HD.out.1, (b.cell (p := ⟨C, 1, none⟩) HS.out).trans r1, HKX.out Y (HU.out.trans (b.mono (by have := HU.out.size; omega)))⟩)
       clear r1 r2 hcp hrn hlt
       go_upto_region 10 with fail
       have HP := HNO
       cases hCB : CB with
       | false =>
        have HP := Lib.hid (HP.out (by rw [HFD.out, hCB]; rfl))
        have CK := Lib.hid (fun W h => by have := HCK.out W ad' cp' h HAN.out; rw [hCB] at this; exact this)
        clear hCB HFD HNO
        refine wp_region_noPanic ?_
        refine wp_region_Kx (C := NewC wr) [14] 14 #[false, false, false, false, false, false, false, false, false, false, false, false, false, false, false] (by kernel_rfl) (by kernel_rfl) (by kernel_rfl) (newC0 _) ?_
        intro wx hwx
        refine wpAnyK_ex (i := 0) rfl (by kernel_rfl) (listed' := #[true, false, false, false, false, false, false, false, false, false, false, false, false, false, false]) rfl (fun _ _ _ _ _ h => h) hwx ?_
        apply Exists.intro
        refine ⟨⟨by kernel_rfl, fun wy hw => ?_⟩, ?_⟩
        · (have bw := hw.below; obtain ⟨f0, f1, f2, f3, f4, f5, f6⟩ := HYY.out _ bw; go_simp; try (first | (with_reducible rfl) | (with_reducible exact ⟨rfl, rfl⟩)))
        try simp only [Act.put, List.getElem_toArray, List.getElem_cons_zero, List.setIfInBounds_toArray, List.set_cons_succ, List.set_cons_zero]
        have HX0 := Lib.hid hwx.below
        refine wpAnyK_fork1 1 (by kernel_rfl) ?_
        refine wpOpK_step rfl (by kernel_rfl) (listed' := #[true, true, false, false, false, false, false, false, false, false, false, false, false, false, false]) rfl (by kernel_rfl) (fun K hK => ?_)
        go_simp
        refine (CK.out _ (HRN.out.rl.below HX0.out)).mono ?_
        rintro e u1 ⟨rfl, hb⟩
        have HX1 := Lib.hid (show Below wr.heap.size wr u1 from HX0.out.trans (hb.mono HX0.out.size))
        refine hK _ _ HX1.out ?_
        clear hK K hb
        try simp only [Act.put, List.getElem_toArray, List.getElem_cons_succ, List.getElem_cons_zero, List.setIfInBounds_toArray, List.set_cons_succ, List.set_cons_zero]
        refine wpAnyK_ex (i := 2) rfl (by kernel_rfl) (listed' := #[true, true, true, false, false, false, false, false, false, false, false, false, false, false, false]) rfl (fun _ _ _ _ _ h => h) HX1.out ?_
        apply Exists.intro
        refine ⟨⟨by kernel_rfl, fun wy hw => ?_⟩, ?_⟩
        · (have bw := hw.below; obtain ⟨f0, f1, f2, f3, f4, f5, f6⟩ := HYY.out _ bw; go_simp; try (first | (with_reducible rfl) | (with_reducible exact ⟨rfl, rfl⟩)))
        try simp only [Act.put, List.getElem_toArray, List.getElem_cons_succ, List.getElem_cons_zero, List.setIfInBounds_toArray, List.set_cons_succ, List.set_cons_zero]
        refine wpAnyK_ex (i := 3) rfl (by kernel_rfl) (listed' := #[true, true, true, true, false, false, false, false, false, false, false, false, false, false, false]) rfl (fun _ _ _ _ _ h => h) HX1.out ?_
        apply Exists.intro
        refine ⟨⟨by kernel_rfl, fun wy hw => ?_⟩, ?_⟩
        · (have bw := hw.below; obtain ⟨f0, f1, f2, f3, f4, f5, f6⟩ := HYY.out _ bw; go_simp; try (first | (with_reducible rfl) | (with_reducible exact ⟨rfl, rfl⟩)))
        try simp only [Act.put, List.getElem_toArray, List.getElem_cons_succ, List.getElem_cons_zero, List.setIfInBounds_toArray, List.set_cons_succ, List.set_cons_zero]
        refine wpAnyK_not (i := 4) rfl (by kernel_rfl) (listed' := #[true, true, true, true, true, false, false, false, false, false, false, false, false, false, false]) rfl (fun _ _ _ _ _ h => h) HX1.out (by kernel_rfl) ?_
        try simp only [Act.put, List.getElem_toArray, List.getElem_cons_succ, List.getElem_cons_zero, List.setIfInBounds_toArray, List.set_cons_succ, List.set_cons_zero]
        refine wpAnyK_not (i := 5) rfl (by kernel_rfl) (listed' := #[true, true, true, true, true, true, false, false, false, false, false, false, false, false, false]) rfl (fun _ _ _ _ _ h => h) HX1.out (by kernel_rfl) ?_
        try simp only [Act.put, List.getElem_toArray, List.getElem_cons_succ, List.getElem_cons_zero, List.setIfInBounds_toArray, List.set_cons_succ, List.set_cons_zero]
        refine wpAnyK_not (i := 6) rfl (by kernel_rfl) (listed' := #[true, true, true, true, true, true, true, false, false, false, false, false, false, false, false]) rfl (fun _ _ _ _ _ h => h) HX1.out (by kernel_rfl) ?_
        try simp only [Act.put, List.getElem_toArray, List.getElem_cons_succ, List.getElem_cons_zero, List.setIfInBounds_toArray, List.set_cons_succ, List.set_cons_zero]
        refine wpAnyK_not (i := 7) rfl (by kernel_rfl) (listed' := #[true, true, true, true, true, true, true, true, false, false, false, false, false, false, false]) rfl (fun _ _ _ _ _ h => h) HX1.out (by kernel_rfl) ?_
        try simp only [Act.put, List.getElem_toArray, List.getElem_cons_succ, List.getElem_cons_zero, List.setIfInBounds_toArray, List.set_cons_succ, List.set_cons_zero]
        refine wpAnyK_not (i := 8) rfl (by kernel_rfl) (listed' := #[true, true, true, true, true, true, true, true, true, false, false, false, false, false, false]) rfl (fun _ _ _ _ _ h => h) HX1.out (by kernel_rfl) ?_
        try simp only [Act.put, List.getElem_toArray, List.getElem_cons_succ, List.getElem_cons_zero, List.setIfInBounds_toArray, List.set_cons_succ, List.set_cons_zero]
        refine wpAnyK_not (i := 9) rfl (by kernel_rfl) (listed' := #[true, true, true, true, true, true, true, true, true, true, false, false, false, false, false]) rfl (fun _ _ _ _ _ h => h) HX1.out (by kernel_rfl) ?_
        try simp only [Act.put, List.getElem_toArray, List.getElem_cons_succ, List.getElem_cons_zero, List.setIfInBounds_toArray, List.set_cons_succ, List.set_cons_zero]
        refine wpAnyK_not (i := 10) rfl (by kernel_rfl) (listed' := #[true, true, true, true, true, true, true, true, true, true, true, false, false, false, false]) rfl (fun _ _ _ _ _ h => h) HX1.out (by kernel_rfl) ?_
        try simp only [Act.put, List.getElem_toArray, List.getElem_cons_succ, List.getElem_cons_zero, List.setIfInBounds_toArray, List.set_cons_succ, List.set_cons_zero]
        refine wpAnyK_not (i := 11) rfl (by kernel_rfl) (listed' := #[true, true, true, true, true, true, true, true, true, true, true, true, false, false, false]) rfl (fun _ _ _ _ _ h => h) HX1.out (by kernel_rfl) ?_
        try simp only [Act.put, List.getElem_toArray, List.getElem_cons_succ, List.getElem_cons_zero, List.setIfInBounds_toArray, List.set_cons_succ, List.set_cons_zero]
        refine wpAnyK_not (i := 12) rfl (by kernel_rfl) (listed' := #[true, true, true, true, true, true, true, true, true, true, true, true, true, false, false]) rfl (fun _ _ _ _ _ h => h) HX1.out (by kernel_rfl) ?_
        try simp only [Act.put, List.getElem_toArray, List.getElem_cons_succ, List.getElem_cons_zero, List.setIfInBounds_toArray, List.set_cons_succ, List.set_cons_zero]
        refine wpAnyK_not (i := 13) rfl (by kernel_rfl) (listed' := #[true, true, true, true, true, true, true, true, true, true, true, true, true, true, false]) rfl (fun _ _ _ _ _ h => h) HX1.out (by kernel_rfl) ?_
        try simp only [Act.put, List.getElem_toArray, List.getElem_cons_succ, List.getElem_cons_zero, List.setIfInBounds_toArray, List.set_cons_succ, List.set_cons_zero]
        refine wpAnyK_end (by kernel_rfl) ?_
        try simp only [pickOps, List.filterMap_cons, List.filterMap_nil, List.getElem?_toArray, List.getElem?_cons_succ, List.getElem?_cons_zero]
        go_wp2_with fail
        refine NoPanic.normal ?_
        go_upto_region 11 with fail
        have HBu := Lib.hid (HB.out.trans (HX1.out.mono HB.out.size))
        have HUu := Lib.hid (show Below (w.heap.size + 2) w2 u1 from HU.out.trans (HX1.out.mono (by have := HU.out.size; omega)))
        generalize u1 = wu at *
        have KR := HRS.out wu HUu.out
        obtain ⟨p0, p0'⟩ := KR 0 (by simp); obtain ⟨p1, p1'⟩ := KR 1 (by simp)
        simp only [List.getElem_cons_zero, List.getElem_cons_succ] at p0 p1
        obtain ⟨wz, VZ, KZ, BZ⟩ : ∃ wz, (wu.setCell ⟨w.heap.size + 1, 0, none⟩ (.int .i64 0)).setCell ⟨w.heap.size + 1, 1, none⟩ (.slice none 0 0) = wz ∧ CellsAt wz (w.heap.size + 1) [.int .i64 0, .slice none 0 0] ∧ Below w.heap.size w wz := ⟨_, rfl, (KR.put 0 _).put 1 _, (HBu.out.setCell (p := ⟨w.heap.size + 1, 0, none⟩) (by show _ ≤ _ + 1; omega) _).setCell (p := ⟨w.heap.size + 1, 1, none⟩) (by show _ ≤ _ + 1; omega) _⟩
        have k0 := (KZ 0 (by simp)).1; have k1 := (KZ 1 (by simp)).1
        simp only [List.getElem_cons_zero, List.getElem_cons_succ] at k0 k1
        have HPZ := Lib.hid (HP.out wz BZ)
        clear KR KZ BZ
        go_wp2_with fail
        exact bodyPost_ret (v := .tuple #[.agg #[.int .i64 0, .slice none 0 0], .int .i64 80]) (by simp [results, Tryd.results31, go_sem, k0, k1]) rfl HPZ.out
       | true =>
        have CK := Lib.hid (fun W h => by have := HCK.out W ad' cp' h HAN.out; rw [hCB] at this; exact this)
        have HFD := Lib.hid (show FB = !QB by rw [HFD.out, hCB]; rfl)
        have hmq := HMQ.out
        clear hCB
        refine wp_region_noPanic ?_
        refine wp_region_Kx (C := NewC wr) [14] 14 #[false, false, false, false, false, false, false, false, false, false, false, false, false, false, false] (by kernel_rfl) (by kernel_rfl) (by kernel_rfl) (newC0 _) ?_
        intro wx hwx
        refine wpAnyK_ex (i := 0) rfl (by kernel_rfl) (listed' := #[true, false, false, false, false, false, false, false, false, false, false, false, false, false, false]) rfl (fun _ _ _ _ _ h => h) hwx ?_
        apply Exists.intro
        refine ⟨⟨by kernel_rfl, fun wy hw => ?_⟩, ?_⟩
        · (have bw := hw.below; obtain ⟨f0, f1, f2, f3, f4, f5, f6⟩ := HYY.out _ bw; go_simp; try (first | (with_reducible rfl) | (with_reducible exact ⟨rfl, rfl⟩)))
        try simp only [Act.put, List.getElem_toArray, List.getElem_cons_zero, List.setIfInBounds_toArray, List.set_cons_succ, List.set_cons_zero]
        have HX0 := Lib.hid hwx.below
        refine wpAnyK_fork1 1 (by kernel_rfl) ?_
        refine wpOpK_step rfl (by kernel_rfl) (listed' := #[true, true, false, false, false, false, false, false, false, false, false, false, false, false, false]) rfl (by kernel_rfl) (fun K hK => ?_)
        go_simp
        refine (CK.out _ (HRN.out.rl.below HX0.out)).mono ?_
        rintro e u1 ⟨rfl, hb⟩
        have HX1 := Lib.hid (show Below wr.heap.size wr u1 from HX0.out.trans (hb.mono HX0.out.size))
        refine hK _ _ HX1.out ?_
        clear hK K hb
        try simp only [Act.put, List.getElem_toArray, List.getElem_cons_succ, List.getElem_cons_zero, List.setIfInBounds_toArray, List.set_cons_succ, List.set_cons_zero]
        refine wpAnyK_ex (i := 2) rfl (by kernel_rfl) (listed' := #[true, true, true, false, false, false, false, false, false, false, false, false, false, false, false]) rfl (fun _ _ _ _ _ h => h) HX1.out ?_
        apply Exists.intro
        refine ⟨⟨by kernel_rfl, fun wy hw => ?_⟩, ?_⟩
        · (have bw := hw.below; obtain ⟨f0, f1, f2, f3, f4, f5, f6⟩ := HYY.out _ bw; go_simp; try (first | (with_reducible rfl) | (with_reducible exact ⟨rfl, rfl⟩)))
        try simp only [Act.put, List.getElem_toArray, List.getElem_cons_succ, List.getElem_cons_zero, List.setIfInBounds_toArray, List.set_cons_succ, List.set_cons_zero]
        refine wpAnyK_ex (i := 3) rfl (by kernel_rfl) (listed' := #[true, true, true, true, false, false, false, false, false, false, false, false, false, false, false]) rfl (fun _ _ _ _ _ h => h) HX1.out ?_
        apply Exists.intro
        refine ⟨⟨by kernel_rfl, fun wy hw => ?_⟩, ?_⟩
        · (have bw := hw.below; obtain ⟨f0, f1, f2, f3, f4, f5, f6⟩ := HYY.out _ bw; go_simp; try (first | (with_reducible rfl) | (with_reducible exact ⟨rfl, rfl⟩)))
        try simp only [Act.put, List.getElem_toArray, List.getElem_cons_succ, List.getElem_cons_zero, List.setIfInBounds_toArray, List.set_cons_succ, List.set_cons_zero]
        refine wpAnyK_ex (i := 4) rfl (by kernel_rfl) (listed' := #[true, true, true, true, true, false, false, false, false, false, false, false, false, false, false]) rfl (fun _ _ _ _ _ h => h) HX1.out ?_
        apply Exists.intro
        refine ⟨⟨by kernel_rfl, fun wy hw => ?_⟩, ?_⟩
        · (have bw := hw.below; obtain ⟨f0, f1, f2, f3, f4, f5, f6⟩ := HYY.out _ bw; go_simp; try (first | (with_reducible rfl) | (with_reducible exact ⟨rfl, rfl⟩)))
        try simp only [Act.put, List.getElem_toArray, List.getElem_cons_succ, List.getElem_cons_zero, List.setIfInBounds_toArray, List.set_cons_succ, List.set_cons_zero]
        refine wpAnyK_ex (i := 5) rfl (by kernel_rfl) (listed' := #[true, true, true, true, true, true, false, false, false, false, false, false, false, false, false]) rfl (fun _ _ _ _ _ h => h) HX1.out ?_
        apply Exists.intro
        refine ⟨⟨by kernel_rfl, fun wy hw => ?_⟩, ?_⟩
        · (have bw := hw.below; obtain ⟨f0, f1, f2, f3, f4, f5, f6⟩ := HYY.out _ bw; go_simp; try (first | (with_reducible rfl) | (with_reducible exact ⟨rfl, rfl⟩)))
        try simp only [Act.put, List.getElem_toArray, List.getElem_cons_succ, List.getElem_cons_zero, List.setIfInBounds_toArray, List.set_cons_succ, List.set_cons_zero]
        refine wpAnyK_ex (i := 9) rfl (by kernel_rfl) (listed' := #[true, true, true, true, true, true, false, false, false, true, false, false, false, false, false]) rfl (fun _ _ _ _ _ h => h) HX1.out ?_
        apply Exists.intro
        refine ⟨⟨by kernel_rfl, fun wy hw => ?_⟩, ?_⟩
        · (have bw := hw.below; obtain ⟨f0, f1, f2, f3, f4, f5, f6⟩ := HYY.out _ bw; go_simp; try (first | (with_reducible rfl) | (with_reducible exact ⟨rfl, rfl⟩)))
        try simp only [Act.put, List.getElem_toArray, List.getElem_cons_succ, List.getElem_cons_zero, List.setIfInBounds_toArray, List.set_cons_succ, List.set_cons_zero]
        refine wpAnyK_ex (i := 10) rfl (by kernel_rfl) (listed' := #[true, true, true, true, true, true, false, false, false, true, true, false, false, false, false]) rfl (fun _ _ _ _ _ h => h) HX1.out ?_
        apply Exists.intro
        refine ⟨⟨by kernel_rfl, fun wy hw => ?_⟩, ?_⟩
        · (have bw := hw.below; obtain ⟨f0, f1, f2, f3, f4, f5, f6⟩ := HYY.out _ bw; go_simp; try (first | (with_reducible rfl) | (with_reducible exact ⟨rfl, rfl⟩)))
        try simp only [Act.put, List.getElem_toArray, List.getElem_cons_succ, List.getElem_cons_zero, List.setIfInBounds_toArray, List.set_cons_succ, List.set_cons_zero]
        refine wpAnyK_ex (i := 11) rfl (by kernel_rfl) (listed' := #[true, true, true, true, true, true, false, false, false, true, true, true, false, false, false]) rfl (fun _ _ _ _ _ h => h) HX1.out ?_
        apply Exists.intro
        refine ⟨⟨by kernel_rfl, fun wy hw => ?_⟩, ?_⟩
        · (have bw := hw.below; obtain ⟨f0, f1, f2, f3, f4, f5, f6⟩ := HYY.out _ bw; go_simp; try (first | (with_reducible rfl) | (with_reducible exact ⟨rfl, rfl⟩)))
        try simp only [Act.put, List.getElem_toArray, List.getElem_cons_succ, List.getElem_cons_zero, List.setIfInBounds_toArray, List.set_cons_succ, List.set_cons_zero]
        refine wpAnyK_fork1 6 (by kernel_rfl) ?_
        refine wpOpK_step rfl (by kernel_rfl) (listed' := #[true, true, true, true, true, true, true, false, false, true, true, true, false, false, false]) rfl (by kernel_rfl) (fun K hK => ?_)
        go_simp
        refine (CR.out _ (HFA.out _ (HB.out.trans (HX1.out.mono HB.out.size))) HFL.out).mono ?_
        rintro e u2 ⟨g, rs, rfl, hr, hk, hb⟩
        have HX2 := Lib.hid (show Below wr.heap.size wr u2 from HX1.out.trans (hb.mono HX1.out.size))
        refine hK _ _ HX2.out ?_
        clear hK K
        try simp only [Act.put, List.getElem_toArray, List.getElem_cons_succ, List.getElem_cons_zero, List.setIfInBounds_toArray, List.set_cons_succ, List.set_cons_zero]
        have h4 : rs.length = 4 := hk.1
        have HC4 := Lib.hid (show Calls Tryd.prog 44 #[.slice ad l.length c, .slice (some ⟨g, 0, none⟩) 1 4] u2 (ConsPost u2 CL) from by
         have h8 : RL KR u2 (some ⟨g, 0, none⟩) (rs.take 1) := by have h7 := hr.sub 0 1 (by omega); rw [List.drop_zero] at h7; exact h7
         have h9 := HC.out (rs.take 1) g 4 u2 (HIA.out _ (HB.out.trans (HX2.out.mono HB.out.size))) h8 hk.one
         rw [List.length_take, h4] at h9
         exact h9)
        clear hr hk h4 hb
        refine wpAnyK_ex (i := 7) rfl (by kernel_rfl) (listed' := #[true, true, true, true, true, true, true, true, false, true, true, true, false, false, false]) rfl (fun _ _ _ _ _ h => h) HX2.out ?_
        apply Exists.intro
        refine ⟨⟨by kernel_rfl, fun wy hw => ?_⟩, ?_⟩
        · (have bw := hw.below; obtain ⟨f0, f1, f2, f3, f4, f5, f6⟩ := HYY.out _ bw; go_simp; try (first | (with_reducible rfl) | (with_reducible exact ⟨rfl, rfl⟩)))
        try simp only [Act.put, List.getElem_toArray, List.getElem_cons_succ, List.getElem_cons_zero, List.setIfInBounds_toArray, List.set_cons_succ, List.set_cons_zero]
        refine wpAnyK_fork1 8 (by kernel_rfl) ?_
        refine wpOpK_step rfl (by kernel_rfl) (listed' := #[true, true, true, true, true, true, true, true, true, true, true, true, false, false, false]) rfl (by kernel_rfl) (fun K hK => ?_)
        go_simp
        refine (HC4.out).mono ?_
        rintro e u3 ⟨ad5, c5, rfl, hc5, hn5, hb⟩
        have HX3 := Lib.hid (show Below wr.heap.size wr u3 from HX2.out.trans (hb.mono HX2.out.size))
        refine hK _ _ HX3.out ?_
        clear hK K
        try simp only [Act.put, List.getElem_toArray, List.getElem_cons_succ, List.getElem_cons_zero, List.setIfInBounds_toArray, List.set_cons_succ, List.set_cons_zero]
        have HG := Lib.hid (HAG.out ad5 c5 u3 hn5.rl (HJA.out _ (HB.out.trans (HX3.out.mono HB.out.size))))
        clear hc5 hn5 hb
        refine wpAnyK_fork1 12 (by kernel_rfl) ?_
        refine wpOpK_step rfl (by kernel_rfl) (listed' := #[true, true, true, true, true, true, true, true, true, true, true, true, true, false, false]) rfl (by kernel_rfl) (fun K hK => ?_)
        go_simp
        refine (HG.out).mono ?_
        rintro e u4 ⟨rfl, hb⟩
        have HX4 := Lib.hid (show Below wr.heap.size wr u4 from HX3.out.trans (hb.mono HX3.out.size))
        refine hK _ _ HX4.out ?_
        clear hK K hb
        try simp only [Act.put, List.getElem_toArray, List.getElem_cons_succ, List.getElem_cons_zero, List.setIfInBounds_toArray, List.set_cons_succ, List.set_cons_zero]
        refine wpAnyK_ex (i := 13) rfl (by kernel_rfl) (listed' := #[true, true, true, true, true, true, true, true, true, true, true, true, true, true, false]) rfl (fun _ _ _ _ _ h => h) HX4.out ?_
        apply Exists.intro
        refine ⟨⟨by kernel_rfl, fun wy hw => ?_⟩, ?_⟩
        · (have bw := hw.below; obtain ⟨f0, f1, f2, f3, f4, f5, f6⟩ := HYY.out _ bw; go_simp; try (first | (with_reducible rfl) | (with_reducible exact ⟨rfl, rfl⟩)))
        try simp only [Act.put, List.getElem_toArray, List.getElem_cons_succ, List.getElem_cons_zero, List.setIfInBounds_toArray, List.set_cons_succ, List.set_cons_zero]
        refine wpAnyK_end (by kernel_rfl) ?_
        try simp only [pickOps, List.filterMap_cons, List.filterMap_nil, List.getElem?_toArray, List.getElem?_cons_succ, List.getElem?_cons_zero]
        cases hQB : QB with
        | true =>
         have HP := Lib.hid (HP.out (by rw [HFD.out, hQB]; rfl))
         clear hQB
         go_wp2_with fail
         refine NoPanic.normal ?_
         go_upto_region 11 with fail
         have HBu := Lib.hid (HB.out.trans (HX4.out.mono HB.out.size))
         have HUu := Lib.hid (show Below (w.heap.size + 2) w2 u4 from HU.out.trans (HX4.out.mono (by have := HU.out.size; omega)))
         generalize u4 = wu at *
         have KR := HRS.out wu HUu.out
         obtain ⟨p0, p0'⟩ := KR 0 (by simp); obtain ⟨p1, p1'⟩ := KR 1 (by simp)
         simp only [List.getElem_cons_zero, List.getElem_cons_succ] at p0 p1
         obtain ⟨wz, VZ, KZ, BZ⟩ : ∃ wz, (wu.setCell ⟨w.heap.size + 1, 0, none⟩ (.int .i64 0)).setCell ⟨w.heap.size + 1, 1, none⟩ (.slice none 0 0) = wz ∧ CellsAt wz (w.heap.size + 1) [.int .i64 0, .slice none 0 0] ∧ Below w.heap.size w wz := ⟨_, rfl, (KR.put 0 _).put 1 _, (HBu.out.setCell (p := ⟨w.heap.size + 1, 0, none⟩) (by show _ ≤ _ + 1; omega) _).setCell (p := ⟨w.heap.size + 1, 1, none⟩) (by show _ ≤ _ + 1; omega) _⟩
         have k0 := (KZ 0 (by simp)).1; have k1 := (KZ 1 (by simp)).1
         simp only [List.getElem_cons_zero, List.getElem_cons_succ] at k0 k1
         have HPZ := Lib.hid (HP.out wz BZ)
         clear KR KZ BZ
         go_wp2_with fail
         exact bodyPost_ret (v := .tuple #[.agg #[.int .i64 0, .slice none 0 0], .int .i64 80]) (by simp [results, Tryd.results31, go_sem, k0, k1]) rfl HPZ.out
        | false =>
         have HP := Lib.hid (HYES.out (by rw [HFD.out, hQB]; rfl))
         clear hQB
         go_wp2_with fail
         refine NoPanic.normal ?_
         have HBu := Lib.hid (HB.out.trans (HX4.out.mono HB.out.size))
         have HUu := Lib.hid (show Below (w.heap.size + 2) w2 u4 from HU.out.trans (HX4.out.mono (by have := HU.out.size; omega)))
         have KR := HRS.out u4 HUu.out
         obtain ⟨p0, p0'⟩ := KR 0 (by simp); obtain ⟨p1, p1'⟩ := KR 1 (by simp)
         simp only [List.getElem_cons_zero, List.getElem_cons_succ] at p0 p1
         obtain ⟨q0, q1, _⟩ := HYY.out u4 HX4.out
         have HUC' := HUC.out
         obtain ⟨wz, VZ, KZ, BZ, RZ⟩ : ∃ wz, (u4.setCell ⟨w.heap.size + 1, 0, none⟩ (.int .i64 D)).setCell ⟨w.heap.size + 1, 1, none⟩ (.slice ad' AN.length cp') = wz ∧ CellsAt wz (w.heap.size + 1) [.int .i64 D, .slice ad' AN.length cp'] ∧ Below w.heap.size w wz ∧ RN KA wz (C + 1) ad' AN := ⟨_, rfl, (KR.put 0 _).put 1 _, (HBu.out.setCell (p := ⟨w.heap.size + 1, 0, none⟩) (by show _ ≤ _ + 1; omega) _).setCell (p := ⟨w.heap.size + 1, 1, none⟩) (by show _ ≤ _ + 1; omega) _, (((HRN.out.below HX4.out).far (by omega)).far (by omega))⟩
         have k0 := (KZ 0 (by simp)).1; have k1 := (KZ 1 (by simp)).1
         simp only [List.getElem_cons_zero, List.getElem_cons_succ] at k0 k1
         have HPZ := Lib.hid (HP.out wz ad' cp' HCP.out (RZ.base (by omega)) BZ)
         clear KR KZ BZ RZ
         go_wp2_with fail
         exact bodyPost_ret (v := .tuple #[.agg #[.int .i64 D, .slice ad' AN.length cp'], .int .i64 0]) (by simp [results, Tryd.results31, go_sem, k0, k1]) rfl HPZ.out
end Go.Proofs.YtamefmojocegkaaDoor
