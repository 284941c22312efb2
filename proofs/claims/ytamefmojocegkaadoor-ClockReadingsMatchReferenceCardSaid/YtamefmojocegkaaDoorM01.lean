/-
  Layer 8: what a law needs of earlier texts.
-/
import Derived.Test.YtamefmojocegkaaDoorK04
import Derived.Test.YtamefmojocegkaaDoorK05
import Derived.Test.YtamefmojocegkaaDoorK09
import Derived.Test.YtamefmojocegkaaDoorK10
import Derived.Deep.RegionHeld3
import Derived.Lib.QuietBelow
import Derived.Deep.DeepCutAuto
import Derived.WalkKit
import Derived.WalkLawsBesides
import Derived.Outline
import Derived.Lib.Hide
import Derived.Below
import Derived.BigQuiet
import Derived.Deep.QuietTactic
import Derived.Laws.Rows
import Derived.Laws.OwnMore
import Derived.OwnWalk
import Derived.StillTail
import Derived.Laws.StructEq
import Derived.Laws.Bits128
import Derived.RangeFuncNested
import Derived.RangeFuncBound
import Derived.RangeFuncCalls
import Derived.RangeFuncLeaves
import Derived.RangeFuncFrom
import Derived.RangeFuncRecord
import Derived.OwnWalkIn
import Derived.TacticsInMore
import Derived.LoopNIn
import Derived.LoopIn
import Derived.TacticsIn
import Derived.OrdersIn
import Derived.Maps.Own
import Derived.Maps.OwnOps
namespace Go.Proofs.YtamefmojocegkaaDoor
open Go Go.Proofs Go.RowKit Go.Lib

end Go.Proofs.YtamefmojocegkaaDoor

namespace Go.Proofs.YtamefmojocegkaaDoor
open Go Go.Proofs Go.RowKit Go.Lib

theorem RL.take8 {T : Type} {K : RowK T} {W : World} {ad : Option Addr} {l : List T} (h : RL K W ad l) (n : Nat) : RL K W ad (l.take n) := by
  rcases h with h | ⟨b, o, h1, h2, h3⟩
  · subst h; exact .inl (by simp)
  · refine .inr ⟨b, o, h1, h2, fun i hi j hj => ?_⟩
    rw [List.length_take] at hi
    rw [h3 i (by omega) j hj, List.getElem_take]
/-- Times of which some are moved. -/
def mvD (b : Int) : Int := if pick8 (b.tdiv 7) 2 = 1 then (pick8 (b.tdiv 32) 4001 - 2000) * 1000 else pick8 (b.tdiv 32) 4001 - 2000
def mv1 (x : List Int) (b : Int) : List Int := x.set (pick8 b (x.length : Nat)).toNat (x.getD (pick8 b (x.length : Nat)).toNat 0 + mvD b)
def mvN : List Int → List Int → List Int
  | x, [] => x
  | x, b :: l => if x = [] then x else mvN (mv1 x b) l
theorem mv1_len (x : List Int) (b : Int) : (mv1 x b).length = x.length := by unfold mv1; simp
theorem mvD_bd (b : Int) : -2000000 ≤ mvD b ∧ mvD b ≤ 2001000 := by
  unfold mvD
  have h1 := pick8_lo (c := b.tdiv 32) (n := 4001) (by decide)
  have h2 := pick8_hi (c := b.tdiv 32) (n := 4001) (by decide)
  split <;> omega
theorem getD_set8' {l : List Int} {i j : Nat} {x : Int} : (l.set i x).getD j 0 = if i = j ∧ i < l.length then x else l.getD j 0 := by
  rw [List.getD_eq_getElem?_getD, List.getD_eq_getElem?_getD, List.getElem?_set]
  by_cases h : i = j
  · subst h
    by_cases h2 : i < l.length
    · simp [h2]
    · rw [if_pos rfl, if_neg h2, if_neg (by omega), List.getElem?_eq_none (by omega)]
  · rw [if_neg h, if_neg (by omega)]
theorem mv1_bd {x : List Int} {M : Int} (h : ∀ i, -M ≤ x.getD i 0 ∧ x.getD i 0 ≤ M) (b : Int) : ∀ i, -(M + 3000000) ≤ (mv1 x b).getD i 0 ∧ (mv1 x b).getD i 0 ≤ M + 3000000 := by
  intro i
  have hd := mvD_bd b
  unfold mv1
  have hs := getD_set8' (l := x) (i := (pick8 b (x.length : Nat)).toNat) (j := i) (x := x.getD (pick8 b (x.length : Nat)).toNat 0 + mvD b)
  rw [hs]
  have h1 := h i
  have h2 := h (pick8 b (x.length : Nat)).toNat
  split <;> omega
end Go.Proofs.YtamefmojocegkaaDoor

namespace Go.Proofs.YtamefmojocegkaaDoor
open Go Go.Proofs Go.RowKit Go.Lib

def bent1 (e : Ev) (how by_ : Int) : Ev :=
  if pick8 how 4 = 0 then { e with tm := pick8 by_ 2000 }
  else if pick8 how 4 = 1 then { e with tm := e.tm + pick8 by_ 5 - 2 }
  else if pick8 how 4 = 2 then (if e.kd = 3 ∨ e.kd = 4 ∨ e.kd = 5 ∨ e.kd = 6 then { e with lk := pick8 by_ 4 } else e)
  else (if e.kd = 5 ∨ e.kd = 6 then { e with gn := pick8 by_ 4 } else e)
def flr8 (e : Ev) : Ev := if e.tm < 0 then { e with tm := 0 } else e
def bentN (l : List Ev) (at_ how by_ : Int) : List Ev := if l = [] then [] else l.set (pick8 at_ (l.length : Nat)).toNat (flr8 (bent1 (evD l (pick8 at_ (l.length : Nat)).toNat) how by_))
def EvsPost (w : World) (l : List Ev) (e : Ending) (w' : World) : Prop := ∃ ad c, e = .returned (.slice ad l.length c) ∧ l.length ≤ c ∧ (ad = none → c = 0) ∧ RN KE w' w.heap.size ad l ∧ Below w.heap.size w w'
theorem Own.evs8 {w W : World} {base g n c : Nat} {l : List Ev} (hb : Below base w W) (hbs : base = w.heap.size) (h : Own KE W base (.slice (some ⟨g, 0, none⟩) n c) l) : EvsPost w l (.returned (.slice (some ⟨g, 0, none⟩) n c)) W := by
  subst hbs
  obtain ⟨ad, c2, e, h1, h2⟩ := h.rn
  injection e with e1 e2 e3
  subst e1 e2 e3
  exact ⟨_, _, rfl, h1, (fun e => by cases e), h2, hb⟩
set_option maxRecDepth 100000 in
set_option maxHeartbeats 8000000 in
theorem bentR_any (a1 : Option Addr) (c1 : Nat) (l : List Ev) (at_ how by_ : Int) (hl : l.length ≤ 1000) (hn1 : a1 = none → c1 = 0) (x0 : -9223372036854775808 ≤ at_) (x1 : at_ ≤ 9223372036854775807) (y0 : -9223372036854775808 ≤ how) (y1 : how ≤ 9223372036854775807) (z0 : -9223372036854775808 ≤ by_) (z1 : by_ ≤ 9223372036854775807)
    (ht : ∀ e ∈ l, -1000000000000 ≤ e.tm ∧ e.tm ≤ 1000000000000) (w : World) (h1 : RL KE w a1 l) :
    Calls Tryd.prog 13 #[.slice a1 l.length c1, .int .i64 at_, .int .i64 how, .int .i64 by_] w (EvsPost w (bentN l at_ how by_)) := by
  obtain ⟨w1, V1, Z1, K1, B1⟩ := lay8 w [] 46
  go_enter Tryd.func13, Tryd.ntmps13
  have HO1 := Lib.hid (show Own KE w1 w.heap.size (.slice (some ⟨w.heap.size, 0, none⟩) 0 0) [] by rw [← V1]; exact KE.new w w.heap.size [] (Nat.le_refl _) (by simp) [] rfl 46 rfl 0 rfl)
  have HRB := Lib.hid (h1.below B1)
  have HB1 := Lib.hid B1
  clear K1 B1 h1
  go_upto_region 2 with (at_builtin; refine walk_arg8 KE rfl _ _ rfl w.heap.size (.slice (some ⟨w.heap.size, 0, none⟩) 0 0) l rfl HO1.out (by omega) a1 c1 rfl HRB.out hn1 (by omega) ?_; intro v2 w2 ho2 hb2)
  have HB2 := Lib.hid (show Below w.heap.size w w2 from HB1.out.trans hb2)
  have HOV := Lib.hid ho2
  rcases Nat.eq_zero_or_pos l.length with hl0 | hl0
  · obtain rfl : l = [] := List.length_eq_zero_iff.1 hl0
    obtain ⟨ad, cc, e2, hcc, hrn⟩ := ho2.rn
    subst e2
    have HP := Lib.hid (show EvsPost w (bentN [] at_ how by_) (.returned (.slice ad ([] : List Ev).length cc)) w2 from by
      refine ⟨ad, cc, rfl, hcc, fun e => ?_, .inl rfl, HB2.out⟩
      subst e
      have h := HOV.out
      rcases h.2 with ⟨hv, _⟩ | ⟨g, cap, cur, hv, _⟩
      · injection hv with _ _ e3
      · injection hv with e1 _ _; cases e1)
    clear ho2 hb2 hcc hrn hl0 V1 Z1 HO1 HRB HB1 ht
    go_wp2_with fail
    go_ret
    exact HP.out
  · obtain ⟨g, cc, e2, _, hgb, hgl⟩ := ho2.block hl0
    subst e2
    have p0 := pick8_lo (c := at_) (n := (l.length : Nat)) (by omega)
    have p1 := pick8_hi (c := at_) (n := (l.length : Nat)) (by omega)
    obtain ⟨q, hq⟩ := Int.eq_ofNat_of_zero_le p0
    have hql : q < l.length := by omega
    have HPA := Lib.hid (fun W => pickR8_any at_ (l.length : Nat) x0 x1 (by omega) (by omega) W)
    have HPH := Lib.hid (fun W => pickR8_any how 4 y0 y1 (by decide) (by decide) W)
    have HPZ := Lib.hid (fun (m : Int) (hm : 1 ≤ m) (hm2 : m ≤ 10000) W => pickR8_any by_ m z0 z1 hm (by omega) W)
    rw [hq] at HPA
    have HBN := Lib.hid (show bentN l at_ how by_ = l.set q (flr8 (bent1 (evD l q) how by_)) by unfold bentN; rw [if_neg (fun e => by rw [e] at hql; exact Nat.not_lt_zero _ hql), hq, Int.toNat_natCast])
    have hne : ((l.length : Int) == 0) = false := by rw [beq_eq_false_iff_ne]; omega
    have hE : evD l q = l[q] := evD_of hql
    have ht2 := ht _ (List.getElem_mem hql)
    obtain ⟨t0, t1⟩ := ht2
    have hcl := fun j (hj : j < 12) => ho2.cell q hql j hj
    have k2 : w2.cell? ⟨g, 12 * q + 2, none⟩ = some (.int .i64 l[q].tm) := (hcl 2 (by decide)).1
    have k3 : w2.cell? ⟨g, 12 * q + 3, none⟩ = some (.int .i64 l[q].kd) := (hcl 3 (by decide)).1
    have k6 : w2.cell? ⟨g, 12 * q + 6, none⟩ = some (.int .i64 l[q].lk) := (hcl 6 (by decide)).1
    have k7 : w2.cell? ⟨g, 12 * q + 7, none⟩ = some (.int .i64 l[q].gn) := (hcl 7 (by decide)).1
    have f2 : w2.frozen? ⟨g, 12 * q + 2, none⟩ = false := (hcl 2 (by decide)).2
    have f6 : w2.frozen? ⟨g, 12 * q + 6, none⟩ = false := (hcl 6 (by decide)).2
    have f7 : w2.frozen? ⟨g, 12 * q + 7, none⟩ = false := (hcl 7 (by decide)).2
    have HQ := Lib.hid hql
    have HEV := Lib.hid (show ∀ (W : World) (y : List Ev), y.length = l.length → Below w.heap.size w W → Own KE W w.heap.size (.slice (some ⟨g, 0, none⟩) l.length cc) y → EvsPost w y (.returned (.slice (some ⟨g, 0, none⟩) l.length cc)) W from fun W y _ b h => Own.evs8 b rfl h)
    rw [← hE] at k2 k3 k6 k7 t0 t1
    have HLQ := Lib.hid (show l[q]'HQ.out = evD l q from hE.symm)
    have HOE := Lib.hid (show ∀ (j : Nat) (hj : j < 12) (y : Ev) (u : Value), y.cells = (evD l q).cells.set j u → Own KE (w2.setCell ⟨g, 12 * q + j, none⟩ u) w.heap.size (.slice (some ⟨g, 0, none⟩) l.length cc) (l.set q y) from fun j hj y u he => (HOV.out.put q HQ.out j hj y u (by rw [hE] at he; exact he)).1)
    have HO2 := Lib.hid (show Own KE w2 w.heap.size (.slice (some ⟨g, 0, none⟩) l.length cc) (l.set q (evD l q)) by rw [hE, List.set_getElem_self]; exact HOV.out)
    have iq := fun W => at_ev8 g 0 l.length cc q hql W
    simp only [Nat.zero_add] at iq
    have HGB := Lib.hid hgb
    have HLS := Lib.hid (show ∀ y : Ev, (l.set q y).length = l.length from fun y => List.length_set)
    have HDEF := Lib.hid (show bent1 (evD l q) how by_ = if pick8 how 4 = 0 then { evD l q with tm := pick8 by_ 2000 } else if pick8 how 4 = 1 then { evD l q with tm := (evD l q).tm + pick8 by_ 5 - 2 } else if pick8 how 4 = 2 then (if (evD l q).kd = 3 ∨ (evD l q).kd = 4 ∨ (evD l q).kd = 5 ∨ (evD l q).kd = 6 then { evD l q with lk := pick8 by_ 4 } else evD l q) else (if (evD l q).kd = 5 ∨ (evD l q).kd = 6 then { evD l q with gn := pick8 by_ 4 } else evD l q) from rfl)
    have h0 := pick8_lo (c := how) (n := 4) (by decide)
    have h4 := pick8_hi (c := how) (n := 4) (by decide)
    generalize evD l q = E at *
    generalize bent1 E how by_ = E1 at *
    generalize pick8 how 4 = H at *
    have hH : H = 0 ∨ H = 1 ∨ H = 2 ∨ H = 3 := by omega
    clear ho2 hb2 hcl hE ht p0 p1 hq h0 h4 V1 Z1 HO1 HRB HB1 hl0 hql
    rcases hH with rfl | rfl | rfl | rfl
    · have HE1 := Lib.hid (show E1 = { E with tm := pick8 by_ 2000 } by rw [HDEF.out]; rw [if_pos rfl])
      have HPB := Lib.hid (HPZ.out 2000 (by decide) (by decide))
      have r0 := pick8_lo (c := by_) (n := 2000) (by decide)
      have r1 := pick8_hi (c := by_) (n := 2000) (by decide)
      generalize pick8 by_ 2000 = P at *
      have ng : ¬ P < 0 := by omega
      have ng2 : decide (P < 0) = false := decide_eq_false ng
      have HF := Lib.hid (show flr8 E1 = { E with tm := P } by rw [HE1.out]; unfold flr8; rw [if_neg ng])
      have HPST := Lib.hid (show EvsPost w (bentN l at_ how by_) (.returned (.slice (some ⟨g, 0, none⟩) l.length cc)) (w2.setCell ⟨g, 12 * q + 2, none⟩ (.int .i64 P)) by rw [HBN.out, HF.out]; exact HEV.out _ _ (HLS.out _) (HB2.out.setCell HGB.out _) (HOE.out 2 (by decide) { E with tm := P } (.int .i64 P) rfl))
      go_wp2_with (first | (go_at_call 38; (first | (with_reducible refine (HPA.out _).mono ?_) | (with_reducible refine (HPH.out _).mono ?_) | (with_reducible refine (HPB.out _).mono ?_)); rintro e z ⟨rfl, rfl⟩))
      go_ret
      exact HPST.out
    · have HE1 := Lib.hid (show E1 = { E with tm := E.tm + pick8 by_ 5 - 2 } by rw [HDEF.out]; rw [if_neg (by decide), if_pos rfl])
      have HPB := Lib.hid (HPZ.out 5 (by decide) (by decide))
      have r0 := pick8_lo (c := by_) (n := 5) (by decide)
      have r1 := pick8_hi (c := by_) (n := 5) (by decide)
      generalize pick8 by_ 5 = P at *
      have HPX := Lib.hid (show ∀ wx, Own KE wx w.heap.size (.slice (some ⟨g, 0, none⟩) l.length cc) l → Own KE (wx.setCell ⟨g, 12 * q + 2, none⟩ (.int .i64 (E.tm + P - 2))) w.heap.size (.slice (some ⟨g, 0, none⟩) l.length cc) (l.set q { E with tm := E.tm + P - 2 }) from fun wx h => (h.put q HQ.out 2 (by decide) { E with tm := E.tm + P - 2 } _ (HLQ.out ▸ rfl)).1)
      have hs1 := wrapq8 (x := E.tm + P) (by omega); have hs2 := wrapq8 (x := E.tm + P - 2) (by omega)
      go_upto_region 9 with (first | (go_at_call 38; (first | (with_reducible refine (HPA.out _).mono ?_) | (with_reducible refine (HPH.out _).mono ?_) | (with_reducible refine (HPB.out _).mono ?_)); rintro e z ⟨rfl, rfl⟩))
      refine wp_region_noPanic ?_
      refine wp_region_Kx (C := Grew w2) [11, 12, 13] 11 #[false, false, false, false, false, false, false, false, false, false, false, false, false, false] (by kernel_rfl) (by kernel_rfl) (by kernel_rfl) (grew0 _) ?_
      intro wx hwx
      have HBX := Lib.hid (HB2.out.trans (hwx.below.mono HB2.out.size))
      have HOX := Lib.hid (HOV.out.below hwx.below (Nat.le_refl _))
      have hlt2 := World.block_lt_of_cell? w2 ⟨g, 12 * q + 2, none⟩ k2
      have k2x : wx.cell? ⟨g, 12 * q + 2, none⟩ = some (.int .i64 E.tm) := (hwx.below.cell (p := ⟨g, 12 * q + 2, none⟩) hlt2).trans k2
      have f2x : wx.frozen? ⟨g, 12 * q + 2, none⟩ = false := (hwx.below.frozen (p := ⟨g, 12 * q + 2, none⟩) hlt2).trans f2
      refine wpAnyK_ex (i := 0) rfl (by kernel_rfl) (listed' := #[true, false, false, false, false, false, false, false, false, false, false, false, false, false]) rfl (fun _ _ _ _ _ h => h) hwx ?_
      apply Exists.intro
      refine ⟨⟨by rfl, fun wy hw => ?_⟩, ?_⟩
      · (have bw := hw.below; go_simp; try (first | (with_reducible rfl) | (with_reducible exact ⟨rfl, rfl⟩)))
      try simp only [Act.put]
      refine wpAnyK_ex (i := 1) rfl (by kernel_rfl) (listed' := #[true, true, false, false, false, false, false, false, false, false, false, false, false, false]) rfl (fun _ _ _ _ _ h => h) hwx ?_
      apply Exists.intro
      refine ⟨⟨by rfl, fun wy hw => ?_⟩, ?_⟩
      · (have bw := hw.below; go_simp; try (first | (with_reducible rfl) | (with_reducible exact ⟨rfl, rfl⟩)))
      try simp only [Act.put]
      refine wpAnyK_ex (i := 2) rfl (by kernel_rfl) (listed' := #[true, true, true, false, false, false, false, false, false, false, false, false, false, false]) rfl (fun _ _ _ _ _ h => h) hwx ?_
      apply Exists.intro
      refine ⟨⟨by rfl, fun wy hw => ?_⟩, ?_⟩
      · (have bw := hw.below; go_simp; try (first | (with_reducible rfl) | (with_reducible exact ⟨rfl, rfl⟩)))
      try simp only [Act.put]
      refine wpAnyK_ex (i := 3) rfl (by kernel_rfl) (listed' := #[true, true, true, true, false, false, false, false, false, false, false, false, false, false]) rfl (fun _ _ _ _ _ h => h) hwx ?_
      apply Exists.intro
      refine ⟨⟨by rfl, fun wy hw => ?_⟩, ?_⟩
      · (have bw := hw.below; go_simp; try (first | (with_reducible rfl) | (with_reducible exact ⟨rfl, rfl⟩)))
      try simp only [Act.put]
      refine wpAnyK_ex (i := 4) rfl (by kernel_rfl) (listed' := #[true, true, true, true, true, false, false, false, false, false, false, false, false, false]) rfl (fun _ _ _ _ _ h => h) hwx ?_
      apply Exists.intro
      refine ⟨⟨by rfl, fun wy hw => ?_⟩, ?_⟩
      · (have bw := hw.below; go_simp; try (first | (with_reducible rfl) | (with_reducible exact ⟨rfl, rfl⟩)))
      try simp only [Act.put]
      refine wpAnyK_ex (i := 5) rfl (by kernel_rfl) (listed' := #[true, true, true, true, true, true, false, false, false, false, false, false, false, false]) rfl (fun _ _ _ _ _ h => h) hwx ?_
      apply Exists.intro
      refine ⟨⟨by rfl, fun wy hw => ?_⟩, ?_⟩
      · (have bw := hw.below; go_simp; try (first | (with_reducible rfl) | (with_reducible exact ⟨rfl, rfl⟩)))
      try simp only [Act.put]
      refine wpAnyK_ex (i := 6) rfl (by kernel_rfl) (listed' := #[true, true, true, true, true, true, true, false, false, false, false, false, false, false]) rfl (fun _ _ _ _ _ h => h) hwx ?_
      apply Exists.intro
      refine ⟨⟨by rfl, fun wy hw => ?_⟩, ?_⟩
      · (have bw := hw.below; have k2y := (bw.cell (p := ⟨g, 12 * q + 2, none⟩) hlt2).trans k2; go_simp; try (first | (with_reducible rfl) | (with_reducible exact ⟨rfl, rfl⟩)))
      try simp only [Act.put]
      refine wpAnyK_ex (i := 7) rfl (by kernel_rfl) (listed' := #[true, true, true, true, true, true, true, true, false, false, false, false, false, false]) rfl (fun _ _ _ _ _ h => h) hwx ?_
      apply Exists.intro
      refine ⟨⟨by rfl, fun wy hw => ?_⟩, ?_⟩
      · (have bw := hw.below; go_simp; try (first | (with_reducible rfl) | (with_reducible exact ⟨rfl, rfl⟩)))
      try simp only [Act.put]
      refine wpAnyK_callx (i := 8) rfl (by kernel_rfl) (listed' := #[true, true, true, true, true, true, true, true, true, false, false, false, false, false]) rfl (fun _ _ _ _ _ h => h) hwx ?_
      apply Exists.intro
      apply Exists.intro
      apply Exists.intro
      refine ⟨⟨by rfl, fun wy hw => ?_, fun wy hw => ?_⟩, ?_⟩
      · (have bw := hw.below; go_simp; try (first | (with_reducible rfl) | (with_reducible exact ⟨rfl, rfl⟩)))
      · (exact (HPB.out _).mono (fun e w2 h => ⟨h.1, h.2.symm⟩))
      try simp only [Act.put]
      refine wpAnyK_ex (i := 9) rfl (by kernel_rfl) (listed' := #[true, true, true, true, true, true, true, true, true, true, false, false, false, false]) rfl (fun _ _ _ _ _ h => h) hwx ?_
      apply Exists.intro
      refine ⟨⟨by rfl, fun wy hw => ?_⟩, ?_⟩
      · (have bw := hw.below; go_simp; try (first | (with_reducible rfl) | (with_reducible exact ⟨rfl, rfl⟩)))
      try simp only [Act.put]
      refine wpAnyK_ex (i := 10) rfl (by kernel_rfl) (listed' := #[true, true, true, true, true, true, true, true, true, true, true, false, false, false]) rfl (fun _ _ _ _ _ h => h) hwx ?_
      apply Exists.intro
      refine ⟨⟨by rfl, fun wy hw => ?_⟩, ?_⟩
      · (have bw := hw.below; go_simp; try (first | (with_reducible rfl) | (with_reducible exact ⟨rfl, rfl⟩)))
      try simp only [Act.put]
      refine wpAnyK_end (by kernel_rfl) ?_
      try simp only [pickOps, List.filterMap_cons, List.filterMap_nil, List.getElem?_toArray, List.getElem?_cons_succ, List.getElem?_cons_zero]
      clear hwx
      go_wp2_with fail
      refine NoPanic.normal ?_
      go_upto_region 16 with fail
      obtain ⟨w9, hw9⟩ : ∃ w9, w9 = wx.setCell ⟨g, 12 * q + 2, none⟩ (.int .i64 (E.tm + P - 2)) := ⟨_, rfl⟩
      rw [← hw9]
      have HO9 := Lib.hid (show Own KE w9 w.heap.size (.slice (some ⟨g, 0, none⟩) l.length cc) (l.set q { E with tm := E.tm + P - 2 }) by rw [hw9]; exact HPX.out wx HOX.out)
      have HB9 := Lib.hid (show Below w.heap.size w w9 by rw [hw9]; exact HBX.out.setCell HGB.out _)
      clear hw9 k2x f2x hlt2
      clear k2 k3 k6 k7 f2 f6 f7
      have hc9 := HO9.out.cell q (by rw [HLS.out]; exact HQ.out) 2 (by decide)
      have e9 : (l.set q { E with tm := E.tm + P - 2 })[q]'(by rw [HLS.out]; exact HQ.out) = { E with tm := E.tm + P - 2 } := List.getElem_set_self _
      rw [e9] at hc9
      have k2 : w9.cell? ⟨g, 12 * q + 2, none⟩ = some (.int .i64 (E.tm + P - 2)) := hc9.1
      have f2 : w9.frozen? ⟨g, 12 * q + 2, none⟩ = false := hc9.2
      clear hc9 e9
      by_cases ng : E.tm + P - 2 < 0
      · have HPST := Lib.hid (show EvsPost w (bentN l at_ how by_) (.returned (.slice (some ⟨g, 0, none⟩) l.length cc)) (w9.setCell ⟨g, 12 * q + 2, none⟩ (.int .i64 0)) by
          rw [HBN.out, HE1.out]
          unfold flr8
          rw [if_pos ng]
          have hp := (HO9.out.put q (by rw [HLS.out]; exact HQ.out) 2 (by decide) { E with tm := 0 } (.int .i64 0) (by rw [List.getElem_set_self]; rfl)).1
          rw [List.set_set] at hp
          exact HEV.out _ _ (HLS.out _) (HB9.out.setCell HGB.out _) hp)
        go_wp2_with fail
        go_ret
        exact HPST.out
      · have ng2 : decide (E.tm + P - 2 < 0) = false := decide_eq_false ng
        have HPST := Lib.hid (show EvsPost w (bentN l at_ how by_) (.returned (.slice (some ⟨g, 0, none⟩) l.length cc)) w9 by
          rw [HBN.out, HE1.out]
          unfold flr8
          rw [if_neg ng]
          exact HEV.out _ _ (HLS.out _) HB9.out HO9.out)
        go_wp2_with fail
        go_ret
        exact HPST.out
    · have HD := Lib.hid (show E1 = if E.kd = 3 ∨ E.kd = 4 ∨ E.kd = 5 ∨ E.kd = 6 then { E with lk := pick8 by_ 4 } else E by rw [HDEF.out]; rw [if_neg (by decide), if_neg (by decide), if_pos rfl])
      have HPB := Lib.hid (HPZ.out 4 (by decide) (by decide))
      generalize pick8 by_ 4 = P at *
      cases q3 : (E.kd == 3) with
      | true =>
        have HE1 := Lib.hid (show E1 = { E with lk := P } by rw [HD.out, if_pos (by rw [beq_iff_eq] at q3; omega)])
        by_cases ng : E.tm < 0
        · have HPST := Lib.hid (show EvsPost w (bentN l at_ how by_) (.returned (.slice (some ⟨g, 0, none⟩) l.length cc)) ((w2.setCell ⟨g, 12 * q + 6, none⟩ (.int .i64 P)).setCell ⟨g, 12 * q + 2, none⟩ (.int .i64 0)) by
            have HX := (HOE.out 6 (by decide) ({ E with lk := P } : Ev) (.int .i64 P) rfl)
            have hp := (HX.put q (by rw [HLS.out]; exact HQ.out) 2 (by decide) ({ E with lk := P, tm := 0 } : Ev) (.int .i64 0) (by rw [List.getElem_set_self]; rfl)).1
            rw [List.set_set] at hp
            have e1 : flr8 E1 = ({ E with lk := P, tm := 0 } : Ev) := by rw [HE1.out]; unfold flr8; rw [if_pos ng]
            rw [HBN.out, e1]
            exact HEV.out _ _ (HLS.out _) (((HB2.out.setCell HGB.out _)).setCell HGB.out _) hp)
          go_wp2_with (first | (go_at_call 38; (first | (with_reducible refine (HPA.out _).mono ?_) | (with_reducible refine (HPH.out _).mono ?_) | (with_reducible refine (HPB.out _).mono ?_)); rintro e z ⟨rfl, rfl⟩))
          go_ret
          exact HPST.out
        · have ng2 : decide (E.tm < 0) = false := decide_eq_false ng
          have HPST := Lib.hid (show EvsPost w (bentN l at_ how by_) (.returned (.slice (some ⟨g, 0, none⟩) l.length cc)) (w2.setCell ⟨g, 12 * q + 6, none⟩ (.int .i64 P)) by
            have e1 : flr8 E1 = { E with lk := P } := by rw [HE1.out]; unfold flr8; rw [if_neg ng]
            rw [HBN.out, e1]
            exact HEV.out _ _ (HLS.out _) ((HB2.out.setCell HGB.out _)) (HOE.out 6 (by decide) ({ E with lk := P } : Ev) (.int .i64 P) rfl))
          go_wp2_with (first | (go_at_call 38; (first | (with_reducible refine (HPA.out _).mono ?_) | (with_reducible refine (HPH.out _).mono ?_) | (with_reducible refine (HPB.out _).mono ?_)); rintro e z ⟨rfl, rfl⟩))
          go_ret
          exact HPST.out
      | false =>
        cases q4 : (E.kd == 4) with
        | true =>
          have HE1 := Lib.hid (show E1 = { E with lk := P } by rw [HD.out, if_pos (by rw [beq_iff_eq] at q4; omega)])
          by_cases ng : E.tm < 0
          · have HPST := Lib.hid (show EvsPost w (bentN l at_ how by_) (.returned (.slice (some ⟨g, 0, none⟩) l.length cc)) ((w2.setCell ⟨g, 12 * q + 6, none⟩ (.int .i64 P)).setCell ⟨g, 12 * q + 2, none⟩ (.int .i64 0)) by
              have HX := (HOE.out 6 (by decide) ({ E with lk := P } : Ev) (.int .i64 P) rfl)
              have hp := (HX.put q (by rw [HLS.out]; exact HQ.out) 2 (by decide) ({ E with lk := P, tm := 0 } : Ev) (.int .i64 0) (by rw [List.getElem_set_self]; rfl)).1
              rw [List.set_set] at hp
              have e1 : flr8 E1 = ({ E with lk := P, tm := 0 } : Ev) := by rw [HE1.out]; unfold flr8; rw [if_pos ng]
              rw [HBN.out, e1]
              exact HEV.out _ _ (HLS.out _) (((HB2.out.setCell HGB.out _)).setCell HGB.out _) hp)
            go_wp2_with (first | (go_at_call 38; (first | (with_reducible refine (HPA.out _).mono ?_) | (with_reducible refine (HPH.out _).mono ?_) | (with_reducible refine (HPB.out _).mono ?_)); rintro e z ⟨rfl, rfl⟩))
            go_ret
            exact HPST.out
          · have ng2 : decide (E.tm < 0) = false := decide_eq_false ng
            have HPST := Lib.hid (show EvsPost w (bentN l at_ how by_) (.returned (.slice (some ⟨g, 0, none⟩) l.length cc)) (w2.setCell ⟨g, 12 * q + 6, none⟩ (.int .i64 P)) by
              have e1 : flr8 E1 = { E with lk := P } := by rw [HE1.out]; unfold flr8; rw [if_neg ng]
              rw [HBN.out, e1]
              exact HEV.out _ _ (HLS.out _) ((HB2.out.setCell HGB.out _)) (HOE.out 6 (by decide) ({ E with lk := P } : Ev) (.int .i64 P) rfl))
            go_wp2_with (first | (go_at_call 38; (first | (with_reducible refine (HPA.out _).mono ?_) | (with_reducible refine (HPH.out _).mono ?_) | (with_reducible refine (HPB.out _).mono ?_)); rintro e z ⟨rfl, rfl⟩))
            go_ret
            exact HPST.out
        | false =>
          cases q5 : (E.kd == 5) with
          | true =>
            have HE1 := Lib.hid (show E1 = { E with lk := P } by rw [HD.out, if_pos (by rw [beq_iff_eq] at q5; omega)])
            by_cases ng : E.tm < 0
            · have HPST := Lib.hid (show EvsPost w (bentN l at_ how by_) (.returned (.slice (some ⟨g, 0, none⟩) l.length cc)) ((w2.setCell ⟨g, 12 * q + 6, none⟩ (.int .i64 P)).setCell ⟨g, 12 * q + 2, none⟩ (.int .i64 0)) by
                have HX := (HOE.out 6 (by decide) ({ E with lk := P } : Ev) (.int .i64 P) rfl)
                have hp := (HX.put q (by rw [HLS.out]; exact HQ.out) 2 (by decide) ({ E with lk := P, tm := 0 } : Ev) (.int .i64 0) (by rw [List.getElem_set_self]; rfl)).1
                rw [List.set_set] at hp
                have e1 : flr8 E1 = ({ E with lk := P, tm := 0 } : Ev) := by rw [HE1.out]; unfold flr8; rw [if_pos ng]
                rw [HBN.out, e1]
                exact HEV.out _ _ (HLS.out _) (((HB2.out.setCell HGB.out _)).setCell HGB.out _) hp)
              go_wp2_with (first | (go_at_call 38; (first | (with_reducible refine (HPA.out _).mono ?_) | (with_reducible refine (HPH.out _).mono ?_) | (with_reducible refine (HPB.out _).mono ?_)); rintro e z ⟨rfl, rfl⟩))
              go_ret
              exact HPST.out
            · have ng2 : decide (E.tm < 0) = false := decide_eq_false ng
              have HPST := Lib.hid (show EvsPost w (bentN l at_ how by_) (.returned (.slice (some ⟨g, 0, none⟩) l.length cc)) (w2.setCell ⟨g, 12 * q + 6, none⟩ (.int .i64 P)) by
                have e1 : flr8 E1 = { E with lk := P } := by rw [HE1.out]; unfold flr8; rw [if_neg ng]
                rw [HBN.out, e1]
                exact HEV.out _ _ (HLS.out _) ((HB2.out.setCell HGB.out _)) (HOE.out 6 (by decide) ({ E with lk := P } : Ev) (.int .i64 P) rfl))
              go_wp2_with (first | (go_at_call 38; (first | (with_reducible refine (HPA.out _).mono ?_) | (with_reducible refine (HPH.out _).mono ?_) | (with_reducible refine (HPB.out _).mono ?_)); rintro e z ⟨rfl, rfl⟩))
              go_ret
              exact HPST.out
          | false =>
            cases q6 : (E.kd == 6) with
            | true =>
              have HE1 := Lib.hid (show E1 = { E with lk := P } by rw [HD.out, if_pos (by rw [beq_iff_eq] at q6; omega)])
              by_cases ng : E.tm < 0
              · have HPST := Lib.hid (show EvsPost w (bentN l at_ how by_) (.returned (.slice (some ⟨g, 0, none⟩) l.length cc)) ((w2.setCell ⟨g, 12 * q + 6, none⟩ (.int .i64 P)).setCell ⟨g, 12 * q + 2, none⟩ (.int .i64 0)) by
                  have HX := (HOE.out 6 (by decide) ({ E with lk := P } : Ev) (.int .i64 P) rfl)
                  have hp := (HX.put q (by rw [HLS.out]; exact HQ.out) 2 (by decide) ({ E with lk := P, tm := 0 } : Ev) (.int .i64 0) (by rw [List.getElem_set_self]; rfl)).1
                  rw [List.set_set] at hp
                  have e1 : flr8 E1 = ({ E with lk := P, tm := 0 } : Ev) := by rw [HE1.out]; unfold flr8; rw [if_pos ng]
                  rw [HBN.out, e1]
                  exact HEV.out _ _ (HLS.out _) (((HB2.out.setCell HGB.out _)).setCell HGB.out _) hp)
                go_wp2_with (first | (go_at_call 38; (first | (with_reducible refine (HPA.out _).mono ?_) | (with_reducible refine (HPH.out _).mono ?_) | (with_reducible refine (HPB.out _).mono ?_)); rintro e z ⟨rfl, rfl⟩))
                go_ret
                exact HPST.out
              · have ng2 : decide (E.tm < 0) = false := decide_eq_false ng
                have HPST := Lib.hid (show EvsPost w (bentN l at_ how by_) (.returned (.slice (some ⟨g, 0, none⟩) l.length cc)) (w2.setCell ⟨g, 12 * q + 6, none⟩ (.int .i64 P)) by
                  have e1 : flr8 E1 = { E with lk := P } := by rw [HE1.out]; unfold flr8; rw [if_neg ng]
                  rw [HBN.out, e1]
                  exact HEV.out _ _ (HLS.out _) ((HB2.out.setCell HGB.out _)) (HOE.out 6 (by decide) ({ E with lk := P } : Ev) (.int .i64 P) rfl))
                go_wp2_with (first | (go_at_call 38; (first | (with_reducible refine (HPA.out _).mono ?_) | (with_reducible refine (HPH.out _).mono ?_) | (with_reducible refine (HPB.out _).mono ?_)); rintro e z ⟨rfl, rfl⟩))
                go_ret
                exact HPST.out
            | false =>
              have HE1 := Lib.hid (show E1 = E by rw [HD.out, if_neg (by simp only [beq_eq_false_iff_ne] at q3 q4 q5 q6; omega)])
              by_cases ng : E.tm < 0
              · have HPST := Lib.hid (show EvsPost w (bentN l at_ how by_) (.returned (.slice (some ⟨g, 0, none⟩) l.length cc)) ((w2).setCell ⟨g, 12 * q + 2, none⟩ (.int .i64 0)) by
                  have HX := HO2.out
                  have hp := (HX.put q (by rw [HLS.out]; exact HQ.out) 2 (by decide) ({ E with tm := 0 } : Ev) (.int .i64 0) (by rw [List.getElem_set_self]; rfl)).1
                  rw [List.set_set] at hp
                  have e1 : flr8 E1 = ({ E with tm := 0 } : Ev) := by rw [HE1.out]; unfold flr8; rw [if_pos ng]
                  rw [HBN.out, e1]
                  exact HEV.out _ _ (HLS.out _) ((HB2.out).setCell HGB.out _) hp)
                go_wp2_with (first | (go_at_call 38; (first | (with_reducible refine (HPA.out _).mono ?_) | (with_reducible refine (HPH.out _).mono ?_) | (with_reducible refine (HPB.out _).mono ?_)); rintro e z ⟨rfl, rfl⟩))
                go_ret
                exact HPST.out
              · have ng2 : decide (E.tm < 0) = false := decide_eq_false ng
                have HPST := Lib.hid (show EvsPost w (bentN l at_ how by_) (.returned (.slice (some ⟨g, 0, none⟩) l.length cc)) (w2) by
                  have e1 : flr8 E1 = E := by rw [HE1.out]; unfold flr8; rw [if_neg ng]
                  rw [HBN.out, e1]
                  exact HEV.out _ _ (HLS.out _) (HB2.out) HO2.out)
                go_wp2_with (first | (go_at_call 38; (first | (with_reducible refine (HPA.out _).mono ?_) | (with_reducible refine (HPH.out _).mono ?_) | (with_reducible refine (HPB.out _).mono ?_)); rintro e z ⟨rfl, rfl⟩))
                go_ret
                exact HPST.out
    · have HD := Lib.hid (show E1 = if E.kd = 5 ∨ E.kd = 6 then { E with gn := pick8 by_ 4 } else E by rw [HDEF.out]; rw [if_neg (by decide), if_neg (by decide), if_neg (by decide)])
      have HPB := Lib.hid (HPZ.out 4 (by decide) (by decide))
      generalize pick8 by_ 4 = P at *
      cases q5 : (E.kd == 5) with
      | true =>
        have HE1 := Lib.hid (show E1 = { E with gn := P } by rw [HD.out, if_pos (by rw [beq_iff_eq] at q5; omega)])
        by_cases ng : E.tm < 0
        · have HPST := Lib.hid (show EvsPost w (bentN l at_ how by_) (.returned (.slice (some ⟨g, 0, none⟩) l.length cc)) ((w2.setCell ⟨g, 12 * q + 7, none⟩ (.int .i64 P)).setCell ⟨g, 12 * q + 2, none⟩ (.int .i64 0)) by
            have HX := (HOE.out 7 (by decide) ({ E with gn := P } : Ev) (.int .i64 P) rfl)
            have hp := (HX.put q (by rw [HLS.out]; exact HQ.out) 2 (by decide) ({ E with gn := P, tm := 0 } : Ev) (.int .i64 0) (by rw [List.getElem_set_self]; rfl)).1
            rw [List.set_set] at hp
            have e1 : flr8 E1 = ({ E with gn := P, tm := 0 } : Ev) := by rw [HE1.out]; unfold flr8; rw [if_pos ng]
            rw [HBN.out, e1]
            exact HEV.out _ _ (HLS.out _) (((HB2.out.setCell HGB.out _)).setCell HGB.out _) hp)
          go_wp2_with (first | (go_at_call 38; (first | (with_reducible refine (HPA.out _).mono ?_) | (with_reducible refine (HPH.out _).mono ?_) | (with_reducible refine (HPB.out _).mono ?_)); rintro e z ⟨rfl, rfl⟩))
          go_ret
          exact HPST.out
        · have ng2 : decide (E.tm < 0) = false := decide_eq_false ng
          have HPST := Lib.hid (show EvsPost w (bentN l at_ how by_) (.returned (.slice (some ⟨g, 0, none⟩) l.length cc)) (w2.setCell ⟨g, 12 * q + 7, none⟩ (.int .i64 P)) by
            have e1 : flr8 E1 = { E with gn := P } := by rw [HE1.out]; unfold flr8; rw [if_neg ng]
            rw [HBN.out, e1]
            exact HEV.out _ _ (HLS.out _) ((HB2.out.setCell HGB.out _)) (HOE.out 7 (by decide) ({ E with gn := P } : Ev) (.int .i64 P) rfl))
          go_wp2_with (first | (go_at_call 38; (first | (with_reducible refine (HPA.out _).mono ?_) | (with_reducible refine (HPH.out _).mono ?_) | (with_reducible refine (HPB.out _).mono ?_)); rintro e z ⟨rfl, rfl⟩))
          go_ret
          exact HPST.out
      | false =>
        cases q6 : (E.kd == 6) with
        | true =>
          have HE1 := Lib.hid (show E1 = { E with gn := P } by rw [HD.out, if_pos (by rw [beq_iff_eq] at q6; omega)])
          by_cases ng : E.tm < 0
          · have HPST := Lib.hid (show EvsPost w (bentN l at_ how by_) (.returned (.slice (some ⟨g, 0, none⟩) l.length cc)) ((w2.setCell ⟨g, 12 * q + 7, none⟩ (.int .i64 P)).setCell ⟨g, 12 * q + 2, none⟩ (.int .i64 0)) by
              have HX := (HOE.out 7 (by decide) ({ E with gn := P } : Ev) (.int .i64 P) rfl)
              have hp := (HX.put q (by rw [HLS.out]; exact HQ.out) 2 (by decide) ({ E with gn := P, tm := 0 } : Ev) (.int .i64 0) (by rw [List.getElem_set_self]; rfl)).1
              rw [List.set_set] at hp
              have e1 : flr8 E1 = ({ E with gn := P, tm := 0 } : Ev) := by rw [HE1.out]; unfold flr8; rw [if_pos ng]
              rw [HBN.out, e1]
              exact HEV.out _ _ (HLS.out _) (((HB2.out.setCell HGB.out _)).setCell HGB.out _) hp)
            go_wp2_with (first | (go_at_call 38; (first | (with_reducible refine (HPA.out _).mono ?_) | (with_reducible refine (HPH.out _).mono ?_) | (with_reducible refine (HPB.out _).mono ?_)); rintro e z ⟨rfl, rfl⟩))
            go_ret
            exact HPST.out
          · have ng2 : decide (E.tm < 0) = false := decide_eq_false ng
            have HPST := Lib.hid (show EvsPost w (bentN l at_ how by_) (.returned (.slice (some ⟨g, 0, none⟩) l.length cc)) (w2.setCell ⟨g, 12 * q + 7, none⟩ (.int .i64 P)) by
              have e1 : flr8 E1 = { E with gn := P } := by rw [HE1.out]; unfold flr8; rw [if_neg ng]
              rw [HBN.out, e1]
              exact HEV.out _ _ (HLS.out _) ((HB2.out.setCell HGB.out _)) (HOE.out 7 (by decide) ({ E with gn := P } : Ev) (.int .i64 P) rfl))
            go_wp2_with (first | (go_at_call 38; (first | (with_reducible refine (HPA.out _).mono ?_) | (with_reducible refine (HPH.out _).mono ?_) | (with_reducible refine (HPB.out _).mono ?_)); rintro e z ⟨rfl, rfl⟩))
            go_ret
            exact HPST.out
        | false =>
          have HE1 := Lib.hid (show E1 = E by rw [HD.out, if_neg (by simp only [beq_eq_false_iff_ne] at q5 q6; omega)])
          by_cases ng : E.tm < 0
          · have HPST := Lib.hid (show EvsPost w (bentN l at_ how by_) (.returned (.slice (some ⟨g, 0, none⟩) l.length cc)) ((w2).setCell ⟨g, 12 * q + 2, none⟩ (.int .i64 0)) by
              have HX := HO2.out
              have hp := (HX.put q (by rw [HLS.out]; exact HQ.out) 2 (by decide) ({ E with tm := 0 } : Ev) (.int .i64 0) (by rw [List.getElem_set_self]; rfl)).1
              rw [List.set_set] at hp
              have e1 : flr8 E1 = ({ E with tm := 0 } : Ev) := by rw [HE1.out]; unfold flr8; rw [if_pos ng]
              rw [HBN.out, e1]
              exact HEV.out _ _ (HLS.out _) ((HB2.out).setCell HGB.out _) hp)
            go_wp2_with (first | (go_at_call 38; (first | (with_reducible refine (HPA.out _).mono ?_) | (with_reducible refine (HPH.out _).mono ?_) | (with_reducible refine (HPB.out _).mono ?_)); rintro e z ⟨rfl, rfl⟩))
            go_ret
            exact HPST.out
          · have ng2 : decide (E.tm < 0) = false := decide_eq_false ng
            have HPST := Lib.hid (show EvsPost w (bentN l at_ how by_) (.returned (.slice (some ⟨g, 0, none⟩) l.length cc)) (w2) by
              have e1 : flr8 E1 = E := by rw [HE1.out]; unfold flr8; rw [if_neg ng]
              rw [HBN.out, e1]
              exact HEV.out _ _ (HLS.out _) (HB2.out) HO2.out)
            go_wp2_with (first | (go_at_call 38; (first | (with_reducible refine (HPA.out _).mono ?_) | (with_reducible refine (HPH.out _).mono ?_) | (with_reducible refine (HPB.out _).mono ?_)); rintro e z ⟨rfl, rfl⟩))
            go_ret
            exact HPST.out
end Go.Proofs.YtamefmojocegkaaDoor

namespace Go.Proofs.YtamefmojocegkaaDoor
open Go Go.Proofs Go.RowKit Go.Lib

end Go.Proofs.YtamefmojocegkaaDoor

namespace Go.Proofs.YtamefmojocegkaaDoor
open Go Go.Proofs Go.RowKit Go.Lib

/-! ### bent events -/
theorem evB_set {e : Ev} (h : evB e = true) {x : Int} (h0 : 0 ≤ x) (h1 : x ≤ 1000000) : evB { e with tm := x } = true := by
  unfold evB at h ⊢
  rw [Bool.and_eq_true, Bool.and_eq_true, Bool.and_eq_true, Bool.and_eq_true, Bool.and_eq_true, Bool.and_eq_true] at h ⊢
  obtain ⟨⟨⟨⟨⟨⟨k1, k2⟩, k3⟩, k4⟩, k5⟩, k6⟩, k7⟩ := h
  exact ⟨⟨⟨⟨⟨⟨k1, k2⟩, inB_yes h0 h1⟩, k4⟩, k5⟩, k6⟩, k7⟩
theorem evB_lk {e : Ev} (h : evB e = true) (hk : e.kd = 3 ∨ e.kd = 4 ∨ e.kd = 5 ∨ e.kd = 6) {x : Int} (h0 : 0 ≤ x) (h1 : x ≤ 99) : evB { e with lk := x } = true := by
  obtain ⟨ag, sq, tm, kd, tr, sp, lk, gn, op, vr, pe, bt⟩ := e
  dsimp only at hk
  unfold evB at h ⊢
  dsimp only at h ⊢
  rw [Bool.and_eq_true] at h ⊢
  refine ⟨h.1, ?_⟩
  have h2 := h.2
  rcases hk with rfl | rfl | rfl | rfl
  · simp at h2 ⊢; exact ⟨h2.1, inB_yes h0 h1, h2.2.2⟩
  · simp at h2 ⊢; exact ⟨h2.1, inB_yes h0 h1, h2.2.2⟩
  · simp at h2 ⊢; exact ⟨h2.1, inB_yes h0 h1, h2.2.2⟩
  · simp at h2 ⊢; exact ⟨h2.1, inB_yes h0 h1, h2.2.2⟩
theorem evB_gn {e : Ev} (h : evB e = true) (hk : e.kd = 5 ∨ e.kd = 6) {x : Int} (h0 : 0 ≤ x) (h1 : x ≤ 99) : evB { e with gn := x } = true := by
  obtain ⟨ag, sq, tm, kd, tr, sp, lk, gn, op, vr, pe, bt⟩ := e
  dsimp only at hk
  unfold evB at h ⊢
  dsimp only at h ⊢
  rw [Bool.and_eq_true] at h ⊢
  refine ⟨h.1, ?_⟩
  have h2 := h.2
  rcases hk with rfl | rfl
  · simp at h2 ⊢; exact ⟨h2.1, h2.2.1, inB_yes h0 h1⟩
  · simp at h2 ⊢; exact ⟨h2.1, h2.2.1, inB_yes h0 h1⟩
/-- What a bent event keeps. -/
def Same8 (e e' : Ev) : Prop := e'.ag = e.ag ∧ e'.sq = e.sq ∧ e'.tr = e.tr ∧ e'.kd = e.kd ∧ e'.op = e.op
theorem flr_same (e : Ev) : Same8 e (flr8 e) := by
  unfold flr8
  split <;> exact ⟨rfl, rfl, rfl, rfl, rfl⟩
theorem bent_same (e : Ev) (how by_ : Int) : Same8 e (flr8 (bent1 e how by_)) := by
  have h1 : Same8 e (bent1 e how by_) := by
    unfold bent1
    split
    · exact ⟨rfl, rfl, rfl, rfl, rfl⟩
    · split
      · exact ⟨rfl, rfl, rfl, rfl, rfl⟩
      · split
        · split <;> exact ⟨rfl, rfl, rfl, rfl, rfl⟩
        · split <;> exact ⟨rfl, rfl, rfl, rfl, rfl⟩
  have h2 := flr_same (bent1 e how by_)
  exact ⟨h2.1.trans h1.1, h2.2.1.trans h1.2.1, h2.2.2.1.trans h1.2.2.1, h2.2.2.2.1.trans h1.2.2.2.1, h2.2.2.2.2.trans h1.2.2.2.2⟩
theorem flr_id {e : Ev} (h : 0 ≤ e.tm) : flr8 e = e := by unfold flr8; rw [if_neg (by omega)]
theorem bent_good {e : Ev} (h : evB e = true) (h0 : 0 ≤ e.tm) (h1 : e.tm ≤ 300000) (how by_ : Int) : evB (flr8 (bent1 e how by_)) = true := by
  have p0 := pick8_lo (c := by_) (n := 2000) (by decide)
  have p1 := pick8_hi (c := by_) (n := 2000) (by decide)
  have q0 := pick8_lo (c := by_) (n := 5) (by decide)
  have q1 := pick8_hi (c := by_) (n := 5) (by decide)
  have r0 := pick8_lo (c := by_) (n := 4) (by decide)
  have r1 := pick8_hi (c := by_) (n := 4) (by decide)
  unfold bent1
  split
  · rw [flr_id p0]; exact evB_set h p0 (by omega)
  · split
    · unfold flr8
      split
      · exact evB_set h (Int.le_refl 0) (by decide)
      · rename_i hn
        exact evB_set h (by have : ¬ e.tm + pick8 by_ 5 - 2 < 0 := hn; omega) (by omega)
    · split
      · split
        · rename_i hk
          rw [flr_id (e := { e with lk := pick8 by_ 4 }) h0]
          exact evB_lk h hk r0 (by omega)
        · rw [flr_id h0]; exact h
      · split
        · rename_i hk
          rw [flr_id (e := { e with gn := pick8 by_ 4 }) h0]
          exact evB_gn h hk r0 (by omega)
        · rw [flr_id h0]; exact h
theorem bent_len (l : List Ev) (at_ how by_ : Int) : (bentN l at_ how by_).length = l.length := by
  unfold bentN
  split
  · rename_i h; rw [h]
  · simp
theorem bent_evs (n : Int) (l : List D4) (at_ how by_ : Int) : EvsOk (fleetN n) (bentN ((exN n l).map (·.e)) at_ how by_) := by
  have hx := (ex_ok n l).2.1
  have hs := evs_of (ex_hs n l)
  by_cases he : (exN n l).map (·.e) = []
  · rw [he]; unfold bentN; rw [if_pos rfl]; rw [he] at hs; exact hs
  · generalize hL : (exN n l).map (·.e) = L at *
    have hpos : 0 < L.length := List.length_pos_iff.2 he
    have p0 := pick8_lo (c := at_) (n := (L.length : Nat)) (by omega)
    have p1 := pick8_hi (c := at_) (n := (L.length : Nat)) (by omega)
    have hk : (pick8 at_ (L.length : Nat)).toNat < L.length := by omega
    unfold bentN
    rw [if_neg he]
    generalize (pick8 at_ (L.length : Nat)).toNat = k at *
    obtain ⟨E, hE⟩ : ∃ E, E = flr8 (bent1 (evD L k) how by_) := ⟨_, rfl⟩
    rw [← hE]
    have hsame : Same8 (evD L k) E := by rw [hE]; exact bent_same _ _ _
    have hmem : ∃ h, ExOk n h ∧ h.e = evD L k := by
      rw [evD_of hk]
      obtain ⟨h, hh, e⟩ := List.mem_map.1 (show L[k] ∈ (exN n l).map (·.e) from by rw [hL]; exact List.getElem_mem hk)
      exact ⟨h, hx h hh, e⟩
    have hgood : evB E = true := by
      obtain ⟨h, hh, e⟩ := hmem
      rw [hE, ← e]
      exact bent_good hh.good hh.t0.1 hh.t0.2 how by_
    have hget : ∀ i, i < L.length → evD (L.set k E) i = if k = i then E else evD L i := fun i hi => by
      rw [evD_of (by simpa using hi), List.getElem_set]
      split
      · rfl
      · rw [evD_of hi]
    have hf : ∀ i, i < L.length → (evD (L.set k E) i).ag = (evD L i).ag ∧ (evD (L.set k E) i).sq = (evD L i).sq ∧ (evD (L.set k E) i).tr = (evD L i).tr ∧ (evD (L.set k E) i).kd = (evD L i).kd ∧ (evD (L.set k E) i).op = (evD L i).op := fun i hi => by
      rw [hget i hi]
      split
      · rename_i e; subst e; exact hsame
      · exact ⟨rfl, rfl, rfl, rfl, rfl⟩
    refine ⟨hs.1, by simp; exact hs.2.1, fun i hi => ?_⟩
    rw [List.length_set] at hi
    obtain ⟨s1, s2, s3, s4, s5⟩ := hs.2.2 i hi
    obtain ⟨f1, f2, f3, f4, f5⟩ := hf i hi
    obtain ⟨_, _, g3, _, _⟩ := hf 0 hpos
    refine ⟨?_, by rw [f1]; exact s2, by rw [f3, g3]; exact s3, by rw [f4, f5]; exact s4, fun h0 => ?_⟩
    · rw [hget i hi]
      split
      · exact hgood
      · exact s1
    · obtain ⟨e1, e2, _, _, _⟩ := hf (i - 1) (by omega)
      rw [f1, f2, e1, e2]
      exact s5 h0
/-! ### constraints -/
theorem mvN_len : ∀ (b x : List Int), (mvN x b).length = x.length
  | [], x => by cases x <;> rfl
  | b :: l, x => by
    show (if x = [] then x else mvN (mv1 x b) l).length = _
    split
    · rfl
    · rw [mvN_len l, mv1_len]
theorem mvN_bd : ∀ (b x : List Int) (M : Int), (∀ i, -M ≤ x.getD i 0 ∧ x.getD i 0 ≤ M) → ∀ i, -(M + 3000000 * (b.length : Int)) ≤ (mvN x b).getD i 0 ∧ (mvN x b).getD i 0 ≤ M + 3000000 * (b.length : Int)
  | [], x, M, h, i => by
    have e : mvN x [] = x := by cases x <;> rfl
    rw [e]
    have := h i
    simp only [List.length_nil]
    omega
  | b :: l, x, M, h, i => by
    show -(M + 3000000 * ((l.length + 1 : Nat) : Int)) ≤ (if x = [] then x else mvN (mv1 x b) l).getD i 0 ∧ (if x = [] then x else mvN (mv1 x b) l).getD i 0 ≤ M + 3000000 * ((l.length + 1 : Nat) : Int)
    split
    · have := h i; omega
    · have := mvN_bd l (mv1 x b) (M + 3000000) (mv1_bd h b) i
      omega
theorem ex_times (n : Int) (l : List D4) : ∀ i, -160000000000 ≤ ((exN n l).map (·.t)).getD i 0 ∧ ((exN n l).map (·.t)).getD i 0 ≤ 160000000000 := by
  intro i
  rw [List.getD_eq_getElem?_getD]
  rcases Nat.lt_or_ge i ((exN n l).map (·.t)).length with h | h
  · rw [List.getElem?_eq_getElem h]
    have hm : ((exN n l).map (·.t))[i] ∈ (exN n l).map (·.t) := List.getElem_mem h
    obtain ⟨y, hy, e⟩ := List.mem_map.1 hm
    have := (ex_hs n l).t y hy
    show -160000000000 ≤ ((exN n l).map (·.t))[i] ∧ ((exN n l).map (·.t))[i] ≤ 160000000000
    rw [← e]
    omega
  · rw [List.getElem?_eq_none h]
    show -160000000000 ≤ (0 : Int) ∧ (0 : Int) ≤ 160000000000
    omega
theorem mv_times (n : Int) (l : List D4) (b : List Int) (hb : b.length ≤ 1000) (k : Nat) (hk : k = (exN n l).length) : timesB k (mvN ((exN n l).map (·.t)) b) = true := by
  subst hk
  unfold timesB
  rw [Bool.and_eq_true]
  refine ⟨?_, by rw [mvN_len]; simp⟩
  rw [List.all_eq_true]
  intro x hx
  obtain ⟨i, hi, rfl⟩ := List.getElem_of_mem hx
  have := mvN_bd b _ 160000000000 (ex_times n l) i
  rw [List.getD_eq_getElem?_getD, List.getElem?_eq_getElem hi] at this
  have : -(160000000000 + 3000000 * (b.length : Int)) ≤ (mvN ((exN n l).map (·.t)) b)[i] ∧ (mvN ((exN n l).map (·.t)) b)[i] ≤ 160000000000 + 3000000 * (b.length : Int) := this
  exact inB_yes (by omega) (by omega)
end Go.Proofs.YtamefmojocegkaaDoor

namespace Go.Proofs.YtamefmojocegkaaDoor
open Go Go.Proofs Go.RowKit Go.Lib Go.Sort

def KZ : RowK Sv where
  n := 1
  bytes := 24
  et := 25
  st := 35
  zero := .slice none 0 0
  cs := fun x => [.slice x.ad x.n x.c]
  len := fun _ => rfl
  one := fun x u hu => by
    simp at hu
    subst hu
    rfl
  pos := by decide
  bb := by decide
  und := by kernel_rfl
  elem := by kernel_rfl
  info := by kernel_rfl
  zs := rfl
theorem at_z8 (g n c k : Nat) (hk : k < n) (w : World) : (Instr.indexAt 35 (.slice (some ⟨g, 0, none⟩) n c) (.int .i64 (k : Int))).run Tryd.prog w = .ok (.pointer (some ⟨g, k, none⟩)) w := by
  have := KZ.at_ g 0 n c k hk w
  rw [show 0 + KZ.n * k = k by show 0 + 1 * k = _; omega] at this
  exact this
theorem wf_evs {f : Fl} {l : List Ev} (h : EvsOk f l) : evsW l := by
  intro e he
  obtain ⟨i, hi, rfl⟩ := List.getElem_of_mem he
  have hg := (h.2.2 i hi).1
  rw [evD_of hi] at hg
  have hk : l[i].kd = 1 ∨ l[i].kd = 2 ∨ l[i].kd = 3 ∨ l[i].kd = 4 ∨ l[i].kd = 5 ∨ l[i].kd = 6 ∨ l[i].kd = 7 := by
    generalize l[i] = e at *
    unfold evB at hg
    refine Classical.byContradiction fun hn => ?_
    have h1 : (e.kd == 1) = false := by rw [beq_eq_false_iff_ne]; omega
    have h2 : (e.kd == 2) = false := by rw [beq_eq_false_iff_ne]; omega
    have h3 : (e.kd == 3) = false := by rw [beq_eq_false_iff_ne]; omega
    have h4 : (e.kd == 4) = false := by rw [beq_eq_false_iff_ne]; omega
    have h5 : (e.kd == 5) = false := by rw [beq_eq_false_iff_ne]; omega
    have h6 : (e.kd == 6) = false := by rw [beq_eq_false_iff_ne]; omega
    have h7 : (e.kd == 7) = false := by rw [beq_eq_false_iff_ne]; omega
    rw [h1, h2, h3, h4, h5, h6, h7] at hg
    simp at hg
  unfold Ev.wf
  rcases hk with k | k | k | k | k | k | k <;> rw [k] <;> decide
end Go.Proofs.YtamefmojocegkaaDoor
