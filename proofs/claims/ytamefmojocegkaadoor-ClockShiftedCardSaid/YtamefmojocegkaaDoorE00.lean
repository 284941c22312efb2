/-
  Layer 8: a list copied, the law's moved; the contract of the reference's Bent.
-/
import Derived.Test.YtamefmojocegkaaDoorK04
import Derived.Deep.RegionHeld3
import Derived.Lib.QuietBelow
import Derived.Deep.DeepCutAuto
import Derived.WalkKit
import Derived.WalkLawsBesides
import Derived.Outline
import Derived.Lib.Hide
import Derived.Below
import Derived.BigQuiet
import Derived.Deep.QuietTactic
import Derived.Laws.Rows
import Derived.Laws.OwnMore
import Derived.OwnWalk
import Derived.StillTail
namespace Go.Proofs.YtamefmojocegkaaDoor
open Go Go.Proofs Go.RowKit Go.Lib

theorem take_len8 (l : List Int) (n : Nat) : (l.take n).length = if l.length < n then l.length else n := by rw [List.length_take]; split <;> omega
end Go.Proofs.YtamefmojocegkaaDoor

namespace Go.Proofs.YtamefmojocegkaaDoor
open Go Go.Proofs Go.RowKit Go.Lib

theorem RL.take8 {T : Type} {K : RowK T} {W : World} {ad : Option Addr} {l : List T} (h : RL K W ad l) (n : Nat) : RL K W ad (l.take n) := by
  rcases h with h | ⟨b, o, h1, h2, h3⟩
  · subst h; exact .inl (by simp)
  · refine .inr ⟨b, o, h1, h2, fun i hi j hj => ?_⟩
    rw [List.length_take] at hi
    rw [h3 i (by omega) j hj, List.getElem_take]
/-- Times of which some are moved. -/
def mvD (b : Int) : Int := if pick8 (b.tdiv 7) 2 = 1 then (pick8 (b.tdiv 32) 4001 - 2000) * 1000 else pick8 (b.tdiv 32) 4001 - 2000
def mv1 (x : List Int) (b : Int) : List Int := x.set (pick8 b (x.length : Nat)).toNat (x.getD (pick8 b (x.length : Nat)).toNat 0 + mvD b)
def mvN : List Int → List Int → List Int
  | x, [] => x
  | x, b :: l => if x = [] then x else mvN (mv1 x b) l
theorem mv1_len (x : List Int) (b : Int) : (mv1 x b).length = x.length := by unfold mv1; simp
theorem mvD_bd (b : Int) : -2000000 ≤ mvD b ∧ mvD b ≤ 2001000 := by
  unfold mvD
  have h1 := pick8_lo (c := b.tdiv 32) (n := 4001) (by decide)
  have h2 := pick8_hi (c := b.tdiv 32) (n := 4001) (by decide)
  split <;> omega
theorem getD_set8' {l : List Int} {i j : Nat} {x : Int} : (l.set i x).getD j 0 = if i = j ∧ i < l.length then x else l.getD j 0 := by
  rw [List.getD_eq_getElem?_getD, List.getD_eq_getElem?_getD, List.getElem?_set]
  by_cases h : i = j
  · subst h
    by_cases h2 : i < l.length
    · simp [h2]
    · rw [if_pos rfl, if_neg h2, if_neg (by omega), List.getElem?_eq_none (by omega)]
  · rw [if_neg h, if_neg (by omega)]
theorem mv1_bd {x : List Int} {M : Int} (h : ∀ i, -M ≤ x.getD i 0 ∧ x.getD i 0 ≤ M) (b : Int) : ∀ i, -(M + 3000000) ≤ (mv1 x b).getD i 0 ∧ (mv1 x b).getD i 0 ≤ M + 3000000 := by
  intro i
  have hd := mvD_bd b
  unfold mv1
  have hs := getD_set8' (l := x) (i := (pick8 b (x.length : Nat)).toNat) (j := i) (x := x.getD (pick8 b (x.length : Nat)).toNat 0 + mvD b)
  rw [hs]
  have h1 := h i
  have h2 := h (pick8 b (x.length : Nat)).toNat
  split <;> omega
set_option maxRecDepth 100000 in
set_option maxHeartbeats 8000000 in
theorem moved_any (a1 a2 : Option Addr) (c1 c2 : Nat) (x by_ : List Int) (hx : x.length ≤ 1000) (hb : by_.length ≤ 1000) (hn1 : a1 = none → c1 = 0) (hbi : ∀ b ∈ by_, -9223372036854775808 ≤ b ∧ b ≤ 9223372036854775807) (hM : ∀ i, -1000000000000000 ≤ x.getD i 0 ∧ x.getD i 0 ≤ 1000000000000000) (w : World) (h1 : RL KI w a1 x) (h2 : RL KI w a2 by_) :
    Calls Tryd.prog 33 #[.slice a1 x.length c1, .slice a2 by_.length c2] w fun e w' => ∃ ad c, e = .returned (.slice ad (mvN x by_).length c) ∧ (mvN x by_).length ≤ c ∧ Own KI w' w.heap.size (.slice ad (mvN x by_).length c) (mvN x by_) ∧ Below w.heap.size w w' := by
  have HC := Lib.hid (fun k hk => h2.int k hk)
  have HR1 := Lib.hid h1
  clear h2
  obtain ⟨w1, V1, Z1, K1, B1⟩ := lay8 w [] 3
  go_enter Tryd.func33, Tryd.ntmps33
  have HO1 := Lib.hid (show Own KI w1 w.heap.size (.slice (some ⟨w.heap.size, 0, none⟩) 0 0) [] by rw [← V1]; exact KI.new w w.heap.size [] (Nat.le_refl _) (by simp) [] rfl 3 rfl 0 rfl)
  have HRB := Lib.hid (h1.below B1)
  have HB1 := Lib.hid B1
  clear K1 B1
  go_upto_region 2 with (at_builtin; refine walk_arg8 KI rfl _ _ rfl w.heap.size (.slice (some ⟨w.heap.size, 0, none⟩) 0 0) x rfl HO1.out (by omega) a1 c1 rfl HRB.out hn1 (by omega) ?_; intro v2 w2 ho2 hb2)
  obtain ⟨ad, cc, e2, hcc⟩ := ho2.form
  subst e2
  have HO2 := Lib.hid ho2
  have HCC := Lib.hid hcc
  have HB2 := Lib.hid (show Below w.heap.size w w2 from HB1.out.trans hb2)
  have HBI := Lib.hid hbi
  clear ho2 hb2 hcc V1 HO1 HRB HR1 HB1 Z1 hbi
  go_wp2_with fail
  go_loopw [6] (fun i wr => ∃ (k : Nat) (y : List Int), k ≤ by_.length ∧ i = .int .i64 k ∧ Hid (Own KI wr w.heap.size (.slice ad x.length cc) y ∧ y.length = x.length ∧ mvN y (by_.drop k) = mvN x by_ ∧ (∀ j, -(1000000000000000 + (k : Int) * 3000000) ≤ y.getD j 0 ∧ y.getD j 0 ≤ 1000000000000000 + (k : Int) * 3000000)) ∧ Hid (Below w.heap.size w wr)) (fun i _ => by_.length - (RowKit.intOf i).toNat)
  case atStart => exact ⟨0, x, Nat.zero_le _, rfl, Lib.hid ⟨HO2.out, rfl, rfl, fun j => by have := hM j; omega⟩, HB2⟩
  case round =>
    obtain ⟨k, y, hk, rfl, HY, HB⟩ := hrel
    have HEND := Lib.hid (fun h : mvN y (by_.drop k) = y => show ∃ ad' c, Ending.returned (.slice ad x.length cc) = .returned (.slice ad' (mvN x by_).length c) ∧ (mvN x by_).length ≤ c ∧ Own KI wr w.heap.size (.slice ad' (mvN x by_).length c) (mvN x by_) ∧ Below w.heap.size w wr from by
      obtain ⟨o1, o2, o3, _⟩ := HY.out
      rw [← o3, h, o2]
      exact ⟨ad, cc, rfl, HCC.out, o1, HB.out⟩)
    by_cases hlt : k < by_.length
    · have hki : (k : Int) < (by_.length : Int) := by omega
      rcases Nat.eq_zero_or_pos x.length with hx0 | hx0
      · have hx1 : decide ((0 : Int) < (x.length : Int)) = false := decide_eq_false (by omega)
        have HF := Lib.hid (HEND.out (by
          have hy : y = [] := List.length_eq_zero_iff.1 (by rw [HY.out.2.1]; exact hx0)
          rw [hy]
          cases by_.drop k <;> rfl))
        obtain rfl : x = [] := List.length_eq_zero_iff.1 hx0
        clear hx0 hx1
        go_wp2_with fail
        go_ret
        exact HF.out
      · have hx1 : (0 : Int) < (x.length : Int) := by omega
        obtain ⟨b, o, rfl, hbb, hcb⟩ := HC.out k hlt
        have i1 := fun W => at_int8 b o by_.length c2 k hlt W
        have c0 := hcb wr HB.out
        have hdr : by_.drop k = by_[k]'hlt :: by_.drop (k + 1) := List.drop_eq_getElem_cons hlt
        obtain ⟨z0, z1⟩ := HBI.out _ (List.getElem_mem hlt)
        have HLT := Lib.hid hlt
        have HDR := Lib.hid hdr
        obtain ⟨o1, o2, o3, o4⟩ := HY.out
        generalize by_[k]'hlt = bb at *
        have p0 := pick8_lo (c := bb) (n := (x.length : Nat)) (by omega)
        have p1 := pick8_hi (c := bb) (n := (x.length : Nat)) (by omega)
        obtain ⟨q, hq⟩ := Int.eq_ofNat_of_zero_le p0
        have hqx : q < x.length := by omega
        have hqy : q < y.length := by omega
        have HPA := Lib.hid (fun W => pickL8_any bb (x.length : Nat) z0 z1 (by omega) (by omega) W)
        rw [hq] at HPA
        have t32 := tdiv8 z0 z1 32 (by decide); have t7 := tdiv8 z0 z1 7 (by decide)
        have w32 := wrapq8 (x := bb.tdiv 32) (by omega); have w7 := wrapq8 (x := bb.tdiv 7) (by omega)
        have HPB := Lib.hid (fun W => pickL8_any (bb.tdiv 32) 4001 (by omega) (by omega) (by decide) (by decide) W)
        have HPC := Lib.hid (fun W => pickL8_any (bb.tdiv 7) 2 (by omega) (by omega) (by decide) (by decide) W)
        have r0 := pick8_lo (c := bb.tdiv 32) (n := 4001) (by decide)
        have r1 := pick8_hi (c := bb.tdiv 32) (n := 4001) (by decide)
        have HMV := Lib.hid (show mvD bb = if pick8 (bb.tdiv 7) 2 = 1 then (pick8 (bb.tdiv 32) 4001 - 2000) * 1000 else pick8 (bb.tdiv 32) 4001 - 2000 from rfl)
        have HM1 := Lib.hid (show mv1 y bb = y.set q (y.getD q 0 + mvD bb) by unfold mv1; rw [o2, hq, Int.toNat_natCast])
        have HO := Lib.hid o1
        have hyne : y ≠ [] := fun e => by rw [e] at hqy; exact Nat.not_lt_zero _ hqy
        have HNX := Lib.hid (show mvN (mv1 y bb) (by_.drop (k + 1)) = mvN x by_ by rw [← o3, HDR.out]; show _ = (if y = [] then y else mvN (mv1 y bb) _); rw [if_neg hyne])
        have HBDN := Lib.hid (show ∀ j, -(1000000000000000 + ((k + 1 : Nat) : Int) * 3000000) ≤ (mv1 y bb).getD j 0 ∧ (mv1 y bb).getD j 0 ≤ 1000000000000000 + ((k + 1 : Nat) : Int) * 3000000 from fun j => by
          have := mv1_bd (M := 1000000000000000 + (k : Int) * 3000000) o4 bb j
          omega)
        obtain ⟨v1, v2⟩ := o4 q
        obtain ⟨g, cg, eg, _, hgb, hgl⟩ := o1.block (by omega)
        injection eg with eg1 eg2 eg3
        subst eg1 eg3
        clear eg2
        have hcl := o1.cell q hqy 0 (by decide)
        rw [show KI.n * q + 0 = q by show 1 * q + 0 = q; omega] at hcl
        obtain ⟨s1, s2⟩ := hcl
        have s3 : wr.cell? ⟨g, q, none⟩ = some (.int .i64 (y.getD q 0)) := s1.trans (by rw [List.getD_eq_getElem?_getD, List.getElem?_eq_getElem hqy]; rfl)
        have i2 := fun W => (fun {gg oo nn cx kk} (hk : kk < nn) => at_int8 gg oo nn cx kk hk W) (gg := g) (oo := 0) (nn := x.length) (cx := cc) hqx
        simp only [Nat.zero_add] at i2
        generalize pick8 (bb.tdiv 32) 4001 = R1 at *
        generalize pick8 (bb.tdiv 7) 2 = R2 at *
        generalize y.getD q 0 = Y0 at *
        have HQY := Lib.hid hqy
        have HOL := Lib.hid o2
        have HPUT := Lib.hid (fun u : Int => show Own KI (wr.setCell ⟨g, q, none⟩ (.int .i64 u)) w.heap.size (.slice (some ⟨g, 0, none⟩) x.length cc) (y.set q u) from by
          have := (HO.out.put q HQY.out 0 (by decide) u (.int .i64 u) rfl).1
          rwa [show KI.n * q + 0 = q by show 1 * q + 0 = q; omega] at this)
        have hw1 := wrapq8 (x := R1 - 2000) (by omega); have hw2 := wrapq8 (x := (R1 - 2000) * 1000) (by omega)
        have hw3 := wrapq8 (x := Y0 + (R1 - 2000) * 1000) (by omega); have hw4 := wrapq8 (x := Y0 + (R1 - 2000)) (by omega)
        clear o1 o2 o3 o4 hq p0 p1 hdr hlt hqx hqy hyne s1 hcb hbb t32 t7 z0 z1 v1 v2 r0 r1 hgl
        by_cases hr2 : R2 = 1
        · have hr3 : (R2 == 1) = true := by rw [hr2]; rfl
          have HMZ := Lib.hid (show mv1 y bb = y.set q (Y0 + (R1 - 2000) * 1000) by rw [HM1.out, HMV.out, if_pos hr2])
          clear hr2
          go_wp2_with (first | (go_at_call 26; (first | (with_reducible refine (HPA.out _).mono ?_) | (with_reducible refine (HPB.out _).mono ?_) | (with_reducible refine (HPC.out _).mono ?_)); rintro e z ⟨rfl, rfl⟩))
          go_roundw
          case rel => exact ⟨k + 1, mv1 y bb, HLT.out, by go_num, Lib.hid ⟨by rw [HMZ.out]; exact HPUT.out _, by rw [mv1_len]; exact HOL.out, HNX.out, HBDN.out⟩, Lib.hid (HB.out.setCell hgb _)⟩
          case measure => have h9 := HLT.out; simp [RowKit.intOf]; omega
        · have hr3 : (R2 == 1) = false := by rw [beq_eq_false_iff_ne]; exact hr2
          have HMZ := Lib.hid (show mv1 y bb = y.set q (Y0 + (R1 - 2000)) by rw [HM1.out, HMV.out, if_neg hr2])
          clear hr2
          go_wp2_with (first | (go_at_call 26; (first | (with_reducible refine (HPA.out _).mono ?_) | (with_reducible refine (HPB.out _).mono ?_) | (with_reducible refine (HPC.out _).mono ?_)); rintro e z ⟨rfl, rfl⟩))
          go_roundw
          case rel => exact ⟨k + 1, mv1 y bb, HLT.out, by go_num, Lib.hid ⟨by rw [HMZ.out]; exact HPUT.out _, by rw [mv1_len]; exact HOL.out, HNX.out, HBDN.out⟩, Lib.hid (HB.out.setCell hgb _)⟩
          case measure => have h9 := HLT.out; simp [RowKit.intOf]; omega
    · have hki : ¬ (k : Int) < (by_.length : Int) := by omega
      have hki2 : decide ((k : Int) < (by_.length : Int)) = false := decide_eq_false hki
      have HF := Lib.hid (HEND.out (by rw [List.drop_of_length_le (by omega)]; cases y <;> rfl))
      go_wp2_with fail
      go_ret
      exact HF.out
end Go.Proofs.YtamefmojocegkaaDoor

namespace Go.Proofs.YtamefmojocegkaaDoor
open Go Go.Proofs Go.RowKit Go.Lib

def bent1 (e : Ev) (how by_ : Int) : Ev :=
  if pick8 how 4 = 0 then { e with tm := pick8 by_ 2000 }
  else if pick8 how 4 = 1 then { e with tm := e.tm + pick8 by_ 5 - 2 }
  else if pick8 how 4 = 2 then (if e.kd = 3 ∨ e.kd = 4 ∨ e.kd = 5 ∨ e.kd = 6 then { e with lk := pick8 by_ 4 } else e)
  else (if e.kd = 5 ∨ e.kd = 6 then { e with gn := pick8 by_ 4 } else e)
def flr8 (e : Ev) : Ev := if e.tm < 0 then { e with tm := 0 } else e
def bentN (l : List Ev) (at_ how by_ : Int) : List Ev := if l = [] then [] else l.set (pick8 at_ (l.length : Nat)).toNat (flr8 (bent1 (evD l (pick8 at_ (l.length : Nat)).toNat) how by_))
def EvsPost (w : World) (l : List Ev) (e : Ending) (w' : World) : Prop := ∃ ad c, e = .returned (.slice ad l.length c) ∧ l.length ≤ c ∧ (ad = none → c = 0) ∧ RN KE w' w.heap.size ad l ∧ Below w.heap.size w w'
theorem Own.evs8 {w W : World} {base g n c : Nat} {l : List Ev} (hb : Below base w W) (hbs : base = w.heap.size) (h : Own KE W base (.slice (some ⟨g, 0, none⟩) n c) l) : EvsPost w l (.returned (.slice (some ⟨g, 0, none⟩) n c)) W := by
  subst hbs
  obtain ⟨ad, c2, e, h1, h2⟩ := h.rn
  injection e with e1 e2 e3
  subst e1 e2 e3
  exact ⟨_, _, rfl, h1, (fun e => by cases e), h2, hb⟩
set_option maxRecDepth 100000 in
set_option maxHeartbeats 8000000 in
theorem bentR_any (a1 : Option Addr) (c1 : Nat) (l : List Ev) (at_ how by_ : Int) (hl : l.length ≤ 1000) (hn1 : a1 = none → c1 = 0) (x0 : -9223372036854775808 ≤ at_) (x1 : at_ ≤ 9223372036854775807) (y0 : -9223372036854775808 ≤ how) (y1 : how ≤ 9223372036854775807) (z0 : -9223372036854775808 ≤ by_) (z1 : by_ ≤ 9223372036854775807)
    (ht : ∀ e ∈ l, -1000000000000 ≤ e.tm ∧ e.tm ≤ 1000000000000) (w : World) (h1 : RL KE w a1 l) :
    Calls Tryd.prog 13 #[.slice a1 l.length c1, .int .i64 at_, .int .i64 how, .int .i64 by_] w (EvsPost w (bentN l at_ how by_)) := by
  obtain ⟨w1, V1, Z1, K1, B1⟩ := lay8 w [] 46
  go_enter Tryd.func13, Tryd.ntmps13
  have HO1 := Lib.hid (show Own KE w1 w.heap.size (.slice (some ⟨w.heap.size, 0, none⟩) 0 0) [] by rw [← V1]; exact KE.new w w.heap.size [] (Nat.le_refl _) (by simp) [] rfl 46 rfl 0 rfl)
  have HRB := Lib.hid (h1.below B1)
  have HB1 := Lib.hid B1
  clear K1 B1 h1
  go_upto_region 2 with (at_builtin; refine walk_arg8 KE rfl _ _ rfl w.heap.size (.slice (some ⟨w.heap.size, 0, none⟩) 0 0) l rfl HO1.out (by omega) a1 c1 rfl HRB.out hn1 (by omega) ?_; intro v2 w2 ho2 hb2)
  have HB2 := Lib.hid (show Below w.heap.size w w2 from HB1.out.trans hb2)
  have HOV := Lib.hid ho2
  rcases Nat.eq_zero_or_pos l.length with hl0 | hl0
  · obtain rfl : l = [] := List.length_eq_zero_iff.1 hl0
    obtain ⟨ad, cc, e2, hcc, hrn⟩ := ho2.rn
    subst e2
    have HP := Lib.hid (show EvsPost w (bentN [] at_ how by_) (.returned (.slice ad ([] : List Ev).length cc)) w2 from by
      refine ⟨ad, cc, rfl, hcc, fun e => ?_, .inl rfl, HB2.out⟩
      subst e
      have h := HOV.out
      rcases h.2 with ⟨hv, _⟩ | ⟨g, cap, cur, hv, _⟩
      · injection hv with _ _ e3
      · injection hv with e1 _ _; cases e1)
    clear ho2 hb2 hcc hrn hl0 V1 Z1 HO1 HRB HB1 ht
    go_wp2_with fail
    go_ret
    exact HP.out
  · obtain ⟨g, cc, e2, _, hgb, hgl⟩ := ho2.block hl0
    subst e2
    have p0 := pick8_lo (c := at_) (n := (l.length : Nat)) (by omega)
    have p1 := pick8_hi (c := at_) (n := (l.length : Nat)) (by omega)
    obtain ⟨q, hq⟩ := Int.eq_ofNat_of_zero_le p0
    have hql : q < l.length := by omega
    have HPA := Lib.hid (fun W => pickR8_any at_ (l.length : Nat) x0 x1 (by omega) (by omega) W)
    have HPH := Lib.hid (fun W => pickR8_any how 4 y0 y1 (by decide) (by decide) W)
    have HPZ := Lib.hid (fun (m : Int) (hm : 1 ≤ m) (hm2 : m ≤ 10000) W => pickR8_any by_ m z0 z1 hm (by omega) W)
    rw [hq] at HPA
    have HBN := Lib.hid (show bentN l at_ how by_ = l.set q (flr8 (bent1 (evD l q) how by_)) by unfold bentN; rw [if_neg (fun e => by rw [e] at hql; exact Nat.not_lt_zero _ hql), hq, Int.toNat_natCast])
    have hne : ((l.length : Int) == 0) = false := by rw [beq_eq_false_iff_ne]; omega
    have hE : evD l q = l[q] := evD_of hql
    have ht2 := ht _ (List.getElem_mem hql)
    obtain ⟨t0, t1⟩ := ht2
    have hcl := fun j (hj : j < 12) => ho2.cell q hql j hj
    have k2 : w2.cell? ⟨g, 12 * q + 2, none⟩ = some (.int .i64 l[q].tm) := (hcl 2 (by decide)).1
    have k3 : w2.cell? ⟨g, 12 * q + 3, none⟩ = some (.int .i64 l[q].kd) := (hcl 3 (by decide)).1
    have k6 : w2.cell? ⟨g, 12 * q + 6, none⟩ = some (.int .i64 l[q].lk) := (hcl 6 (by decide)).1
    have k7 : w2.cell? ⟨g, 12 * q + 7, none⟩ = some (.int .i64 l[q].gn) := (hcl 7 (by decide)).1
    have f2 : w2.frozen? ⟨g, 12 * q + 2, none⟩ = false := (hcl 2 (by decide)).2
    have f6 : w2.frozen? ⟨g, 12 * q + 6, none⟩ = false := (hcl 6 (by decide)).2
    have f7 : w2.frozen? ⟨g, 12 * q + 7, none⟩ = false := (hcl 7 (by decide)).2
    have HQ := Lib.hid hql
    have HEV := Lib.hid (show ∀ (W : World) (y : List Ev), y.length = l.length → Below w.heap.size w W → Own KE W w.heap.size (.slice (some ⟨g, 0, none⟩) l.length cc) y → EvsPost w y (.returned (.slice (some ⟨g, 0, none⟩) l.length cc)) W from fun W y _ b h => Own.evs8 b rfl h)
    rw [← hE] at k2 k3 k6 k7 t0 t1
    have HLQ := Lib.hid (show l[q]'HQ.out = evD l q from hE.symm)
    have HOE := Lib.hid (show ∀ (j : Nat) (hj : j < 12) (y : Ev) (u : Value), y.cells = (evD l q).cells.set j u → Own KE (w2.setCell ⟨g, 12 * q + j, none⟩ u) w.heap.size (.slice (some ⟨g, 0, none⟩) l.length cc) (l.set q y) from fun j hj y u he => (HOV.out.put q HQ.out j hj y u (by rw [hE] at he; exact he)).1)
    have HO2 := Lib.hid (show Own KE w2 w.heap.size (.slice (some ⟨g, 0, none⟩) l.length cc) (l.set q (evD l q)) by rw [hE, List.set_getElem_self]; exact HOV.out)
    have iq := fun W => at_ev8 g 0 l.length cc q hql W
    simp only [Nat.zero_add] at iq
    have HGB := Lib.hid hgb
    have HLS := Lib.hid (show ∀ y : Ev, (l.set q y).length = l.length from fun y => List.length_set)
    have HDEF := Lib.hid (show bent1 (evD l q) how by_ = if pick8 how 4 = 0 then { evD l q with tm := pick8 by_ 2000 } else if pick8 how 4 = 1 then { evD l q with tm := (evD l q).tm + pick8 by_ 5 - 2 } else if pick8 how 4 = 2 then (if (evD l q).kd = 3 ∨ (evD l q).kd = 4 ∨ (evD l q).kd = 5 ∨ (evD l q).kd = 6 then { evD l q with lk := pick8 by_ 4 } else evD l q) else (if (evD l q).kd = 5 ∨ (evD l q).kd = 6 then { evD l q with gn := pick8 by_ 4 } else evD l q) from rfl)
    have h0 := pick8_lo (c := how) (n := 4) (by decide)
    have h4 := pick8_hi (c := how) (n := 4) (by decide)
    generalize evD l q = E at *
    generalize bent1 E how by_ = E1 at *
    generalize pick8 how 4 = H at *
    have hH : H = 0 ∨ H = 1 ∨ H = 2 ∨ H = 3 := by omega
    clear ho2 hb2 hcl hE ht p0 p1 hq h0 h4 V1 Z1 HO1 HRB HB1 hl0 hql
    rcases hH with rfl | rfl | rfl | rfl
    · have HE1 := Lib.hid (show E1 = { E with tm := pick8 by_ 2000 } by rw [HDEF.out]; rw [if_pos rfl])
      have HPB := Lib.hid (HPZ.out 2000 (by decide) (by decide))
      have r0 := pick8_lo (c := by_) (n := 2000) (by decide)
      have r1 := pick8_hi (c := by_) (n := 2000) (by decide)
      generalize pick8 by_ 2000 = P at *
      have ng : ¬ P < 0 := by omega
      have ng2 : decide (P < 0) = false := decide_eq_false ng
      have HF := Lib.hid (show flr8 E1 = { E with tm := P } by rw [HE1.out]; unfold flr8; rw [if_neg ng])
      have HPST := Lib.hid (show EvsPost w (bentN l at_ how by_) (.returned (.slice (some ⟨g, 0, none⟩) l.length cc)) (w2.setCell ⟨g, 12 * q + 2, none⟩ (.int .i64 P)) by rw [HBN.out, HF.out]; exact HEV.out _ _ (HLS.out _) (HB2.out.setCell HGB.out _) (HOE.out 2 (by decide) { E with tm := P } (.int .i64 P) rfl))
      go_wp2_with (first | (go_at_call 38; (first | (with_reducible refine (HPA.out _).mono ?_) | (with_reducible refine (HPH.out _).mono ?_) | (with_reducible refine (HPB.out _).mono ?_)); rintro e z ⟨rfl, rfl⟩))
      go_ret
      exact HPST.out
    · have HE1 := Lib.hid (show E1 = { E with tm := E.tm + pick8 by_ 5 - 2 } by rw [HDEF.out]; rw [if_neg (by decide), if_pos rfl])
      have HPB := Lib.hid (HPZ.out 5 (by decide) (by decide))
      have r0 := pick8_lo (c := by_) (n := 5) (by decide)
      have r1 := pick8_hi (c := by_) (n := 5) (by decide)
      generalize pick8 by_ 5 = P at *
      have HPX := Lib.hid (show ∀ wx, Own KE wx w.heap.size (.slice (some ⟨g, 0, none⟩) l.length cc) l → Own KE (wx.setCell ⟨g, 12 * q + 2, none⟩ (.int .i64 (E.tm + P - 2))) w.heap.size (.slice (some ⟨g, 0, none⟩) l.length cc) (l.set q { E with tm := E.tm + P - 2 }) from fun wx h => (h.put q HQ.out 2 (by decide) { E with tm := E.tm + P - 2 } _ (HLQ.out ▸ rfl)).1)
      have hs1 := wrapq8 (x := E.tm + P) (by omega); have hs2 := wrapq8 (x := E.tm + P - 2) (by omega)
      go_upto_region 9 with (first | (go_at_call 38; (first | (with_reducible refine (HPA.out _).mono ?_) | (with_reducible refine (HPH.out _).mono ?_) | (with_reducible refine (HPB.out _).mono ?_)); rintro e z ⟨rfl, rfl⟩))
      refine wp_region_noPanic ?_
      refine wp_region_Kx (C := Grew w2) [11, 12, 13] 11 #[false, false, false, false, false, false, false, false, false, false, false, false, false, false] (by kernel_rfl) (by kernel_rfl) (by kernel_rfl) (grew0 _) ?_
      intro wx hwx
      have HBX := Lib.hid (HB2.out.trans (hwx.below.mono HB2.out.size))
      have HOX := Lib.hid (HOV.out.below hwx.below (Nat.le_refl _))
      have hlt2 := World.block_lt_of_cell? w2 ⟨g, 12 * q + 2, none⟩ k2
      have k2x : wx.cell? ⟨g, 12 * q + 2, none⟩ = some (.int .i64 E.tm) := (hwx.below.cell (p := ⟨g, 12 * q + 2, none⟩) hlt2).trans k2
      have f2x : wx.frozen? ⟨g, 12 * q + 2, none⟩ = false := (hwx.below.frozen (p := ⟨g, 12 * q + 2, none⟩) hlt2).trans f2
      refine wpAnyK_ex (i := 0) rfl (by kernel_rfl) (listed' := #[true, false, false, false, false, false, false, false, false, false, false, false, false, false]) rfl (fun _ _ _ _ _ h => h) hwx ?_
      apply Exists.intro
      refine ⟨⟨by rfl, fun wy hw => ?_⟩, ?_⟩
      · (have bw := hw.below; go_simp; try (first | (with_reducible rfl) | (with_reducible exact ⟨rfl, rfl⟩)))
      try simp only [Act.put]
      refine wpAnyK_ex (i := 1) rfl (by kernel_rfl) (listed' := #[true, true, false, false, false, false, false, false, false, false, false, false, false, false]) rfl (fun _ _ _ _ _ h => h) hwx ?_
      apply Exists.intro
      refine ⟨⟨by rfl, fun wy hw => ?_⟩, ?_⟩
      · (have bw := hw.below; go_simp; try (first | (with_reducible rfl) | (with_reducible exact ⟨rfl, rfl⟩)))
      try simp only [Act.put]
      refine wpAnyK_ex (i := 2) rfl (by kernel_rfl) (listed' := #[true, true, true, false, false, false, false, false, false, false, false, false, false, false]) rfl (fun _ _ _ _ _ h => h) hwx ?_
      apply Exists.intro
      refine ⟨⟨by rfl, fun wy hw => ?_⟩, ?_⟩
      · (have bw := hw.below; go_simp; try (first | (with_reducible rfl) | (with_reducible exact ⟨rfl, rfl⟩)))
      try simp only [Act.put]
      refine wpAnyK_ex (i := 3) rfl (by kernel_rfl) (listed' := #[true, true, true, true, false, false, false, false, false, false, false, false, false, false]) rfl (fun _ _ _ _ _ h => h) hwx ?_
      apply Exists.intro
      refine ⟨⟨by rfl, fun wy hw => ?_⟩, ?_⟩
      · (have bw := hw.below; go_simp; try (first | (with_reducible rfl) | (with_reducible exact ⟨rfl, rfl⟩)))
      try simp only [Act.put]
      refine wpAnyK_ex (i := 4) rfl (by kernel_rfl) (listed' := #[true, true, true, true, true, false, false, false, false, false, false, false, false, false]) rfl (fun _ _ _ _ _ h => h) hwx ?_
      apply Exists.intro
      refine ⟨⟨by rfl, fun wy hw => ?_⟩, ?_⟩
      · (have bw := hw.below; go_simp; try (first | (with_reducible rfl) | (with_reducible exact ⟨rfl, rfl⟩)))
      try simp only [Act.put]
      refine wpAnyK_ex (i := 5) rfl (by kernel_rfl) (listed' := #[true, true, true, true, true, true, false, false, false, false, false, false, false, false]) rfl (fun _ _ _ _ _ h => h) hwx ?_
      apply Exists.intro
      refine ⟨⟨by rfl, fun wy hw => ?_⟩, ?_⟩
      · (have bw := hw.below; go_simp; try (first | (with_reducible rfl) | (with_reducible exact ⟨rfl, rfl⟩)))
      try simp only [Act.put]
      refine wpAnyK_ex (i := 6) rfl (by kernel_rfl) (listed' := #[true, true, true, true, true, true, true, false, false, false, false, false, false, false]) rfl (fun _ _ _ _ _ h => h) hwx ?_
      apply Exists.intro
      refine ⟨⟨by rfl, fun wy hw => ?_⟩, ?_⟩
      · (have bw := hw.below; have k2y := (bw.cell (p := ⟨g, 12 * q + 2, none⟩) hlt2).trans k2; go_simp; try (first | (with_reducible rfl) | (with_reducible exact ⟨rfl, rfl⟩)))
      try simp only [Act.put]
      refine wpAnyK_ex (i := 7) rfl (by kernel_rfl) (listed' := #[true, true, true, true, true, true, true, true, false, false, false, false, false, false]) rfl (fun _ _ _ _ _ h => h) hwx ?_
      apply Exists.intro
      refine ⟨⟨by rfl, fun wy hw => ?_⟩, ?_⟩
      · (have bw := hw.below; go_simp; try (first | (with_reducible rfl) | (with_reducible exact ⟨rfl, rfl⟩)))
      try simp only [Act.put]
      refine wpAnyK_callx (i := 8) rfl (by kernel_rfl) (listed' := #[true, true, true, true, true, true, true, true, true, false, false, false, false, false]) rfl (fun _ _ _ _ _ h => h) hwx ?_
      apply Exists.intro
      apply Exists.intro
      apply Exists.intro
      refine ⟨⟨by rfl, fun wy hw => ?_, fun wy hw => ?_⟩, ?_⟩
      · (have bw := hw.below; go_simp; try (first | (with_reducible rfl) | (with_reducible exact ⟨rfl, rfl⟩)))
      · (exact (HPB.out _).mono (fun e w2 h => ⟨h.1, h.2.symm⟩))
      try simp only [Act.put]
      refine wpAnyK_ex (i := 9) rfl (by kernel_rfl) (listed' := #[true, true, true, true, true, true, true, true, true, true, false, false, false, false]) rfl (fun _ _ _ _ _ h => h) hwx ?_
      apply Exists.intro
      refine ⟨⟨by rfl, fun wy hw => ?_⟩, ?_⟩
      · (have bw := hw.below; go_simp; try (first | (with_reducible rfl) | (with_reducible exact ⟨rfl, rfl⟩)))
      try simp only [Act.put]
      refine wpAnyK_ex (i := 10) rfl (by kernel_rfl) (listed' := #[true, true, true, true, true, true, true, true, true, true, true, false, false, false]) rfl (fun _ _ _ _ _ h => h) hwx ?_
      apply Exists.intro
      refine ⟨⟨by rfl, fun wy hw => ?_⟩, ?_⟩
      · (have bw := hw.below; go_simp; try (first | (with_reducible rfl) | (with_reducible exact ⟨rfl, rfl⟩)))
      try simp only [Act.put]
      refine wpAnyK_end (by kernel_rfl) ?_
      try simp only [pickOps, List.filterMap_cons, List.filterMap_nil, List.getElem?_toArray, List.getElem?_cons_succ, List.getElem?_cons_zero]
      clear hwx
      go_wp2_with fail
      refine NoPanic.normal ?_
      go_upto_region 16 with fail
      obtain ⟨w9, hw9⟩ : ∃ w9, w9 = wx.setCell ⟨g, 12 * q + 2, none⟩ (.int .i64 (E.tm + P - 2)) := ⟨_, rfl⟩
      rw [← hw9]
      have HO9 := Lib.hid (show Own KE w9 w.heap.size (.slice (some ⟨g, 0, none⟩) l.length cc) (l.set q { E with tm := E.tm + P - 2 }) by rw [hw9]; exact HPX.out wx HOX.out)
      have HB9 := Lib.hid (show Below w.heap.size w w9 by rw [hw9]; exact HBX.out.setCell HGB.out _)
      clear hw9 k2x f2x hlt2
      clear k2 k3 k6 k7 f2 f6 f7
      have hc9 := HO9.out.cell q (by rw [HLS.out]; exact HQ.out) 2 (by decide)
      have e9 : (l.set q { E with tm := E.tm + P - 2 })[q]'(by rw [HLS.out]; exact HQ.out) = { E with tm := E.tm + P - 2 } := List.getElem_set_self _
      rw [e9] at hc9
      have k2 : w9.cell? ⟨g, 12 * q + 2, none⟩ = some (.int .i64 (E.tm + P - 2)) := hc9.1
      have f2 : w9.frozen? ⟨g, 12 * q + 2, none⟩ = false := hc9.2
      clear hc9 e9
      by_cases ng : E.tm + P - 2 < 0
      · have HPST := Lib.hid (show EvsPost w (bentN l at_ how by_) (.returned (.slice (some ⟨g, 0, none⟩) l.length cc)) (w9.setCell ⟨g, 12 * q + 2, none⟩ (.int .i64 0)) by
          rw [HBN.out, HE1.out]
          unfold flr8
          rw [if_pos ng]
          have hp := (HO9.out.put q (by rw [HLS.out]; exact HQ.out) 2 (by decide) { E with tm := 0 } (.int .i64 0) (by rw [List.getElem_set_self]; rfl)).1
          rw [List.set_set] at hp
          exact HEV.out _ _ (HLS.out _) (HB9.out.setCell HGB.out _) hp)
        go_wp2_with fail
        go_ret
        exact HPST.out
      · have ng2 : decide (E.tm + P - 2 < 0) = false := decide_eq_false ng
        have HPST := Lib.hid (show EvsPost w (bentN l at_ how by_) (.returned (.slice (some ⟨g, 0, none⟩) l.length cc)) w9 by
          rw [HBN.out, HE1.out]
          unfold flr8
          rw [if_neg ng]
          exact HEV.out _ _ (HLS.out _) HB9.out HO9.out)
        go_wp2_with fail
        go_ret
        exact HPST.out
    · have HD := Lib.hid (show E1 = if E.kd = 3 ∨ E.kd = 4 ∨ E.kd = 5 ∨ E.kd = 6 then { E with lk := pick8 by_ 4 } else E by rw [HDEF.out]; rw [if_neg (by decide), if_neg (by decide), if_pos rfl])
      have HPB := Lib.hid (HPZ.out 4 (by decide) (by decide))
      generalize pick8 by_ 4 = P at *
      cases q3 : (E.kd == 3) with
      | true =>
        have HE1 := Lib.hid (show E1 = { E with lk := P } by rw [HD.out, if_pos (by rw [beq_iff_eq] at q3; omega)])
        by_cases ng : E.tm < 0
        · have HPST := Lib.hid (show EvsPost w (bentN l at_ how by_) (.returned (.slice (some ⟨g, 0, none⟩) l.length cc)) ((w2.setCell ⟨g, 12 * q + 6, none⟩ (.int .i64 P)).setCell ⟨g, 12 * q + 2, none⟩ (.int .i64 0)) by
            have HX := (HOE.out 6 (by decide) ({ E with lk := P } : Ev) (.int .i64 P) rfl)
            have hp := (HX.put q (by rw [HLS.out]; exact HQ.out) 2 (by decide) ({ E with lk := P, tm := 0 } : Ev) (.int .i64 0) (by rw [List.getElem_set_self]; rfl)).1
            rw [List.set_set] at hp
            have e1 : flr8 E1 = ({ E with lk := P, tm := 0 } : Ev) := by rw [HE1.out]; unfold flr8; rw [if_pos ng]
            rw [HBN.out, e1]
            exact HEV.out _ _ (HLS.out _) (((HB2.out.setCell HGB.out _)).setCell HGB.out _) hp)
          go_wp2_with (first | (go_at_call 38; (first | (with_reducible refine (HPA.out _).mono ?_) | (with_reducible refine (HPH.out _).mono ?_) | (with_reducible refine (HPB.out _).mono ?_)); rintro e z ⟨rfl, rfl⟩))
          go_ret
          exact HPST.out
        · have ng2 : decide (E.tm < 0) = false := decide_eq_false ng
          have HPST := Lib.hid (show EvsPost w (bentN l at_ how by_) (.returned (.slice (some ⟨g, 0, none⟩) l.length cc)) (w2.setCell ⟨g, 12 * q + 6, none⟩ (.int .i64 P)) by
            have e1 : flr8 E1 = { E with lk := P } := by rw [HE1.out]; unfold flr8; rw [if_neg ng]
            rw [HBN.out, e1]
            exact HEV.out _ _ (HLS.out _) ((HB2.out.setCell HGB.out _)) (HOE.out 6 (by decide) ({ E with lk := P } : Ev) (.int .i64 P) rfl))
          go_wp2_with (first | (go_at_call 38; (first | (with_reducible refine (HPA.out _).mono ?_) | (with_reducible refine (HPH.out _).mono ?_) | (with_reducible refine (HPB.out _).mono ?_)); rintro e z ⟨rfl, rfl⟩))
          go_ret
          exact HPST.out
      | false =>
        cases q4 : (E.kd == 4) with
        | true =>
          have HE1 := Lib.hid (show E1 = { E with lk := P } by rw [HD.out, if_pos (by rw [beq_iff_eq] at q4; omega)])
          by_cases ng : E.tm < 0
          · have HPST := Lib.hid (show EvsPost w (bentN l at_ how by_) (.returned (.slice (some ⟨g, 0, none⟩) l.length cc)) ((w2.setCell ⟨g, 12 * q + 6, none⟩ (.int .i64 P)).setCell ⟨g, 12 * q + 2, none⟩ (.int .i64 0)) by
              have HX := (HOE.out 6 (by decide) ({ E with lk := P } : Ev) (.int .i64 P) rfl)
              have hp := (HX.put q (by rw [HLS.out]; exact HQ.out) 2 (by decide) ({ E with lk := P, tm := 0 } : Ev) (.int .i64 0) (by rw [List.getElem_set_self]; rfl)).1
              rw [List.set_set] at hp
              have e1 : flr8 E1 = ({ E with lk := P, tm := 0 } : Ev) := by rw [HE1.out]; unfold flr8; rw [if_pos ng]
              rw [HBN.out, e1]
              exact HEV.out _ _ (HLS.out _) (((HB2.out.setCell HGB.out _)).setCell HGB.out _) hp)
            go_wp2_with (first | (go_at_call 38; (first | (with_reducible refine (HPA.out _).mono ?_) | (with_reducible refine (HPH.out _).mono ?_) | (with_reducible refine (HPB.out _).mono ?_)); rintro e z ⟨rfl, rfl⟩))
            go_ret
            exact HPST.out
          · have ng2 : decide (E.tm < 0) = false := decide_eq_false ng
            have HPST := Lib.hid (show EvsPost w (bentN l at_ how by_) (.returned (.slice (some ⟨g, 0, none⟩) l.length cc)) (w2.setCell ⟨g, 12 * q + 6, none⟩ (.int .i64 P)) by
              have e1 : flr8 E1 = { E with lk := P } := by rw [HE1.out]; unfold flr8; rw [if_neg ng]
              rw [HBN.out, e1]
              exact HEV.out _ _ (HLS.out _) ((HB2.out.setCell HGB.out _)) (HOE.out 6 (by decide) ({ E with lk := P } : Ev) (.int .i64 P) rfl))
            go_wp2_with (first | (go_at_call 38; (first | (with_reducible refine (HPA.out _).mono ?_) | (with_reducible refine (HPH.out _).mono ?_) | (with_reducible refine (HPB.out _).mono ?_)); rintro e z ⟨rfl, rfl⟩))
            go_ret
            exact HPST.out
        | false =>
          cases q5 : (E.kd == 5) with
          | true =>
            have HE1 := Lib.hid (show E1 = { E with lk := P } by rw [HD.out, if_pos (by rw [beq_iff_eq] at q5; omega)])
            by_cases ng : E.tm < 0
            · have HPST := Lib.hid (show EvsPost w (bentN l at_ how by_) (.returned (.slice (some ⟨g, 0, none⟩) l.length cc)) ((w2.setCell ⟨g, 12 * q + 6, none⟩ (.int .i64 P)).setCell ⟨g, 12 * q + 2, none⟩ (.int .i64 0)) by
                have HX := (HOE.out 6 (by decide) ({ E with lk := P } : Ev) (.int .i64 P) rfl)
                have hp := (HX.put q (by rw [HLS.out]; exact HQ.out) 2 (by decide) ({ E with lk := P, tm := 0 } : Ev) (.int .i64 0) (by rw [List.getElem_set_self]; rfl)).1
                rw [List.set_set] at hp
                have e1 : flr8 E1 = ({ E with lk := P, tm := 0 } : Ev) := by rw [HE1.out]; unfold flr8; rw [if_pos ng]
                rw [HBN.out, e1]
                exact HEV.out _ _ (HLS.out _) (((HB2.out.setCell HGB.out _)).setCell HGB.out _) hp)
              go_wp2_with (first | (go_at_call 38; (first | (with_reducible refine (HPA.out _).mono ?_) | (with_reducible refine (HPH.out _).mono ?_) | (with_reducible refine (HPB.out _).mono ?_)); rintro e z ⟨rfl, rfl⟩))
              go_ret
              exact HPST.out
            · have ng2 : decide (E.tm < 0) = false := decide_eq_false ng
              have HPST := Lib.hid (show EvsPost w (bentN l at_ how by_) (.returned (.slice (some ⟨g, 0, none⟩) l.length cc)) (w2.setCell ⟨g, 12 * q + 6, none⟩ (.int .i64 P)) by
                have e1 : flr8 E1 = { E with lk := P } := by rw [HE1.out]; unfold flr8; rw [if_neg ng]
                rw [HBN.out, e1]
                exact HEV.out _ _ (HLS.out _) ((HB2.out.setCell HGB.out _)) (HOE.out 6 (by decide) ({ E with lk := P } : Ev) (.int .i64 P) rfl))
              go_wp2_with (first | (go_at_call 38; (first | (with_reducible refine (HPA.out _).mono ?_) | (with_reducible refine (HPH.out _).mono ?_) | (with_reducible refine (HPB.out _).mono ?_)); rintro e z ⟨rfl, rfl⟩))
              go_ret
              exact HPST.out
          | false =>
            cases q6 : (E.kd == 6) with
            | true =>
              have HE1 := Lib.hid (show E1 = { E with lk := P } by rw [HD.out, if_pos (by rw [beq_iff_eq] at q6; omega)])
              by_cases ng : E.tm < 0
              · have HPST := Lib.hid (show EvsPost w (bentN l at_ how by_) (.returned (.slice (some ⟨g, 0, none⟩) l.length cc)) ((w2.setCell ⟨g, 12 * q + 6, none⟩ (.int .i64 P)).setCell ⟨g, 12 * q + 2, none⟩ (.int .i64 0)) by
                  have HX := (HOE.out 6 (by decide) ({ E with lk := P } : Ev) (.int .i64 P) rfl)
                  have hp := (HX.put q (by rw [HLS.out]; exact HQ.out) 2 (by decide) ({ E with lk := P, tm := 0 } : Ev) (.int .i64 0) (by rw [List.getElem_set_self]; rfl)).1
                  rw [List.set_set] at hp
                  have e1 : flr8 E1 = ({ E with lk := P, tm := 0 } : Ev) := by rw [HE1.out]; unfold flr8; rw [if_pos ng]
                  rw [HBN.out, e1]
                  exact HEV.out _ _ (HLS.out _) (((HB2.out.setCell HGB.out _)).setCell HGB.out _) hp)
                go_wp2_with (first | (go_at_call 38; (first | (with_reducible refine (HPA.out _).mono ?_) | (with_reducible refine (HPH.out _).mono ?_) | (with_reducible refine (HPB.out _).mono ?_)); rintro e z ⟨rfl, rfl⟩))
                go_ret
                exact HPST.out
              · have ng2 : decide (E.tm < 0) = false := decide_eq_false ng
                have HPST := Lib.hid (show EvsPost w (bentN l at_ how by_) (.returned (.slice (some ⟨g, 0, none⟩) l.length cc)) (w2.setCell ⟨g, 12 * q + 6, none⟩ (.int .i64 P)) by
                  have e1 : flr8 E1 = { E with lk := P } := by rw [HE1.out]; unfold flr8; rw [if_neg ng]
                  rw [HBN.out, e1]
                  exact HEV.out _ _ (HLS.out _) ((HB2.out.setCell HGB.out _)) (HOE.out 6 (by decide) ({ E with lk := P } : Ev) (.int .i64 P) rfl))
                go_wp2_with (first | (go_at_call 38; (first | (with_reducible refine (HPA.out _).mono ?_) | (with_reducible refine (HPH.out _).mono ?_) | (with_reducible refine (HPB.out _).mono ?_)); rintro e z ⟨rfl, rfl⟩))
                go_ret
                exact HPST.out
            | false =>
              have HE1 := Lib.hid (show E1 = E by rw [HD.out, if_neg (by simp only [beq_eq_false_iff_ne] at q3 q4 q5 q6; omega)])
              by_cases ng : E.tm < 0
              · have HPST := Lib.hid (show EvsPost w (bentN l at_ how by_) (.returned (.slice (some ⟨g, 0, none⟩) l.length cc)) ((w2).setCell ⟨g, 12 * q + 2, none⟩ (.int .i64 0)) by
                  have HX := HO2.out
                  have hp := (HX.put q (by rw [HLS.out]; exact HQ.out) 2 (by decide) ({ E with tm := 0 } : Ev) (.int .i64 0) (by rw [List.getElem_set_self]; rfl)).1
                  rw [List.set_set] at hp
                  have e1 : flr8 E1 = ({ E with tm := 0 } : Ev) := by rw [HE1.out]; unfold flr8; rw [if_pos ng]
                  rw [HBN.out, e1]
                  exact HEV.out _ _ (HLS.out _) ((HB2.out).setCell HGB.out _) hp)
                go_wp2_with (first | (go_at_call 38; (first | (with_reducible refine (HPA.out _).mono ?_) | (with_reducible refine (HPH.out _).mono ?_) | (with_reducible refine (HPB.out _).mono ?_)); rintro e z ⟨rfl, rfl⟩))
                go_ret
                exact HPST.out
              · have ng2 : decide (E.tm < 0) = false := decide_eq_false ng
                have HPST := Lib.hid (show EvsPost w (bentN l at_ how by_) (.returned (.slice (some ⟨g, 0, none⟩) l.length cc)) (w2) by
                  have e1 : flr8 E1 = E := by rw [HE1.out]; unfold flr8; rw [if_neg ng]
                  rw [HBN.out, e1]
                  exact HEV.out _ _ (HLS.out _) (HB2.out) HO2.out)
                go_wp2_with (first | (go_at_call 38; (first | (with_reducible refine (HPA.out _).mono ?_) | (with_reducible refine (HPH.out _).mono ?_) | (with_reducible refine (HPB.out _).mono ?_)); rintro e z ⟨rfl, rfl⟩))
                go_ret
                exact HPST.out
    · have HD := Lib.hid (show E1 = if E.kd = 5 ∨ E.kd = 6 then { E with gn := pick8 by_ 4 } else E by rw [HDEF.out]; rw [if_neg (by decide), if_neg (by decide), if_neg (by decide)])
      have HPB := Lib.hid (HPZ.out 4 (by decide) (by decide))
      generalize pick8 by_ 4 = P at *
      cases q5 : (E.kd == 5) with
      | true =>
        have HE1 := Lib.hid (show E1 = { E with gn := P } by rw [HD.out, if_pos (by rw [beq_iff_eq] at q5; omega)])
        by_cases ng : E.tm < 0
        · have HPST := Lib.hid (show EvsPost w (bentN l at_ how by_) (.returned (.slice (some ⟨g, 0, none⟩) l.length cc)) ((w2.setCell ⟨g, 12 * q + 7, none⟩ (.int .i64 P)).setCell ⟨g, 12 * q + 2, none⟩ (.int .i64 0)) by
            have HX := (HOE.out 7 (by decide) ({ E with gn := P } : Ev) (.int .i64 P) rfl)
            have hp := (HX.put q (by rw [HLS.out]; exact HQ.out) 2 (by decide) ({ E with gn := P, tm := 0 } : Ev) (.int .i64 0) (by rw [List.getElem_set_self]; rfl)).1
            rw [List.set_set] at hp
            have e1 : flr8 E1 = ({ E with gn := P, tm := 0 } : Ev) := by rw [HE1.out]; unfold flr8; rw [if_pos ng]
            rw [HBN.out, e1]
            exact HEV.out _ _ (HLS.out _) (((HB2.out.setCell HGB.out _)).setCell HGB.out _) hp)
          go_wp2_with (first | (go_at_call 38; (first | (with_reducible refine (HPA.out _).mono ?_) | (with_reducible refine (HPH.out _).mono ?_) | (with_reducible refine (HPB.out _).mono ?_)); rintro e z ⟨rfl, rfl⟩))
          go_ret
          exact HPST.out
        · have ng2 : decide (E.tm < 0) = false := decide_eq_false ng
          have HPST := Lib.hid (show EvsPost w (bentN l at_ how by_) (.returned (.slice (some ⟨g, 0, none⟩) l.length cc)) (w2.setCell ⟨g, 12 * q + 7, none⟩ (.int .i64 P)) by
            have e1 : flr8 E1 = { E with gn := P } := by rw [HE1.out]; unfold flr8; rw [if_neg ng]
            rw [HBN.out, e1]
            exact HEV.out _ _ (HLS.out _) ((HB2.out.setCell HGB.out _)) (HOE.out 7 (by decide) ({ E with gn := P } : Ev) (.int .i64 P) rfl))
          go_wp2_with (first | (go_at_call 38; (first | (with_reducible refine (HPA.out _).mono ?_) | (with_reducible refine (HPH.out _).mono ?_) | (with_reducible refine (HPB.out _).mono ?_)); rintro e z ⟨rfl, rfl⟩))
          go_ret
          exact HPST.out
      | false =>
        cases q6 : (E.kd == 6) with
        | true =>
          have HE1 := Lib.hid (show E1 = { E with gn := P } by rw [HD.out, if_pos (by rw [beq_iff_eq] at q6; omega)])
          by_cases ng : E.tm < 0
          · have HPST := Lib.hid (show EvsPost w (bentN l at_ how by_) (.returned (.slice (some ⟨g, 0, none⟩) l.length cc)) ((w2.setCell ⟨g, 12 * q + 7, none⟩ (.int .i64 P)).setCell ⟨g, 12 * q + 2, none⟩ (.int .i64 0)) by
              have HX := (HOE.out 7 (by decide) ({ E with gn := P } : Ev) (.int .i64 P) rfl)
              have hp := (HX.put q (by rw [HLS.out]; exact HQ.out) 2 (by decide) ({ E with gn := P, tm := 0 } : Ev) (.int .i64 0) (by rw [List.getElem_set_self]; rfl)).1
              rw [List.set_set] at hp
              have e1 : flr8 E1 = ({ E with gn := P, tm := 0 } : Ev) := by rw [HE1.out]; unfold flr8; rw [if_pos ng]
              rw [HBN.out, e1]
              exact HEV.out _ _ (HLS.out _) (((HB2.out.setCell HGB.out _)).setCell HGB.out _) hp)
            go_wp2_with (first | (go_at_call 38; (first | (with_reducible refine (HPA.out _).mono ?_) | (with_reducible refine (HPH.out _).mono ?_) | (with_reducible refine (HPB.out _).mono ?_)); rintro e z ⟨rfl, rfl⟩))
            go_ret
            exact HPST.out
          · have ng2 : decide (E.tm < 0) = false := decide_eq_false ng
            have HPST := Lib.hid (show EvsPost w (bentN l at_ how by_) (.returned (.slice (some ⟨g, 0, none⟩) l.length cc)) (w2.setCell ⟨g, 12 * q + 7, none⟩ (.int .i64 P)) by
              have e1 : flr8 E1 = { E with gn := P } := by rw [HE1.out]; unfold flr8; rw [if_neg ng]
              rw [HBN.out, e1]
              exact HEV.out _ _ (HLS.out _) ((HB2.out.setCell HGB.out _)) (HOE.out 7 (by decide) ({ E with gn := P } : Ev) (.int .i64 P) rfl))
            go_wp2_with (first | (go_at_call 38; (first | (with_reducible refine (HPA.out _).mono ?_) | (with_reducible refine (HPH.out _).mono ?_) | (with_reducible refine (HPB.out _).mono ?_)); rintro e z ⟨rfl, rfl⟩))
            go_ret
            exact HPST.out
        | false =>
          have HE1 := Lib.hid (show E1 = E by rw [HD.out, if_neg (by simp only [beq_eq_false_iff_ne] at q5 q6; omega)])
          by_cases ng : E.tm < 0
          · have HPST := Lib.hid (show EvsPost w (bentN l at_ how by_) (.returned (.slice (some ⟨g, 0, none⟩) l.length cc)) ((w2).setCell ⟨g, 12 * q + 2, none⟩ (.int .i64 0)) by
              have HX := HO2.out
              have hp := (HX.put q (by rw [HLS.out]; exact HQ.out) 2 (by decide) ({ E with tm := 0 } : Ev) (.int .i64 0) (by rw [List.getElem_set_self]; rfl)).1
              rw [List.set_set] at hp
              have e1 : flr8 E1 = ({ E with tm := 0 } : Ev) := by rw [HE1.out]; unfold flr8; rw [if_pos ng]
              rw [HBN.out, e1]
              exact HEV.out _ _ (HLS.out _) ((HB2.out).setCell HGB.out _) hp)
            go_wp2_with (first | (go_at_call 38; (first | (with_reducible refine (HPA.out _).mono ?_) | (with_reducible refine (HPH.out _).mono ?_) | (with_reducible refine (HPB.out _).mono ?_)); rintro e z ⟨rfl, rfl⟩))
            go_ret
            exact HPST.out
          · have ng2 : decide (E.tm < 0) = false := decide_eq_false ng
            have HPST := Lib.hid (show EvsPost w (bentN l at_ how by_) (.returned (.slice (some ⟨g, 0, none⟩) l.length cc)) (w2) by
              have e1 : flr8 E1 = E := by rw [HE1.out]; unfold flr8; rw [if_neg ng]
              rw [HBN.out, e1]
              exact HEV.out _ _ (HLS.out _) (HB2.out) HO2.out)
            go_wp2_with (first | (go_at_call 38; (first | (with_reducible refine (HPA.out _).mono ?_) | (with_reducible refine (HPH.out _).mono ?_) | (with_reducible refine (HPB.out _).mono ?_)); rintro e z ⟨rfl, rfl⟩))
            go_ret
            exact HPST.out
end Go.Proofs.YtamefmojocegkaaDoor
